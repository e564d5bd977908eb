/-
  Contracts of unescaped and Read.
-/
import Derived.Test.YtgljgjkoaaibnaaMa
namespace Go.Proofs.Ytgljgjkoaaibnaa.KK
open Go.ChangeShapes Go.WideShapes Go.ChangeAt Go.RowKit Go.Proofs

theorem own_snoc {w : World} {base : Nat} {v : Value} {t : List UInt8} {c : UInt8} (h : w.ownsRow base 5 1 v (t.length + 1) (t.map B8 ++ [.int .u8 (c.toNat : Int)])) : w.ownsRow base 5 1 v (t ++ [c]).length ((t ++ [c]).map B8) := by
  simpa [B8] using h
def unV (o : Option (List UInt8)) : Value := match o with | some k => .tuple #[.string ⟨k.toArray⟩, .bool true] | none => .tuple #[.string ⟨#[]⟩, .bool false]
theorem omap (t : List UInt8) (c : UInt8) (o : Option (List UInt8)) : (o.map (c :: ·)).map (t ++ ·) = o.map ((t ++ [c]) ++ ·) := by cases o <;> simp
theorem ne_str (s : ByteArray) (h : 0 < s.size) : s.toList ≠ [] ∧ s.toList.isEmpty = false := by
  have : s.toList ≠ [] := by
    rw [Lib.toList_data]; intro e
    have := Lib.size_eq s; rw [e, List.length_nil] at this; omega
  exact ⟨this, by simpa using this⟩

set_option maxRecDepth 100000 in
set_option maxHeartbeats 1000000 in
theorem unescaped_any (s0 : ByteArray) (w : World) (hs0 : s0.size ≤ 4294967295) :
    Calls Try.prog 53 #[.string s0] w fun e w' => e = .returned (unV (Kl.unt (Kl.L s0))) ∧ Below w.heap.size w w' := by
  obtain ⟨i0, hi, hz0, hz1, hz2⟩ := info_parts infoB
  go_enter Try.func53, Try.ntmps53
  go_wp2_with fail
  go_loopw [0, 4] (fun sv v wr => ∃ (s : ByteArray) (t : List UInt8), s.size + t.length ≤ s0.size ∧ sv = .string s ∧ wr.ownsRow w.heap.size 5 1 v t.length (t.map B8) ∧ Below w.heap.size w wr ∧ (Kl.unt (Kl.L s)).map (t ++ ·) = Kl.unt (Kl.L s0)) (fun sv _ _ => match sv with | .string s => s.size | _ => 0)
  case atStart => exact ⟨s0, [], by simp, rfl, World.ownsRow_nil _ _ _ _, Below.refl _ _, by simp⟩
  case round =>
    obtain ⟨s, t, hst, rfl, hown, hbl, hun⟩ := hrel
    have hsz := hbl.size
    have HB := Lib.hid hbl
    have HU := Lib.hid hun
    clear hbl hun
    by_cases h0 : 0 < s.size
    · obtain ⟨z1, z2⟩ := ne_str s h0
      have hLs : Kl.L s ≠ [] := by
        obtain ⟨t, ht⟩ := L_cons s h0
        rw [ht]; simp
      have K := fun w => readByte_any s w (by omega) h0
      cases hr : Kl.rb (Kl.L s) with
      | none =>
        rw [hr] at K
        have J := Lib.hid K
        have H : Hid (Kl.unt (Kl.L s0) = none) := Lib.hid (by rw [← HU.out, Kl.unt_none hLs hr]; rfl)
        clear K hr hLs
        go_wp2_with fail
        refine (J.out _).mono ?_
        rintro e w1 ⟨rfl, hb⟩
        have HB := Lib.hid (below_of HB.out hb (Nat.le_refl _))
        clear hb
        unfold rbV
        go_wp2_with fail
        go_ret2
        exact ⟨by rw [H.out]; rfl, HB.out⟩
      | some x =>
        obtain ⟨c, n⟩ := x
        have hw := Kl.rb_width hr
        rw [Kl.L_length] at hw
        obtain ⟨hn1, hn2⟩ := hw
        rw [hr] at K
        have J := Lib.hid K
        have HX : Hid ((Kl.unt (Kl.L (s.extract n s.size))).map ((t ++ [c]) ++ ·) = Kl.unt (Kl.L s0)) := Lib.hid (by rw [L_from s n hn2, ← omap, ← Kl.unt_some hr, HU.out])
        have hz : (s.extract n s.size).size = s.size - n := by simp
        have HZ := Lib.hid hz
        clear K hr hLs hz
        have d1 : (0 : Int) ≤ (n : Int) := by omega
        have d2 : (n : Int) ≤ (s.size : Int) := by omega
        go_wp2_with fail
        refine (J.out _).mono ?_
        rintro e w1 ⟨rfl, hb⟩
        have hown1 := own_below hown hb
        have hsz1 := hb.size
        have HB := Lib.hid (below_of HB.out hb (Nat.le_refl _))
        clear hb
        unfold rbV
        go_wp2_with (at_builtin; refine wpList_append_own _ rfl (.tmp 18) (.tmp 20) 51 rfl w.heap.size 5 i0 (.int .u8 0) 1 1 Try.underlying51 hi hz0 hz1 hz2 rfl (by decide) _ t.length _ rfl (hown1.alloc _) ⟨w1.heap.size, 0, none⟩ 1 1 [.int .u8 (c.toNat : Int)] rfl rfl (cell_one_new _ _ _) (by simp [Value.oneCell']) (by unfold maxLen; omega) (by omega) (by simp; omega) ?_; intro v2 w2 hown2 hg2 _; have HG2 := Lib.hid hg2; clear hg2)
        go_roundw
        case rel => exact ⟨s.extract n s.size, t ++ [c], by rw [HZ.out]; simp; omega, rfl, own_snoc hown2, (HB.out.alloc (by omega) _).grown HG2.out (by simp; omega) (fun g hg => (hown1.lt g hg).1), HX.out⟩
        case measure => show (s.extract n s.size).size < s.size; rw [HZ.out]; omega
    · have hz : s.size = 0 := by omega
      have z1 : s.toList = [] := by rw [Lib.toList_data]; exact List.eq_nil_of_length_eq_zero (by rw [← Lib.size_eq]; exact hz)
      have hL0 : Kl.L s = [] := List.eq_nil_of_length_eq_zero (by rw [Kl.L_length]; exact hz)
      have H : Hid (Kl.unt (Kl.L s0) = some t) := Lib.hid (by rw [← HU.out, hL0, Kl.unt_nil]; simp)
      have hcv := conv_own hown
      clear hL0 h0 hz
      go_wp2_with fail
      go_ret2
      exact ⟨by rw [H.out]; rfl, HB.out⟩

/-- Read's answer -/
def readV (l : List UInt8) : Value := strE (Kl.readE l)
set_option maxRecDepth 100000 in
set_option maxHeartbeats 1000000 in
theorem kRead_any (s : ByteArray) (w : World) (hs : s.size ≤ 4294967295) :
    Calls Try.prog 37 #[.string s] w fun e w' => e = .returned (strE (Kl.readE (Kl.L s))) ∧ Below w.heap.size w w' := by
  by_cases h128 : 128 < s.size
  · have d1 : decide ((128 : Int) < (s.size : Int)) = true := by simp; omega
    have H : Hid (Kl.readE (Kl.L s) = (3, [])) := Lib.hid (by unfold Kl.readE; rw [Kl.L_length, if_pos h128])
    clear h128
    go_enter Try.func37, Try.ntmps37
    go_wp2_with fail
    go_ret2
    exact ⟨by rw [H.out]; rfl, Below.refl _ _⟩
  have d1 : decide ((128 : Int) < (s.size : Int)) = false := by simp; omega
  have hrd : Kl.readE (Kl.L s) = match Kl.unt (Kl.L s) with | none => (6, []) | some k => if Kl.txt k ≠ Kl.L s then (6, []) else if 32 < k.length then (3, []) else (0, k) := by
    unfold Kl.readE; rw [Kl.L_length, if_neg h128]; try rfl
  have K1 := fun w => unescaped_any s w hs
  cases hu : Kl.unt (Kl.L s) with
  | none =>
    rw [hu] at K1 hrd
    have J1 := Lib.hid K1
    have H := Lib.hid hrd
    clear K1 hrd hu h128
    go_enter Try.func37, Try.ntmps37
    go_wp2_with fail
    refine (J1.out _).mono ?_
    rintro e w1 ⟨rfl, hb⟩
    have HB := Lib.hid hb
    clear hb
    unfold unV
    go_wp2_with fail
    go_ret2
    exact ⟨by rw [H.out]; rfl, HB.out⟩
  | some k =>
    have hkl := Kl.unt_length (Kl.L s).length (Kl.L s) k (Nat.le_refl _) hu
    rw [Kl.L_length] at hkl
    rw [hu] at K1 hrd
    have hks : (⟨k.toArray⟩ : ByteArray).size = k.length := size_mk k
    have K2 := fun w => textOf_any ⟨k.toArray⟩ w (by rw [hks]; omega)
    have hLk : Kl.L ⟨k.toArray⟩ = k := rfl
    rw [hLk] at K2
    have J1 := Lib.hid K1
    have J2 := Lib.hid K2
    dsimp only at hrd
    by_cases ht : Kl.txt k = Kl.L s
    · rw [if_neg (by simpa using ht)] at hrd
      have q1 : ((⟨(Kl.txt k).toArray⟩ : ByteArray).toList == s.toList) = true := by
        rw [Lib.toList_data, Lib.toList_data, beq_iff_eq]; exact ht
      have K3 := fun w => kCheck_any ⟨k.toArray⟩ w (by rw [hks]; omega)
      rw [hks] at K3
      obtain ⟨tx, htx⟩ : ∃ tx : ByteArray, ⟨(Kl.txt k).toArray⟩ = tx := ⟨_, rfl⟩
      rw [htx] at q1 J2
      by_cases h32 : 32 < k.length
      · rw [if_pos h32] at hrd
        rw [chk1_no (by omega)] at K3
        have J3 := Lib.hid K3
        have H := Lib.hid hrd
        clear K1 K2 K3 hrd hu h128 ht hks hLk htx
        go_enter Try.func37, Try.ntmps37
        go_wp2_with fail
        refine (J1.out _).mono ?_
        rintro e w1 ⟨rfl, hb⟩
        have HB := Lib.hid hb
        clear hb
        unfold unV
        go_wp2_with fail
        refine (J2.out _).mono ?_
        rintro e w2 ⟨rfl, hb⟩
        have HB := Lib.hid (below_of HB.out hb (Nat.le_refl _))
        clear hb
        go_wp2_with fail
        refine (J3.out _).mono ?_
        rintro e w' ⟨rfl, rfl⟩
        go_wp2_with fail
        go_ret2
        exact ⟨by rw [H.out]; rfl, HB.out⟩
      · rw [if_neg h32] at hrd
        rw [chk1_ok (by omega)] at K3
        have J3 := Lib.hid K3
        have H := Lib.hid hrd
        clear K1 K2 K3 hrd hu h128 ht hks hLk htx
        go_enter Try.func37, Try.ntmps37
        go_wp2_with fail
        refine (J1.out _).mono ?_
        rintro e w1 ⟨rfl, hb⟩
        have HB := Lib.hid hb
        clear hb
        unfold unV
        go_wp2_with fail
        refine (J2.out _).mono ?_
        rintro e w2 ⟨rfl, hb⟩
        have HB := Lib.hid (below_of HB.out hb (Nat.le_refl _))
        clear hb
        go_wp2_with fail
        refine (J3.out _).mono ?_
        rintro e w' ⟨rfl, rfl⟩
        go_wp2_with fail
        go_ret2
        exact ⟨by rw [H.out]; rfl, HB.out⟩
    · rw [if_pos ht] at hrd
      have q1 : ((⟨(Kl.txt k).toArray⟩ : ByteArray).toList == s.toList) = false := by
        rw [Lib.toList_data, Lib.toList_data, beq_eq_false_iff_ne]; exact ht
      obtain ⟨tx, htx⟩ : ∃ tx : ByteArray, ⟨(Kl.txt k).toArray⟩ = tx := ⟨_, rfl⟩
      rw [htx] at q1 J2
      have H := Lib.hid hrd
      clear K1 K2 hrd hu h128 ht hks hLk htx
      go_enter Try.func37, Try.ntmps37
      go_wp2_with fail
      refine (J1.out _).mono ?_
      rintro e w1 ⟨rfl, hb⟩
      have HB := Lib.hid hb
      clear hb
      unfold unV
      go_wp2_with fail
      refine (J2.out _).mono ?_
      rintro e w2 ⟨rfl, hb⟩
      have HB := Lib.hid (below_of HB.out hb (Nat.le_refl _))
      clear hb
      go_wp2_with fail
      go_ret2
      exact ⟨by rw [H.out]; rfl, HB.out⟩
end Go.Proofs.Ytgljgjkoaaibnaa.KK
