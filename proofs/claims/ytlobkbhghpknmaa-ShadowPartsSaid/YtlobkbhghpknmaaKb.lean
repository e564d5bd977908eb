/-
  Contracts of the functions that compare keys.
-/
import Derived.Test.YtlobkbhghpknmaaKa
import Derived.Test.YtlobkbhghpknmaaProg
import Derived.Deep.Cut
namespace Go.Proofs.Ytlobkbhghpknmaa.KK
open Go.ChangeShapes Go.WideShapes Go.ChangeAt Go.RowKit Go.Proofs

theorem beqT {x y : UInt8} (h : x = y) : ((x.toNat : Int) == (y.toNat : Int)) = true := by rw [h]; simp
theorem beqF {x y : UInt8} (h : x ≠ y) : ((x.toNat : Int) == (y.toNat : Int)) = false := by
  rw [beq_eq_false_iff_ne]; intro e; exact h (UInt8.toNat_inj.1 (by omega))
theorem kl_take (s : ByteArray) (k : Nat) (h : k < s.size) : (Kl.L s).take (k + 1) = (Kl.L s).take k ++ [s[k]] := by
  have h' : k < (Kl.L s).length := by rw [Kl.L_length]; exact h
  rw [List.take_succ_eq_append_getElem h']; rfl
theorem below_of {B : Nat} {w w1 w2 : World} (hb : Below B w w1) (h : Below w1.heap.size w1 w2) (hB : B ≤ w.heap.size) : Below B w w2 := hb.trans (h.mono (Nat.le_trans hB hb.size))

theorem below_drewN' {w : World} (n : Nat) : Below w.heap.size w (w.drewN n) := below_drewN (Below.refl _ _) n
/-- what Compare and Common answer -/
def cmpV (a b : ByteArray) : Int := if a.size ≤ 32 ∧ b.size ≤ 32 then Kl.ord (Kl.L a) (Kl.L b) else 0
def comV (a b : ByteArray) : Int := if a.size ≤ 32 ∧ b.size ≤ 32 then (Kl.cm (Kl.L a) (Kl.L b) : Nat) else 0

set_option maxHeartbeats 800000 in
theorem rcommon_any (a b : ByteArray) (w : World) (ha : a.size ≤ 9223372036854775807) (hb : b.size ≤ 9223372036854775807) :
    Calls Try.prog 39 #[.string a, .string b] w fun e w' => e = .returned (.int .i64 (Kl.cm (Kl.L a) (Kl.L b) : Nat)) ∧ Below w.heap.size w w' := by
  go_enter Try.func39, Try.ntmps39
  go_wp2_with fail
  go_loopw [5] (fun n wr => ∃ k : Nat, k ≤ a.size ∧ k ≤ b.size ∧ n = .int .i64 k ∧ Below w.heap.size w wr ∧ (Kl.L a).take k = (Kl.L b).take k) (fun n _ => a.size - (intOf n).toNat)
  case atStart => exact ⟨0, Nat.zero_le _, Nat.zero_le _, rfl, Below.refl _ _, by simp⟩
  case round =>
    obtain ⟨k, hk1, hk2, rfl, hbl, ht⟩ := hrel
    have HT := Lib.hid ht
    have HB := Lib.hid hbl
    have hsz := hbl.size
    clear ht hbl
    by_cases h1 : k < a.size
    · have d1 : decide ((k : Int) < (a.size : Int)) = true := by simp; omega
      by_cases h2 : k < b.size
      · have d2 : decide ((k : Int) < (b.size : Int)) = true := by simp; omega
        by_cases h3 : a[k] = b[k]
        · have q := beqT h3
          have H3 := Lib.hid h3
          clear h3
          go_wp2_with fail
          go_quiet (fail)
          go_wp2_with fail
          go_roundw
          case rel => exact ⟨k + 1, by omega, by omega, by go_num, HB.out.trans ((below_drewN' _).mono hsz), by rw [kl_take a k h1, kl_take b k h2, HT.out, H3.out]⟩
          case measure => simp [intOf]; omega
        · have q := beqF h3
          have H3 : Hid (Kl.cm (Kl.L a) (Kl.L b) = k) := Lib.hid (Kl.cm_differ k _ _ HT.out (by rw [Kl.L_length]; omega) (by rw [Kl.L_length]; omega) h3)
          clear h3
          go_wp2_with fail
          go_quiet (fail)
          go_wp2_with fail
          go_ret
          exact ⟨by rw [H3.out]; rfl, HB.out.trans ((below_drewN' _).mono hsz)⟩
      · have d2 : decide ((k : Int) < (b.size : Int)) = false := by simp; omega
        have H3 : Hid (Kl.cm (Kl.L a) (Kl.L b) = k) := Lib.hid (Kl.cm_ends k _ _ HT.out (by rw [Kl.L_length]; omega) (by rw [Kl.L_length]; omega) (.inr (by rw [Kl.L_length]; omega)))
        go_wp2_with fail
        go_quiet (fail)
        go_wp2_with fail
        go_ret
        exact ⟨by rw [H3.out]; rfl, HB.out.trans ((below_drewN' _).mono hsz)⟩
    · have d1 : decide ((k : Int) < (a.size : Int)) = false := by simp; omega
      have H3 : Hid (Kl.cm (Kl.L a) (Kl.L b) = k) := Lib.hid (Kl.cm_ends k _ _ HT.out (by rw [Kl.L_length]; omega) (by rw [Kl.L_length]; omega) (.inl (by rw [Kl.L_length]; omega)))
      go_wp2_with fail
      go_quiet (fail)
      go_wp2_with fail
      go_ret
      exact ⟨by rw [H3.out]; rfl, HB.out.trans ((below_drewN' _).mono hsz)⟩

set_option maxHeartbeats 800000 in
theorem Order_any (a b : ByteArray) (w : World) (ha : a.size ≤ 9223372036854775807) (hb : b.size ≤ 9223372036854775807) :
    Calls Try.prog 38 #[.string a, .string b] w fun e w' => e = .returned (.int .i64 (Kl.ord (Kl.L a) (Kl.L b))) ∧ Below w.heap.size w w' := by
  obtain ⟨c, hc⟩ : ∃ c, Kl.cm (Kl.L a) (Kl.L b) = c := ⟨_, rfl⟩
  have K := fun w => rcommon_any a b w ha hb
  rw [hc] at K
  have KC := Lib.hid K
  clear K
  have hle := Kl.cm_le (Kl.L a) (Kl.L b)
  have ht := Kl.cm_take (Kl.L a) (Kl.L b)
  have hn := Kl.cm_next (Kl.L a) (Kl.L b)
  rw [hc, Kl.L_length, Kl.L_length] at hle
  rw [hc] at ht
  have hn' : ∀ (h : c < a.size) (g : c < b.size), a[c] ≠ b[c] := by
    subst hc
    intro h g
    exact hn (by rw [Kl.L_length]; exact h) (by rw [Kl.L_length]; exact g)
  clear hn
  have ho := Kl.ord_ends c (Kl.L a) (Kl.L b) ht (by rw [Kl.L_length]; omega) (by rw [Kl.L_length]; omega)
  have hl := Kl.ord_less c (Kl.L a) (Kl.L b) ht
  have hm := Kl.ord_more c (Kl.L a) (Kl.L b) ht
  simp only [Kl.L_length] at ho hl hm
  clear ht hc
  obtain ⟨q1, q2⟩ := hle
  by_cases h1 : c = a.size
  · have ho := ho (.inl h1)
    have e1 : ((c : Int) == (a.size : Int)) = true := by simp; omega
    clear hl hm hn'
    by_cases h2 : c = b.size
    · rw [if_neg (by omega), if_neg (by omega)] at ho
      have H := Lib.hid ho
      have e2 : ((c : Int) == (b.size : Int)) = true := by simp; omega
      clear ho h1 h2
      go_enter Try.func38, Try.ntmps38
      go_wp2_with (go_at_call 39; refine (KC.out _).mono ?_; rintro e w1 ⟨rfl, hb1⟩; have HB := Lib.hid hb1; clear hb1)
      go_ret
      exact ⟨by rw [H.out]; rfl, HB.out⟩
    · rw [if_pos (by omega)] at ho
      have H := Lib.hid ho
      have e2 : ((c : Int) == (b.size : Int)) = false := by rw [beq_eq_false_iff_ne]; omega
      clear ho h1 h2
      go_enter Try.func38, Try.ntmps38
      go_wp2_with (go_at_call 39; refine (KC.out _).mono ?_; rintro e w1 ⟨rfl, hb1⟩; have HB := Lib.hid hb1; have hsz := hb1.size; clear hb1)
      go_quiet (fail)
      go_wp2_with fail
      go_ret
      exact ⟨by rw [H.out]; rfl, HB.out.trans ((below_drewN' _).mono hsz)⟩
  · have e1 : ((c : Int) == (a.size : Int)) = false := by rw [beq_eq_false_iff_ne]; omega
    have h1' : c < a.size := by omega
    clear h1
    by_cases h2 : c = b.size
    · have ho := ho (.inr h2)
      rw [if_neg (by omega), if_pos (by omega)] at ho
      have H := Lib.hid ho
      have e2 : decide (c < b.size) = false := by simp; omega
      clear ho h2 hl hm hn'
      go_enter Try.func38, Try.ntmps38
      go_wp2_with (go_at_call 39; refine (KC.out _).mono ?_; rintro e w1 ⟨rfl, hb1⟩; have HB := Lib.hid hb1; have hsz := hb1.size; clear hb1)
      go_quiet (fail)
      go_wp2_with fail
      go_ret
      exact ⟨by rw [H.out]; rfl, HB.out.trans ((below_drewN' _).mono hsz)⟩
    · have h2' : c < b.size := by omega
      have e2 : decide ((c : Int) < (b.size : Int)) = true := by simp; omega
      have hne := hn' h1' h2'
      have hl := hl h1' h2'
      have hm := hm h1' h2'
      clear hn' ho h2
      by_cases h3 : (a[c].toNat : Int) < (b[c].toNat : Int)
      · have H : Hid (Kl.ord (Kl.L a) (Kl.L b) = -1) := Lib.hid (hl h3)
        have e3 : decide (a[c].toNat < b[c].toNat) = true := by simp; omega
        clear hl hm hne h3
        go_enter Try.func38, Try.ntmps38
        go_wp2_with (go_at_call 39; refine (KC.out _).mono ?_; rintro e w1 ⟨rfl, hb1⟩; have HB := Lib.hid hb1; have hsz := hb1.size; clear hb1)
        go_quiet (fail)
        go_wp2_with fail
        go_ret
        exact ⟨by rw [H.out]; rfl, HB.out.trans ((below_drewN' _).mono hsz)⟩
      · have h4 : (b[c].toNat : Int) < (a[c].toNat : Int) := by
          have : a[c].toNat ≠ b[c].toNat := fun e => hne (UInt8.toNat_inj.1 e)
          omega
        have H : Hid (Kl.ord (Kl.L a) (Kl.L b) = 1) := Lib.hid (hm h4)
        have e3 : decide (a[c].toNat < b[c].toNat) = false := by simp; omega
        clear hl hm hne h3 h4
        go_enter Try.func38, Try.ntmps38
        go_wp2_with (go_at_call 39; refine (KC.out _).mono ?_; rintro e w1 ⟨rfl, hb1⟩; have HB := Lib.hid hb1; have hsz := hb1.size; clear hb1)
        go_quiet (fail)
        go_wp2_with fail
        go_ret
        exact ⟨by rw [H.out]; rfl, HB.out.trans ((below_drewN' _).mono hsz)⟩
end Go.Proofs.Ytlobkbhghpknmaa.KK
