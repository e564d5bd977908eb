/-
  Contracts of the functions on quoted strings: readQuoted where there is no quoted form; Unquote.
-/
import Derived.Test.YthifbihmogjjpaaDoorWf
namespace Go.Proofs.YthifbihmogjjpaaDoor
open Go.ChangeShapes Go.WideShapes Go.ChangeAt Go.RowKit Go.Proofs

set_option maxRecDepth 100000 in
set_option maxHeartbeats 800000 in
theorem readQuoted_no (s : ByteArray) (k0 : Nat) (w : World) (he : EscAt w) (hs : s.size ≤ 4294967295) (hk0 : k0 ≤ s.size) (h : Pl.rq ((Pl.L s).drop k0) = none) :
    Calls Tryd.prog 31 #[.string s, .int .i64 (k0 : Int)] w fun e w' => e = .returned (.tuple #[.string ⟨#[]⟩, .int .i64 0, .bool false]) ∧ Below w.heap.size w w' := by
  by_cases hk : k0 < s.size
  rotate_left
  · have hd : decide (s.size ≤ k0) = true := by simp; omega
    clear h he
    go_enter Tryd.func31, Tryd.ntmps31
    go_wp2_with fail
    go_ret3
    exact ⟨rfl, Below.refl _ _⟩
  have hdec : decide (s.size ≤ k0) = false := by simp; omega
  have hk' : (k0 : Int) < (s.size : Int) := by omega
  by_cases hc : s[k0] = 34
  rotate_left
  · have q1 : ((s[k0].toNat : Int) == 34) = false := Pl.num_ne _ 34 hc
    have q2 : ((s[k0].toNat : Int) != 34) = true := Pl.num_bne _ 34 hc
    clear h hc he
    go_enter Tryd.func31, Tryd.ntmps31
    go_wp2_with fail
    go_ret3
    exact ⟨rfl, Below.refl _ _⟩
  have q1 : ((s[k0].toNat : Int) == 34) = true := Pl.num_eq _ 34 hc
  have q2 : ((s[k0].toNat : Int) != 34) = false := Pl.num_nbne _ 34 hc
  have H := Lib.hid h
  have HC := Lib.hid hc
  have HE := Lib.hid he
  have hlt0 := he.lt
  obtain ⟨i0, hi, hz0, hz1, hz2⟩ := info_parts infoB
  clear h hc he
  go_enter Tryd.func31, Tryd.ntmps31
  go_wp2_with fail
  go_loopw [1, 7] (fun i v wr => ∃ (k : Nat) (t : List UInt8), k0 + 1 ≤ k ∧ k ≤ s.size ∧ t.length ≤ k ∧ i = .int .i64 k ∧ wr.ownsRow w.heap.size 5 1 v t.length (t.map B8) ∧ Below w.heap.size w wr ∧ Pl.More s (k0 + 1) k t) (fun i _ _ => s.size - (intOf i).toNat)
  case atStart => exact ⟨k0 + 1, [], Nat.le_refl _, hk, Nat.zero_le _, by go_num, World.ownsRow_nil _ _ _ _, Below.refl _ _, Pl.More.start s _⟩
  case round =>
    obtain ⟨k, t, hk1, hks, htk, rfl, hown, hb, hm⟩ := hrel
    have HM := Lib.hid hm
    have HB := Lib.hid hb
    have hsz := hb.size
    clear hm hb
    by_cases hlt : k < s.size
    · by_cases hq : s[k] = 34
      · exfalso
        have := Pl.rq_some s k0 hk HC.out (HM.out.quote hlt hq)
        rw [H.out] at this; cases this
      · have HQ := Lib.hid hq
        have q3 : ((s[k].toNat : Int) == 34) = false := Pl.num_ne _ 34 hq
        have q4 : ((s[k].toNat : Int) != 34) = true := Pl.num_bne _ 34 hq
        clear hq
        cases hr : Pl.rb ((Pl.L s).drop k) with
        | none =>
          have HR := Lib.hid hr
          clear hr
          go_wp2_with (go_at_call 51; refine (readByte_no s k _ (HE.out.below HB.out hlt0) hs hlt HR.out).mono ?_; rintro e w1 ⟨v, n, rfl, hb1⟩; have HB1 := Lib.hid hb1; clear hb1)
          go_ret3
          exact ⟨rfl, below_of HB.out HB1.out (Nat.le_refl _)⟩
        | some x =>
          obtain ⟨v, n⟩ := x
          obtain ⟨hn1, hn2⟩ := Pl.rb_bound hlt hr
          have HR := Lib.hid hr
          clear hr
          go_wp2_with (first
            | (go_at_call 51; refine (readByte_yes s k v n _ (HE.out.below HB.out hlt0) hs hlt HR.out).mono ?_; rintro e w1 ⟨rfl, hb1⟩; have hown1 := own_below hown hb1; have hsz1 := hb1.size; have HB1 := Lib.hid hb1; clear hb1)
            | (at_builtin; refine wpList_append_own _ rfl (.tmp 42) (.tmp 44) 29 rfl w.heap.size 5 i0 (.int .u8 0) 1 1 Tryd.underlying29 hi hz0 hz1 hz2 rfl (by decide) _ t.length _ rfl (hown1.alloc _) ⟨w1.heap.size, 0, none⟩ 1 1 [.int .u8 (v.toNat : Int)] rfl rfl (cell_one_new _ _ _) (by simp [Value.oneCell']) (by unfold maxLen; omega) (by omega) (by simp; omega) ?_; intro v2 w2 hown2 hg2 _; have HG2 := Lib.hid hg2; clear hg2))
          go_roundw
          case rel =>
            have hB2 : Below w.heap.size w w2 := ((below_of HB.out HB1.out (Nat.le_refl _)).alloc (by omega) _).grown HG2.out (by simp; omega) (fun g hg => (hown1.lt g hg).1)
            exact ⟨k + n, t ++ [v], by omega, by omega, by simp; omega, by go_num, own_snoc hown2, hB2, HM.out.step hlt hk1 HQ.out HR.out⟩
          case measure => simp [intOf]; omega
    · have hd : decide (s.size ≤ k) = true := by simp; omega
      go_wp2_with fail
      go_ret3
      exact ⟨rfl, HB.out⟩

theorem Unquote_yes (s : ByteArray) (T : List UInt8) (w : World) (he : EscAt w) (hs : s.size ≤ 4294967295) (h : Pl.unq (Pl.L s) = some T) :
    Calls Tryd.prog 15 #[.string s] w fun e w' => e = .returned (.tuple #[.string ⟨T.toArray⟩, .int .i64 0]) ∧ Below w.heap.size w w' := by
  have h' := Pl.unq_rq h
  have HE := Lib.hid he
  have H := Lib.hid h'
  clear h h' he
  go_enter Tryd.func15, Tryd.ntmps15
  go_wp2_with (go_at_call 31; refine (readQuoted_yes s 0 T s.size _ HE.out hs (Nat.zero_le _) H.out).mono ?_; rintro e w1 ⟨rfl, hb1⟩; have HB1 := Lib.hid hb1; clear hb1)
  go_ret2
  exact ⟨rfl, HB1.out⟩

theorem Unquote_no (s : ByteArray) (w : World) (he : EscAt w) (hs : s.size ≤ 4294967295) (h : Pl.unq (Pl.L s) = none) :
    Calls Tryd.prog 15 #[.string s] w fun e w' => e = .returned (.tuple #[.string ⟨#[]⟩, .int .i64 6]) ∧ Below w.heap.size w w' := by
  have HE := Lib.hid he
  clear he
  cases hr : Pl.rq ((Pl.L s).drop 0) with
  | none =>
    have H := Lib.hid hr
    clear h hr
    go_enter Tryd.func15, Tryd.ntmps15
    go_wp2_with (go_at_call 31; refine (readQuoted_no s 0 _ HE.out hs (Nat.zero_le _) H.out).mono ?_; rintro e w1 ⟨rfl, hb1⟩; have HB1 := Lib.hid hb1; clear hb1)
    go_ret2
    exact ⟨rfl, HB1.out⟩
  | some x =>
    obtain ⟨T, m⟩ := x
    have hm : m < s.size := Pl.unq_short h hr
    have hm' : (m : Int) < (s.size : Int) := by omega
    have H := Lib.hid hr
    clear h hr
    go_enter Tryd.func15, Tryd.ntmps15
    go_wp2_with (go_at_call 31; refine (readQuoted_yes s 0 T m _ HE.out hs (Nat.zero_le _) H.out).mono ?_; rintro e w1 ⟨rfl, hb1⟩; have HB1 := Lib.hid hb1; clear hb1)
    go_ret2
    exact ⟨rfl, HB1.out⟩
end Go.Proofs.YthifbihmogjjpaaDoor
