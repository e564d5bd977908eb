/-
  Contracts of compare, Compare, Common.
-/
import Derived.Test.YtbgpcmpbfenplaaKb
import Derived.Test.YtbgpcmpbfenplaaEq
namespace Go.Proofs.Ytbgpcmpbfenplaa.KK
open Go.ChangeShapes Go.WideShapes Go.ChangeAt Go.RowKit Go.Proofs

theorem retT {a b c d : Int} (h : a = b) (g : c = d) : Ending.returned (.tuple #[.int .i64 a, .int .i64 c]) = .returned (.tuple #[.int .i64 b, .int .i64 d]) := by rw [h, g]
set_option maxHeartbeats 1000000 in
theorem compare_any (a b : ByteArray) (w : World) (ha : a.size ≤ 9223372036854775807) (hb : b.size ≤ 9223372036854775807) :
    Calls Try.prog 105 #[.string a, .string b] w fun e w' => e = .returned (.tuple #[.int .i64 (Kl.cm (Kl.L a) (Kl.L b) : Nat), .int .i64 (Kl.ord (Kl.L a) (Kl.L b))]) ∧ Below w.heap.size w w' := by
  go_enter Try.func105, Try.ntmps105
  go_wp2_with fail
  go_step3
  go_wp2_with fail
  go_step3
  go_wp2_with fail
  go_loopw [4, 5] (fun n o wr => ∃ k : Nat, k ≤ a.size ∧ k ≤ b.size ∧ n = .int .i64 k ∧ o = .int .i64 0 ∧ Below w.heap.size w wr ∧ (Kl.L a).take k = (Kl.L b).take k) (fun n _ _ => a.size - (intOf n).toNat)
  case atStart => exact ⟨0, Nat.zero_le _, Nat.zero_le _, rfl, rfl, Below.refl _ _, by simp⟩
  case round =>
    obtain ⟨k, hk1, hk2, rfl, rfl, hbl, ht⟩ := hrel
    have HT := Lib.hid ht
    have HB := Lib.hid hbl
    have hsz := hbl.size
    clear ht hbl
    by_cases h1 : k < a.size
    · have d1 : decide ((k : Int) < (a.size : Int)) = true := by simp; omega
      by_cases h2 : k < b.size
      · have d2 : decide ((k : Int) < (b.size : Int)) = true := by simp; omega
        by_cases h3 : a[k] = b[k]
        · have q1 : decide (a[k].toNat < b[k].toNat) = false := by simp [h3]
          have q2 : decide (b[k].toNat < a[k].toNat) = false := by simp [h3]
          have H3 := Lib.hid h3
          clear h3
          go_wp2_with fail
          go_quiet (fail)
          go_wp2_with fail
          go_quiet (fail)
          go_wp2_with fail
          go_roundw
          case rel => exact ⟨k + 1, by omega, by omega, by go_num, rfl, HB.out.trans ((below_drewN' _).mono hsz), by rw [kl_take a k h1, kl_take b k h2, HT.out, H3.out]⟩
          case measure => simp [intOf]; omega
        · have H3 : Hid (Kl.cm (Kl.L a) (Kl.L b) = k) := Lib.hid (Kl.cm_differ k _ _ HT.out (by rw [Kl.L_length]; omega) (by rw [Kl.L_length]; omega) h3)
          have hl := Kl.ord_less k (Kl.L a) (Kl.L b) HT.out (by rw [Kl.L_length]; omega) (by rw [Kl.L_length]; omega)
          have hm := Kl.ord_more k (Kl.L a) (Kl.L b) HT.out (by rw [Kl.L_length]; omega) (by rw [Kl.L_length]; omega)
          by_cases h4 : (a[k].toNat : Int) < (b[k].toNat : Int)
          · have q1 : decide (a[k].toNat < b[k].toNat) = true := by simp; omega
            have H4 := Lib.hid (hl h4)
            clear h3 hl hm h4
            go_wp2_with fail
            go_quiet (fail)
            go_wp2_with fail
            rw [Exit.noGoto_ret]
            go_ret2
            exact ⟨by rw [H3.out, H4.out]; rfl, HB.out.trans ((below_drewN' _).mono hsz)⟩
          · have h5 : (b[k].toNat : Int) < (a[k].toNat : Int) := by
              have : a[k].toNat ≠ b[k].toNat := fun e => h3 (UInt8.toNat_inj.1 e)
              omega
            have q1 : decide (a[k].toNat < b[k].toNat) = false := by simp; omega
            have q2 : decide (b[k].toNat < a[k].toNat) = true := by simp; omega
            have H4 := Lib.hid (hm h5)
            clear h3 hl hm h4 h5
            go_wp2_with fail
            go_quiet (fail)
            go_wp2_with fail
            go_quiet (fail)
            go_wp2_with fail
            rw [Exit.noGoto_ret]
            go_ret2
            exact ⟨by rw [H3.out, H4.out]; rfl, HB.out.trans ((below_drewN' _).mono hsz)⟩
      · have d2 : decide ((k : Int) < (b.size : Int)) = false := by simp; omega
        have H3 : Hid (Kl.cm (Kl.L a) (Kl.L b) = k) := Lib.hid (Kl.cm_ends k _ _ HT.out (by rw [Kl.L_length]; omega) (by rw [Kl.L_length]; omega) (.inr (by rw [Kl.L_length]; omega)))
        have H4 : Hid (Kl.ord (Kl.L a) (Kl.L b) = cmp3 (a.size : Int) (b.size : Int)) := Lib.hid (by
          rw [Kl.ord_ends k _ _ HT.out (by rw [Kl.L_length]; omega) (by rw [Kl.L_length]; omega) (.inr (by rw [Kl.L_length]; omega)), Kl.L_length, Kl.L_length]
          unfold cmp3
          split <;> (try split) <;> (try split) <;> (try split) <;> omega)
        go_wp2_with (go_at_call 107; refine (cmp_int _ _ _).mono ?_; rintro e w' ⟨rfl, rfl⟩)
        rw [Exit.noGoto_ret]
        go_ret2
        exact ⟨by rw [H3.out, H4.out]; rfl, HB.out⟩
    · have d1 : decide ((k : Int) < (a.size : Int)) = false := by simp; omega
      have H3 : Hid (Kl.cm (Kl.L a) (Kl.L b) = k) := Lib.hid (Kl.cm_ends k _ _ HT.out (by rw [Kl.L_length]; omega) (by rw [Kl.L_length]; omega) (.inl (by rw [Kl.L_length]; omega)))
      have H4 : Hid (Kl.ord (Kl.L a) (Kl.L b) = cmp3 (a.size : Int) (b.size : Int)) := Lib.hid (by
        rw [Kl.ord_ends k _ _ HT.out (by rw [Kl.L_length]; omega) (by rw [Kl.L_length]; omega) (.inl (by rw [Kl.L_length]; omega)), Kl.L_length, Kl.L_length]
        unfold cmp3
        split <;> (try split) <;> (try split) <;> (try split) <;> omega)
      go_wp2_with (go_at_call 107; refine (cmp_int _ _ _).mono ?_; rintro e w' ⟨rfl, rfl⟩)
      rw [Exit.noGoto_ret]
      go_ret2
      exact ⟨by rw [H3.out, H4.out]; rfl, HB.out⟩

theorem cmpV_ok {a b : ByteArray} (h : a.size ≤ 32) (g : b.size ≤ 32) : cmpV a b = Kl.ord (Kl.L a) (Kl.L b) := if_pos ⟨h, g⟩
theorem cmpV_no {a b : ByteArray} (h : ¬ (a.size ≤ 32 ∧ b.size ≤ 32)) : cmpV a b = 0 := if_neg h
theorem comV_ok {a b : ByteArray} (h : a.size ≤ 32) (g : b.size ≤ 32) : comV a b = (Kl.cm (Kl.L a) (Kl.L b) : Nat) := if_pos ⟨h, g⟩
theorem comV_no {a b : ByteArray} (h : ¬ (a.size ≤ 32 ∧ b.size ≤ 32)) : comV a b = 0 := if_neg h

theorem kCompare_any (a b : ByteArray) (w : World) (ha : a.size ≤ 9223372036854775807) (hb : b.size ≤ 9223372036854775807) :
    Calls Try.prog 100 #[.string a, .string b] w fun e w' => e = .returned (.tuple #[.int .i64 (cmpV a b), .int .i64 (chk2 a.size b.size)]) ∧ Below w.heap.size w w' := by
  have K1 := fun w => checkBoth_any a b w ha hb
  have K2 := fun w => compare_any a b w ha hb
  by_cases h : a.size ≤ 32 ∧ b.size ≤ 32
  · rw [chk2_ok h.1 h.2] at K1
    rw [chk2_ok h.1 h.2, cmpV_ok h.1 h.2]
    have J1 := Lib.hid K1
    have J2 := Lib.hid K2
    clear K1 K2 h
    go_enter Try.func100, Try.ntmps100
    go_wp2_with fail
    refine (J1.out _).mono ?_
    rintro e w' ⟨rfl, rfl⟩
    go_wp2_with fail
    refine (J2.out _).mono ?_
    rintro e w1 ⟨rfl, hb1⟩
    have HB := Lib.hid hb1
    clear hb1
    go_wp2_with fail
    go_ret2
    exact ⟨rfl, HB.out⟩
  · rw [chk2_no h] at K1
    rw [chk2_no h, cmpV_no h]
    have J1 := Lib.hid K1
    clear K1 K2 h
    go_enter Try.func100, Try.ntmps100
    go_wp2_with fail
    refine (J1.out _).mono ?_
    rintro e w' ⟨rfl, rfl⟩
    go_wp2_with fail
    go_ret2
    exact ⟨rfl, Below.refl _ _⟩
end Go.Proofs.Ytbgpcmpbfenplaa.KK
