/-
  The contract of the reference's Int.
-/
import Derived.Test.YthifbihmogjjpaaGreatDoorWt
import Derived.Test.YthifbihmogjjpaaGreatDoorQa
import Derived.Test.YthifbihmogjjpaaGreatDoorWo
namespace Go.Proofs.YthifbihmogjjpaaGreatDoor
open Go.ChangeShapes Go.WideShapes Go.ChangeAt Go.RowKit Go.Proofs

/-- the test of the range: exactly as the sum says -/
theorem quo_test (V d : Nat) (hd : d ≤ 9) : (-(V : Int) < Int.tdiv (-9223372036854775808 + (d : Int)) 10) ↔ 9223372036854775808 < 10 * V + d := by
  have e : Int.tdiv (-9223372036854775808 + (d : Int)) 10 = -((9223372036854775808 - (d : Int)).tdiv 10) := by
    rw [← Int.neg_tdiv]; congr 1; omega
  rw [e, Int.tdiv_eq_ediv_of_nonneg (by omega)]
  omega

theorem rInt_any (s : ByteArray) (lo hi : Int) (w : World) (hs : s.size ≤ 4294967295) (l0 : -9223372036854775808 ≤ lo) (l1 : lo ≤ 9223372036854775807) (h0 : -9223372036854775808 ≤ hi) (h1 : hi ≤ 9223372036854775807) :
    Calls Tryz.prog 26 #[.string s, .int .i64 lo, .int .i64 hi] w fun e w' => e = .returned (.tuple #[.int .i64 (Pl.intE (Pl.L s) lo hi).2, .int .i64 (Pl.intE (Pl.L s) lo hi).1]) ∧ w = w' := by
  cases hd : Pl.dec (Pl.L s) with
  | false =>
    have H : Hid (Pl.intE (Pl.L s) lo hi = (6, 0)) := Lib.hid (by unfold Pl.intE; rw [hd]; rfl)
    go_enter Tryz.func26, Tryz.ntmps26
    go_wp2_with (go_at_call 23; refine (decimal_any _ _ (by omega)).mono ?_; rintro e w' ⟨rfl, rfl⟩)
    go_ret2
    exact ⟨by rw [H.out]; rfl, rfl⟩
  | true =>
    have hp := Pl.dec_pos s hd
    have HD := Lib.hid hd
    obtain ⟨m, hm⟩ : ∃ m, ((s[0].toNat : Int) == 45) = m := ⟨_, rfl⟩
    have HM : Hid (Pl.ival (Pl.L s) = if m = true then -(Pl.rval (Pl.L s) : Int) else (Pl.rval (Pl.L s) : Int)) := Lib.hid (by
      rw [Pl.ival_rval _ hd, Pl.head_eq s hp]
      by_cases h : m = true
      · rw [if_pos h, if_pos]; rw [h] at hm; rw [Pl.byte_eq s[0] 45 (by omega) (by simpa using hm)]; rfl
      · rw [if_neg h, if_neg]; intro h2; apply h; rw [← hm]; simp at h2; rw [h2]; rfl)
    have hb0 : ∀ (k : Nat) (hk : k < s.size), ¬ (s[k].toNat : Int) = 45 → 48 ≤ s[k].toNat ∧ s[k].toNat ≤ 57 := Pl.dec_byte s hd
    have HB := Lib.hid hb0
    clear hd hb0
    go_enter Tryz.func26, Tryz.ntmps26
    go_wp2_with (go_at_call 23; refine (decimal_any _ _ (by omega)).mono ?_; rw [HD.out]; rintro e w' ⟨rfl, rfl⟩)
    go_loop [9, 10, 11] (fun n i _ => ∃ k V : Nat, k ≤ s.size ∧ i = .int .i64 k ∧ n = .int .i64 (-(V : Int)) ∧ V ≤ 9223372036854775808 ∧ V = Pl.rval ((Pl.L s).take k)) (fun n i d => s.size - (intOf i).toNat)
    case atStart => exact ⟨0, 0, Nat.zero_le _, rfl, rfl, by omega, rfl⟩
    case round =>
      obtain ⟨k, V, hk, rfl, rfl, hV, hr⟩ := hrel
      have HR := Lib.hid hr
      clear hr
      by_cases hlt : k < s.size
      · by_cases q : (s[k].toNat : Int) = 45
        · have HN := Lib.hid (show V = Pl.rval ((Pl.L s).take (k + 1)) by rw [Pl.rval_snoc s k hlt, Pl.rstep_minus _ _ q]; exact HR.out)
          have q1 : ((s[k].toNat : Int) == 45) = true := beq_iff_eq.2 q
          clear q
          go_wp2_with fail
          go_round
          case rel => exact ⟨k + 1, V, by omega, by go_num, rfl, hV, HN.out⟩
          case measure => simp [intOf]; omega
        · obtain ⟨b0, b1⟩ := HB.out k hlt q
          have q1 : ((s[k].toNat : Int) == 45) = false := beq_eq_false_iff_ne.2 q
          clear q
          obtain ⟨c, hc⟩ : ∃ c : Nat, s[k].toNat - 48 = c := ⟨_, rfl⟩
          have hc9 : c ≤ 9 := by omega
          have hci : (s[k].toNat : Int) - 48 = c := by omega
          have HN := Lib.hid (show Pl.rval ((Pl.L s).take (k + 1)) = V * 10 + c by rw [Pl.rval_snoc s k hlt, Pl.rstep_dig _ _ (by omega), ← HR.out]; unfold Pl.dstep; rw [hc])
          by_cases ht : 9223372036854775808 < 10 * V + c
          · have t1 : decide (-(V : Int) < Int.tdiv (-9223372036854775808 + (c : Int)) 10) = true := decide_eq_true ((quo_test V c hc9).2 ht)
            have H := Lib.hid (Pl.rval_range s HD.out (V * 10 + c) (by rw [← HN.out]; exact Pl.rval_take_le s _) (by omega) lo hi l0 h1)
            clear ht
            go_wp2_with fail
            go_ret2
            exact ⟨by rw [H.out]; rfl, rfl⟩
          · have t1 : decide (-(V : Int) < Int.tdiv (-9223372036854775808 + (c : Int)) 10) = false := decide_eq_false (fun h => ht ((quo_test V c hc9).1 h))
            go_wp2_with fail
            go_round
            case rel => exact ⟨k + 1, V * 10 + c, by omega, by go_num, by go_num, by omega, HN.out.symm⟩
            case measure => simp [intOf]; omega
      · have HW := Lib.hid (show V = Pl.rval (Pl.L s) by rw [HR.out, List.take_of_length_le (by rw [Pl.L_length]; omega)])
        cases m with
        | true =>
          have HI : Hid (Pl.intE (Pl.L s) lo hi = if lo ≤ -(V : Int) ∧ -(V : Int) ≤ hi then (0, -(V : Int)) else (7, 0)) := Lib.hid (by unfold Pl.intE; rw [if_pos HD.out, HM.out, ← HW.out]; rfl)
          by_cases c0 : -(V : Int) < lo
          · have H : Hid (Pl.intE (Pl.L s) lo hi = (7, 0)) := Lib.hid (by rw [HI.out, if_neg (by omega)])
            go_wp2_with fail
            go_ret2
            exact ⟨by rw [H.out]; rfl, rfl⟩
          by_cases c1 : hi < -(V : Int)
          · have H : Hid (Pl.intE (Pl.L s) lo hi = (7, 0)) := Lib.hid (by rw [HI.out, if_neg (by omega)])
            go_wp2_with fail
            go_ret2
            exact ⟨by rw [H.out]; rfl, rfl⟩
          have H : Hid (Pl.intE (Pl.L s) lo hi = (0, -(V : Int))) := Lib.hid (by rw [HI.out, if_pos (by omega)])
          go_wp2_with fail
          go_ret2
          exact ⟨by rw [H.out]; rfl, rfl⟩
        | false =>
          by_cases hb : V = 9223372036854775808
          · have HI : Hid (Pl.intE (Pl.L s) lo hi = if lo ≤ (V : Int) ∧ (V : Int) ≤ hi then (0, (V : Int)) else (7, 0)) := Lib.hid (by unfold Pl.intE; rw [if_pos HD.out, HM.out, ← HW.out]; rfl)
            have H : Hid (Pl.intE (Pl.L s) lo hi = (7, 0)) := Lib.hid (by rw [HI.out, if_neg (by omega)])
            have e1 : ((-(V : Int)) == -9223372036854775808) = true := by rw [hb]; rfl
            go_wp2_with fail
            go_ret2
            exact ⟨by rw [H.out]; rfl, rfl⟩
          · have e1 : ((-(V : Int)) == -9223372036854775808) = false := by rw [beq_eq_false_iff_ne]; omega
            have hV2 : V ≤ 9223372036854775807 := by omega
            have HI : Hid (Pl.intE (Pl.L s) lo hi = if lo ≤ (V : Int) ∧ (V : Int) ≤ hi then (0, (V : Int)) else (7, 0)) := Lib.hid (by unfold Pl.intE; rw [if_pos HD.out, HM.out, ← HW.out]; rfl)
            by_cases c0 : (V : Int) < lo
            · have H : Hid (Pl.intE (Pl.L s) lo hi = (7, 0)) := Lib.hid (by rw [HI.out, if_neg (by omega)])
              go_wp2_with fail
              go_ret2
              exact ⟨by rw [H.out]; rfl, rfl⟩
            by_cases c1 : hi < (V : Int)
            · have H : Hid (Pl.intE (Pl.L s) lo hi = (7, 0)) := Lib.hid (by rw [HI.out, if_neg (by omega)])
              go_wp2_with fail
              go_ret2
              exact ⟨by rw [H.out]; rfl, rfl⟩
            have H : Hid (Pl.intE (Pl.L s) lo hi = (0, (V : Int))) := Lib.hid (by rw [HI.out, if_pos (by omega)])
            go_wp2_with fail
            go_ret2
            exact ⟨by rw [H.out]; rfl, rfl⟩
end Go.Proofs.YthifbihmogjjpaaGreatDoor
