/-
  The reference's Check.
-/
import Derived.Test.YtbgpcmpbfenplaaUi
namespace Go.Proofs.Ytbgpcmpbfenplaa.KK
open Go.ChangeShapes Go.WideShapes Go.ChangeAt Go.RowKit Go.Proofs

set_option maxRecDepth 100000 in
set_option maxHeartbeats 2000000 in
theorem rfCheck_any (A : Option Addr) (c : Nat) (xs : List Pr) (w : World) (hf : PsAt w A xs) (hn : xs.length ≤ 4294967295) (hs : SizedP xs) :
    Calls Try.prog 52 #[.slice A xs.length c] w fun e w' => e = .returned (.tuple #[.int .i64 (mapE xs).1, .int .i64 (mapE xs).2]) ∧ Below w.heap.size w w' := by
  by_cases h64 : 4000 < xs.length
  · go_enter Try.func52, Try.ntmps52
    go_wp2_with fail
    go_ret2
    exact ⟨by rw [mapE, if_pos h64]; rfl, Below.refl _ _⟩
  have HAL : Hid (mapE xs = scanP 0 none xs) := Lib.hid (by rw [mapE, if_neg h64])
  have HF := Lib.hid hf
  have HS := Lib.hid hs
  obtain ⟨n, hnn⟩ : ∃ n, xs.length = n := ⟨_, rfl⟩
  rw [hnn] at hn h64 ⊢
  have HN := Lib.hid hnn
  clear hf hs hnn
  go_enter Try.func52, Try.ntmps52
  go_wp2_with fail
  go_loopw [4] (fun i wr => ∃ k : Nat, k ≤ n ∧ i = .int .i64 k ∧ Below w.heap.size w wr ∧ scanP 0 none xs = scanP k (prevP xs k) (xs.drop k) ∧ (∀ y, prevP xs k = some y → szE y.1 y.2 = 0)) (fun i _ => n - (intOf i).toNat)
  case atStart => exact ⟨0, Nat.zero_le _, rfl, Below.refl _ _, rfl, fun y h => by cases h⟩
  case round =>
    obtain ⟨k, hk, rfl, hb, ha, hpv⟩ := hrel
    have hsz := hb.size
    have HA := Lib.hid ha
    have HB := Lib.hid hb
    clear ha hb hpv
    by_cases hlt : k < n
    rotate_left
    · have hf1 : ¬ (k : Int) < (n : Int) := by omega
      go_wp2_with fail
      go_ret2
      exact ⟨by rw [HAL.out, HA.out, scanP_end (by rw [HN.out]; exact hlt)]; rfl, HB.out⟩
    have hf1 : (k : Int) < (n : Int) := by omega
    have hlx : k < xs.length := by rw [HN.out]; exact hlt
    rcases HF.out.below HB.out (Nat.le_refl _) with h0 | ⟨b, off, rfl, hbl, hc⟩
    · rw [h0] at hlx; simp at hlx
    obtain ⟨g0, g1⟩ := hc k hlx
    obtain ⟨sk, sv⟩ := HS.out.at hlx
    obtain ⟨xk, hxk⟩ : ∃ x, xs[k].1 = x := ⟨_, rfl⟩
    obtain ⟨xv, hxv⟩ : ∃ x, xs[k].2 = x := ⟨_, rfl⟩
    have HXK := Lib.hid hxk
    have HXV := Lib.hid hxv
    rw [hxk] at g0 sk
    rw [hxv] at g1 sv
    clear hxk hxv
    by_cases k1 : 32 < xk.size
    · have hl : szE xs[k].1 xs[k].2 = 3 := by rw [HXK.out]; exact szE_k k1
      have HL := Lib.hid (scanP_no hlx (by rw [wrongP_sz (by rw [hl]; decide), hl]; decide))
      rw [wrongP_sz (by rw [hl]; decide), hl] at HL
      clear hl hc
      go_wp2_with fail
      go_ret2
      exact ⟨retP (HAL.out.trans (HA.out.trans HL.out)) rfl rfl, HB.out⟩
    by_cases k2 : 64 < xv.size
    · have hl : szE xs[k].1 xs[k].2 = 3 := by rw [HXV.out]; exact szE_v k2
      have HL := Lib.hid (scanP_no hlx (by rw [wrongP_sz (by rw [hl]; decide), hl]; decide))
      rw [wrongP_sz (by rw [hl]; decide), hl] at HL
      clear hl hc
      go_wp2_with fail
      go_ret2
      exact ⟨retP (HAL.out.trans (HA.out.trans HL.out)) rfl rfl, HB.out⟩
    have HC0 := Lib.hid (show szE xs[k].1 xs[k].2 = 0 by rw [HXK.out, HXV.out]; exact szE_ok k1 k2)
    by_cases hk0 : k = 0
    · have hk0' : decide ((0 : Int) < (k : Int)) = false := by simp; omega
      have hk1' : decide (0 < k) = false := by simp; omega
      have HL := Lib.hid (scanP_ok hlx (by subst hk0; exact wrongP_none HC0.out))
      clear hk0 hc
      go_wp2_with fail
      go_quiet (fail)
      go_wp2_with fail
      go_roundw
      case rel => exact ⟨k + 1, by omega, by go_num, HB.out.trans ((below_drewN' _).mono HB.out.size), HA.out.trans HL.out, fun y h => by cases (prevP_succ hlx).symm.trans h; exact HC0.out⟩
      case measure => simp [intOf]; omega
    · obtain ⟨j, rfl⟩ : ∃ j, k = j + 1 := ⟨k - 1, by omega⟩
      clear hk0
      have hj : j < xs.length := by omega
      obtain ⟨p0, p1⟩ := hc j hj
      have hwp : IntKind.i64.wrap (j : Int) = (j : Int) := by rw [IntKind.wrap_i64]; omega
      have hwp2 : IntKind.i64.wrap (((j + 1 : Nat) : Int) - 1) = (j : Int) := by rw [IntKind.wrap_i64]; omega
      have hjb : (j : Int) < (n : Int) := by omega
      have hjb2 : j < n := by omega
      have hkb : (j : Int) + 1 < (n : Int) := by omega
      have hj1 : decide ((0 : Int) < (j : Int) + 1) = true := by rw [decide_eq_true_eq]; omega
      have hj2 : decide ((0 : Int) < ((j + 1 : Nat) : Int)) = true := by rw [decide_eq_true_eq]; omega
      have hj3 : decide (0 < j + 1) = true := by rw [decide_eq_true_eq]; omega
      obtain ⟨yk, hyk⟩ : ∃ x, xs[j].1 = x := ⟨_, rfl⟩
      have HYK := Lib.hid hyk
      rw [hyk] at p0
      clear hyk hc p1
      have e1 := less_L xk yk
      cases ho : Kl.lt (Kl.L yk) (Kl.L xk) with
      | true =>
        have e2 : (xk.toList == yk.toList) = false := by
          rw [beq_eq_false_iff_ne, toList_L, toList_L]; intro e; rw [e, Kl.lt_irrefl] at ho; cases ho
        have e3 : ¬ xk.toList = yk.toList := by simpa using e2
        have e4 : ¬ xk = yk := fun e => e3 (by rw [e])
        rw [Kl.lt_asymm ho] at e1
        have HL := Lib.hid (scanP_ok (k := j + 1) hlx (by
          rw [prevP_succ hj]
          refine wrongP_up HC0.out ?_
          rw [HYK.out, HXK.out]
          have := Kl.ord_neg.2 ho
          omega))
        clear ho
        go_wp2_with fail
        go_quiet (fail)
        go_wp2_with fail
        go_roundw
        case rel => exact ⟨j + 1 + 1, by omega, by go_num, HB.out.trans ((below_drewN' _).mono HB.out.size), HA.out.trans HL.out, fun y h => by cases (prevP_succ hlx).symm.trans h; exact HC0.out⟩
        case measure => simp [intOf]; omega
      | false =>
        have hw : wrongP (prevP xs (j + 1)) xs[j + 1] = 6 := by
          rw [prevP_succ hj]
          refine wrongP_down HC0.out ?_
          rw [HYK.out, HXK.out]
          by_cases g : Kl.ord (Kl.L yk) (Kl.L xk) < 0
          · rw [Kl.ord_neg.1 g] at ho; cases ho
          · omega
        have hno := scanP_no (k := j + 1) hlx (by rw [hw]; decide)
        rw [hw] at hno
        have HL := Lib.hid hno
        clear hw hno
        have e2 : (Op.bytesLess xk.toList yk.toList || xk.toList == yk.toList) = true := by
          rw [e1]
          cases g : Kl.lt (Kl.L xk) (Kl.L yk) with
          | true => rfl
          | false => rw [Bool.false_or, beq_iff_eq, toList_L, toList_L]; exact Kl.lt_total g ho
        clear e1 ho
        go_wp2_with fail
        go_quiet (fail)
        go_wp2_with fail
        go_ret2
        exact ⟨retP (HAL.out.trans (HA.out.trans HL.out)) (by first | rfl | go_num) rfl, HB.out.trans ((below_drewN' _).mono HB.out.size)⟩
end Go.Proofs.Ytbgpcmpbfenplaa.KK
