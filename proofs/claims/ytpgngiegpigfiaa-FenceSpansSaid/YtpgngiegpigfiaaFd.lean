/-
  Check of fences, of the reference.
-/
import Derived.Test.YtpgngiegpigfiaaFc
namespace Go.Proofs.Ytpgngiegpigfiaa.KK
open Go.ChangeShapes Go.WideShapes Go.ChangeAt Go.RowKit Go.Proofs
set_option maxRecDepth 100000 in
set_option maxHeartbeats 2000000 in
theorem rCheck7_any (s : Int) (A : Option Addr) (c : Nat) (ms : List ByteArray) (w : World) (hf : SsAt w A ms) (hn : ms.length ≤ 4294967295) (hs : SizedS ms) :
    Calls Try.prog 19 #[.agg #[.int .i64 s, .slice A ms.length c]] w fun e w' => e = .returned (.tuple #[.int .i64 (chkF s ms).1, .int .i64 (chkF s ms).2]) ∧ Below w.heap.size w w' := by
  have HBX := Lib.hid ((Below.refl w.heap.size w).alloc (Nat.le_refl _) (.cells #[.int .i64 s, .slice A ms.length c] 25))
  have hx0 : (w.alloc (.cells #[.int .i64 s, .slice A ms.length c] 25)).cell? ⟨w.heap.size, 0, none⟩ = some (.int .i64 s) := cell_of_row _ w.heap.size 0 _ _ _ (heap_alloc_new w _)
  have hx1 : (w.alloc (.cells #[.int .i64 s, .slice A ms.length c] 25)).cell? ⟨w.heap.size, 1, none⟩ = some (.slice A ms.length c) := cell_of_row _ w.heap.size 1 _ _ _ (heap_alloc_new w _)
  have HX : Hid (∀ w', Below (w.alloc (.cells #[.int .i64 s, .slice A ms.length c] 25)).heap.size (w.alloc (.cells #[.int .i64 s, .slice A ms.length c] 25)) w' → w'.cell? ⟨w.heap.size, 0, none⟩ = some (.int .i64 s) ∧ w'.cell? ⟨w.heap.size, 1, none⟩ = some (.slice A ms.length c)) := Lib.hid fun w' h =>
    ⟨(h.cell (p := ⟨w.heap.size, 0, none⟩) (by simp)).trans hx0, (h.cell (p := ⟨w.heap.size, 1, none⟩) (by simp)).trans hx1⟩
  clear hx0 hx1
  cases hst : stepB s with
  | false =>
    have HL := Lib.hid (chkF_step (ms := ms) hst)
    have hst' : ¬ (1 ≤ s ∧ s ≤ 64) := by simp [stepB] at hst; omega
    clear hst
    by_cases hs1 : s < 1
    · clear hst'
      go_enter Try.func19, Try.ntmps19
      go_wp2_with fail
      go_ret2
      exact ⟨retP HL.out rfl rfl, HBX.out⟩
    · have hs2 : 64 < s := by omega
      clear hst'
      go_enter Try.func19, Try.ntmps19
      go_wp2_with fail
      go_ret2
      exact ⟨retP HL.out rfl rfl, HBX.out⟩
  | true =>
    have hst' : 1 ≤ s ∧ s ≤ 64 := by simpa [stepB] using hst
    have hs1 : ¬ s < 1 := by omega
    have hs2 : ¬ 64 < s := by omega
    clear hst'
    by_cases h64 : 4999 < ms.length
    · have HL := Lib.hid (chkF_long hst h64)
      have h65 : 5000 ≤ ms.length := by omega
      have h66 : (5000 : Int) ≤ (ms.length : Int) := by omega
      clear hst hf
      go_enter Try.func19, Try.ntmps19
      go_wp2_with fail
      skip
      go_ret2
      exact ⟨retP HL.out rfl rfl, HBX.out⟩
    have HAL := Lib.hid (chkF_scan hst h64)
    have h65 : ¬ 5000 ≤ ms.length := by omega
    have h66 : ¬ (5000 : Int) ≤ (ms.length : Int) := by omega
    clear hst
    go_enter Try.func19, Try.ntmps19
    go_wp2_with fail
    go_loopw [4] (fun i wr => ∃ k : Nat, k ≤ ms.length ∧ i = .int .i64 k ∧ Below (w.alloc (.cells #[.int .i64 s, .slice A ms.length c] 25)).heap.size (w.alloc (.cells #[.int .i64 s, .slice A ms.length c] 25)) wr ∧ scanM 0 none ms = scanM k (prevM ms k) (ms.drop k) ∧ (∀ y, prevM ms k = some y → y.size ≤ 32)) (fun i _ => ms.length - (intOf i).toNat)
    case atStart => exact ⟨0, Nat.zero_le _, rfl, Below.refl _ _, rfl, fun y h => by cases h⟩
    case round =>
      obtain ⟨k, hk, rfl, hb, ha, hpv⟩ := hrel
      have HPV := Lib.hid hpv
      clear hpv
      obtain ⟨x0, x1⟩ := HX.out _ hb
      have HB : Hid (Below w.heap.size w wr) := Lib.hid (HBX.out.trans (hb.mono (by simp)))
      have HC := Lib.hid hb
      have hsz := HB.out.size
      have hws : w.heap.size < wr.heap.size := by have := hb.size; simp at this; omega
      have HA := Lib.hid ha
      have hf' := hf.below HB.out (Nat.le_refl _)
      clear ha hb hf
      by_cases hlt : k < ms.length
      rotate_left
      · have HE := Lib.hid (scanM_end (p := prevM ms k) hlt)
        go_wp2_with fail
        go_ret2
        exact ⟨retP (HAL.out.trans (HA.out.trans HE.out)) rfl rfl, HB.out⟩
      rcases hf' with h0 | ⟨b, off, rfl, hbl, hc⟩
      · subst h0; simp at hlt
      have g0 := hc k hlt
      have J := Lib.hid (fun w => rCheck_any ms[k] w (hs.at hlt))
      by_cases hl : ms[k].size ≤ 32
      rotate_left
      · have HL := Lib.hid (scanM_no hlt (by rw [wrongM_chk hl]; decide))
        rw [wrongM_chk hl] at HL
        rw [chk1_no hl] at J
        clear hl hc hs
        go_wp2_with fail
        refine (J.out _).mono ?_
        rintro e w1 ⟨rfl, rfl⟩
        go_wp2_with fail
        go_quiet (fail)
        go_wp2_with fail
        go_ret2
        exact ⟨retP (HAL.out.trans (HA.out.trans HL.out)) rfl rfl, HB.out.trans ((below_drewN' _).mono HB.out.size)⟩
      rw [chk1_ok hl] at J
      by_cases hk0 : k = 0
      · have hk0' : decide ((0 : Int) < (k : Int)) = false := by simp; omega
        have hk1' : decide (0 < k) = false := by simp; omega
        have HL := Lib.hid (scanM_ok hlt (by subst hk0; exact wrongM_none hl))
        have HKL := Lib.hid hl
        clear hk0 hl hc hs
        go_wp2_with fail
        refine (J.out _).mono ?_
        rintro e w1 ⟨rfl, rfl⟩
        go_wp2_with fail
        go_quiet (fail)
        go_wp2_with fail
        go_roundw
        case rel => exact ⟨k + 1, by omega, by go_num, HC.out.trans ((below_drewN' _).mono HC.out.size), HA.out.trans HL.out, fun y h => by cases (prevM_succ hlt).symm.trans h; exact HKL.out⟩
        case measure => simp [intOf]; omega
      · obtain ⟨j, rfl⟩ : ∃ j, k = j + 1 := ⟨k - 1, by omega⟩
        clear hk0
        have hj : j < ms.length := by omega
        have p0 := hc j hj
        have sj := HPV.out _ (prevM_succ hj)
        have hwp : IntKind.i64.wrap (j : Int) = (j : Int) := by rw [IntKind.wrap_i64]; omega
        have hjb : (j : Int) < (ms.length : Int) := by omega
        have hkb : (j : Int) + 1 < (ms.length : Int) := by omega
        have hj1 : decide ((0 : Int) < (j : Int) + 1) = true := by rw [decide_eq_true_eq]; omega
        have JK := Lib.hid (fun w => Order_any ms[j] ms[j + 1] w (by omega) (by omega))
        have HKL := Lib.hid hl
        clear hc hs
        cases ho : ltK ms[j] ms[j + 1] with
        | false =>
          have hw : wrongM (prevM ms (j + 1)) ms[j + 1] = 6 := by rw [prevM_succ hj]; exact wrongM_down hl ho
          have HL := Lib.hid (by have h := scanM_no (k := j + 1) hlt (by rw [hw]; decide); rw [hw] at h; exact h)
          have hd : decide (0 ≤ Kl.ord (Kl.L ms[j]) (Kl.L ms[j + 1])) = true := by rw [decide_eq_true_eq, Kl.ord_nonneg]; exact ho
          clear ho
          generalize Kl.ord (Kl.L ms[j]) (Kl.L ms[j + 1]) = r at *
          clear hw sj hl
          go_wp2_with fail
          refine (J.out _).mono ?_
          rintro e w1 ⟨rfl, rfl⟩
          go_wp2_with fail
          have y0 := abv_cell hbl g0
          have y1 := abv_cell hbl p0
          have y2 := abv_cell hws x1
          clear p0 g0
          refine wp_region_abv (by first | assumption | kernel_rfl) (by kernel_rfl) ?_
          repeat (first | go_big_quiet_step (exact callAbv (JK.out _)) | quiet_step (exact callAbv (JK.out _)))
          refine wpQuiet_nil ?_
          intro w2 hw2
          obtain ⟨p, rfl⟩ := hw2
          go_wp2_with fail
          go_ret2
          exact ⟨retP (HAL.out.trans (HA.out.trans HL.out)) (by go_num) rfl, eb_of HB.out p.h (Nat.le_refl _)⟩
        | true =>
          have HL := Lib.hid (scanM_ok (k := j + 1) hlt (by rw [prevM_succ hj, wrongM_up hl ho]))
          have hd : decide (0 ≤ Kl.ord (Kl.L ms[j]) (Kl.L ms[j + 1])) = false := by rw [decide_eq_false_iff_not, Kl.ord_nonneg]; unfold ltK at ho; rw [ho]; simp
          clear ho
          generalize Kl.ord (Kl.L ms[j]) (Kl.L ms[j + 1]) = r at *
          clear sj hl
          go_wp2_with fail
          refine (J.out _).mono ?_
          rintro e w1 ⟨rfl, rfl⟩
          go_wp2_with fail
          have y0 := abv_cell hbl g0
          have y1 := abv_cell hbl p0
          have y2 := abv_cell hws x1
          clear p0 g0
          refine wp_region_abv (by first | assumption | kernel_rfl) (by kernel_rfl) ?_
          repeat (first | go_big_quiet_step (exact callAbv (JK.out _)) | quiet_step (exact callAbv (JK.out _)))
          refine wpQuiet_nil ?_
          intro w2 hw2
          obtain ⟨p, rfl⟩ := hw2
          go_wp2_with fail
          go_roundw
          case rel => exact ⟨j + 1 + 1, by omega, by go_num, eb_of HC.out p.h (Nat.le_refl _), HA.out.trans HL.out, fun y h => by cases (prevM_succ hlt).symm.trans h; exact HKL.out⟩
          case measure => simp [intOf]; omega
end Go.Proofs.Ytpgngiegpigfiaa.KK
