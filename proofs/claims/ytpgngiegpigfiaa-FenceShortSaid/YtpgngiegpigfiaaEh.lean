/-
  Contracts of CheckList, on both sides.
-/
import Derived.Test.YtpgngiegpigfiaaEg
namespace Go.Proofs.Ytpgngiegpigfiaa.KK
open Go.ChangeShapes Go.WideShapes Go.ChangeAt Go.RowKit Go.Proofs

/-- what is wrong with an entry behind another one -/
def wrong (p : Option El.En) (x : El.En) : Int :=
  if El.chk x = 0 then (match p with | none => 0 | some y => if 0 ≤ Kl.ord (Kl.L y.1) (Kl.L x.1) then 6 else 0) else El.chk x
def scan : Nat → Option El.En → List El.En → Int × Int
  | _, _, [] => (0, 0)
  | i, p, x :: t => if wrong p x = 0 then scan (i + 1) (some x) t else ((i : Int), wrong p x)
def listE (xs : List El.En) : Int × Int := if 5000 < xs.length then (-1, 3) else scan 0 none xs
def prev (xs : List El.En) : Nat → Option El.En
  | 0 => none
  | k + 1 => xs[k]?
theorem prev_succ {xs : List El.En} {k : Nat} (h : k < xs.length) : prev xs (k + 1) = some xs[k] := List.getElem?_eq_getElem h
theorem scan_ok {xs : List El.En} {k : Nat} (h : k < xs.length) (g : wrong (prev xs k) xs[k] = 0) : scan k (prev xs k) (xs.drop k) = scan (k + 1) (prev xs (k + 1)) (xs.drop (k + 1)) := by
  rw [List.drop_eq_getElem_cons h, prev_succ h]; exact if_pos g
theorem scan_no {xs : List El.En} {k : Nat} (h : k < xs.length) (g : wrong (prev xs k) xs[k] ≠ 0) : scan k (prev xs k) (xs.drop k) = ((k : Int), wrong (prev xs k) xs[k]) := by
  rw [List.drop_eq_getElem_cons h]; exact if_neg g
theorem scan_end {xs : List El.En} {k : Nat} {p : Option El.En} (h : ¬ k < xs.length) : scan k p (xs.drop k) = (0, 0) := by
  rw [List.drop_eq_nil_of_le (by omega)]; rfl
theorem wrong_chk {p : Option El.En} {x : El.En} (h : El.chk x ≠ 0) : wrong p x = El.chk x := if_neg h
theorem wrong_none {x : El.En} (h : El.chk x = 0) : wrong none x = 0 := if_pos h
theorem wrong_up {y x : El.En} (h : El.chk x = 0) (g : ¬ 0 ≤ Kl.ord (Kl.L y.1) (Kl.L x.1)) : wrong (some y) x = 0 := by unfold wrong; rw [if_pos h]; exact if_neg g
theorem wrong_down {y x : El.En} (h : El.chk x = 0) (g : 0 ≤ Kl.ord (Kl.L y.1) (Kl.L x.1)) : wrong (some y) x = 6 := by unfold wrong; rw [if_pos h]; exact if_pos g
theorem retP {a b c d : Int} {p : Int × Int} (h : p = (a, b)) (g : a = c) (k : b = d) : Ending.returned (.tuple #[.int .i64 c, .int .i64 d]) = .returned (.tuple #[.int .i64 p.1, .int .i64 p.2]) := by rw [h, g, k]
theorem cell_alloc_old {w : World} {o : Obj} {b i : Nat} (h : b < w.heap.size) : (w.alloc o).cell? ⟨b, i, none⟩ = w.cell? ⟨b, i, none⟩ := by
  unfold World.cell?; rw [heap_alloc_old w o h]
theorem abv_cell {w1 : World} {b o : Nat} {v : Value} (hb : b < w1.heap.size) (h : w1.cell? ⟨b, o, none⟩ = some v) : ∀ p : Abv w1, p.world.cell? ⟨b, o, none⟩ = some v :=
  fun p => (p.h.cell (p := ⟨b, o, none⟩) hb).trans h
theorem box1 (k v : ByteArray) (d : Bool) (q : Int) (w : World) : Hid (∀ w', Below (w.alloc (.cells #[.string k, .string v, .bool d, .int .i64 q] 50)).heap.size (w.alloc (.cells #[.string k, .string v, .bool d, .int .i64 q] 50)) w' →
    w'.cell? ⟨w.heap.size, 0, none⟩ = some (.string k) ∧ w'.cell? ⟨w.heap.size, 1, none⟩ = some (.string v) ∧ w'.cell? ⟨w.heap.size, 2, none⟩ = some (.bool d) ∧ w'.cell? ⟨w.heap.size, 3, none⟩ = some (.int .i64 q) ∧ w.heap.size < w'.heap.size) := Lib.hid fun w' h => by
  have r1 := fun i => cell_of_row (w.alloc (.cells #[.string k, .string v, .bool d, .int .i64 q] 50)) w.heap.size i _ _ _ (heap_alloc_new w (.cells #[.string k, .string v, .bool d, .int .i64 q] 50))
  have g1 : ∀ i, w'.cell? ⟨w.heap.size, i, none⟩ = (w.alloc (.cells #[.string k, .string v, .bool d, .int .i64 q] 50)).cell? ⟨w.heap.size, i, none⟩ := fun i => h.cell (p := ⟨w.heap.size, i, none⟩) (by simp)
  exact ⟨(g1 0).trans (r1 0), (g1 1).trans (r1 1), (g1 2).trans (r1 2), (g1 3).trans (r1 3), by have := h.size; simp at this; omega⟩
theorem fst_of {p : Int × Int} {a b : Int} (h : p = (a, b)) : p.1 = a ∧ p.2 = b := by rw [h]; exact ⟨rfl, rfl⟩

set_option maxHeartbeats 2000000 in
theorem eList_any (A : Option Addr) (c : Nat) (xs : List El.En) (w : World) (hf : EsAt w A xs) (hn : xs.length ≤ 4294967295) (hs : Sized xs) :
    Calls Try.prog 35 #[.slice A xs.length c] w fun e w' => e = .returned (.tuple #[.int .i64 (listE xs).1, .int .i64 (listE xs).2]) ∧ Below w.heap.size w w' := by
  by_cases h64 : 5000 < xs.length
  · go_enter Try.func35, Try.ntmps35
    go_wp2_with fail
    go_ret2
    exact ⟨by rw [listE, if_pos h64]; rfl, Below.refl _ _⟩
  have HAL : Hid (listE xs = scan 0 none xs) := Lib.hid (by rw [listE, if_neg h64])
  go_enter Try.func35, Try.ntmps35
  go_wp2_with fail
  go_loopw [12] (fun i wr => ∃ k : Nat, k ≤ xs.length ∧ i = .int .i64 k ∧ Below w.heap.size w wr ∧ scan 0 none xs = scan k (prev xs k) (xs.drop k) ∧ (∀ y, prev xs k = some y → El.chk y = 0)) (fun i _ => xs.length - (intOf i).toNat)
  case atStart => exact ⟨0, Nat.zero_le _, rfl, Below.refl _ _, rfl, fun y h => by cases h⟩
  case round =>
    obtain ⟨k, hk, rfl, hb, ha, hpv⟩ := hrel
    have HPV := Lib.hid hpv
    clear hpv
    have hsz := hb.size
    have HA := Lib.hid ha
    have HB := Lib.hid hb
    have hf' := hf.below hb (Nat.le_refl _)
    clear ha hb hf
    by_cases hlt : k < xs.length
    rotate_left
    · go_wp2_with fail
      go_ret2
      exact ⟨by rw [HAL.out, HA.out, scan_end hlt]; rfl, HB.out⟩
    have HF := Lib.hid hf'
    rcases hf' with h0 | ⟨b, off, rfl, hbl, hc⟩
    · subst h0; simp at hlt
    obtain ⟨g0, g1, g2, g3⟩ := hc k hlt
    have J := Lib.hid (fun w => eCheck_any xs[k].1 xs[k].2.1 xs[k].2.2.1 xs[k].2.2.2 w (hs.at hlt).1 (hs.at hlt).2)
    by_cases hl : El.chk xs[k] = 0
    rotate_left
    · have HL := Lib.hid (scan_no hlt (by rw [wrong_chk hl]; exact hl))
      rw [wrong_chk hl] at HL
      obtain ⟨b1, b2⟩ := ne_b hl
      have J := Lib.hid (fun w => by have K := J.out w; rw [show El.chk (xs[k].1, xs[k].2.1, xs[k].2.2.1, xs[k].2.2.2) = El.chk xs[k] from rfl] at K; exact K)
      clear hl hc hs
      generalize El.chk xs[k] = r at *
      go_wp2_with fail
      refine (J.out _).mono ?_
      rintro e w1 ⟨rfl, hb1⟩
      have HB1 := Lib.hid ((HB.out.alloc hsz _).trans (hb1.mono (by simp; omega)))
      clear hb1
      go_wp2_with fail
      
      
      go_ret2
      exact ⟨retP (HAL.out.trans (HA.out.trans HL.out)) rfl rfl, HB1.out⟩
    have HC0 := Lib.hid hl
    have sk := (El.chk_of hl).1
    have J := Lib.hid (fun w => by have K := J.out w; rw [show El.chk (xs[k].1, xs[k].2.1, xs[k].2.2.1, xs[k].2.2.2) = 0 from hl] at K; exact K)
    clear hl
    by_cases hk0 : k = 0
    · have hk0' : decide ((0 : Int) < (k : Int)) = false := by simp; omega
      have hk1' : decide (0 < k) = false := by simp; omega
      have HL := Lib.hid (scan_ok hlt (by subst hk0; exact wrong_none HC0.out))
      clear hk0
      clear hc hs
      go_wp2_with fail
      refine (J.out _).mono ?_
      rintro e w1 ⟨rfl, hb1⟩
      have HB1 := Lib.hid ((HB.out.alloc hsz _).trans (hb1.mono (by simp; omega)))
      clear hb1
      go_wp2_with fail
      go_quiet (fail)
      go_wp2_with fail
      go_roundw
      case rel => exact ⟨k + 1, by omega, by go_num, HB1.out.trans ((below_drewN' _).mono HB1.out.size), HA.out.trans HL.out, fun y h => by cases (prev_succ hlt).symm.trans h; exact HC0.out⟩
      case measure => simp [intOf]; omega
    · obtain ⟨j, rfl⟩ : ∃ j, k = j + 1 := ⟨k - 1, by omega⟩
      clear hk0
      have hj : j < xs.length := by omega
      obtain ⟨p0, p1, p2, p3⟩ := hc j hj
      have hcj : El.chk xs[j] = 0 := HPV.out _ (prev_succ hj)
      have sj := (El.chk_of hcj).1
      have hwp : IntKind.i64.wrap (j : Int) = (j : Int) := by rw [IntKind.wrap_i64]; omega
      have hjb : (j : Int) < (xs.length : Int) := by omega
      have hkb : (j : Int) + 1 < (xs.length : Int) := by omega
      have hj1 : decide ((0 : Int) < (j : Int) + 1) = true := by rw [decide_eq_true_eq]; omega
      have JK := Lib.hid (fun w => eKey_any xs[j].1 xs[j].2.1 xs[j].2.2.1 xs[j].2.2.2 xs[j + 1].1 xs[j + 1].2.1 xs[j + 1].2.2.1 xs[j + 1].2.2.2 w sj sk)
      clear hc hs sj sk hcj
      by_cases ho : 0 ≤ Kl.ord (Kl.L xs[j].1) (Kl.L xs[j + 1].1)
      · have hw : wrong (prev xs (j + 1)) xs[j + 1] = 6 := by rw [prev_succ hj]; exact wrong_down HC0.out ho
        have HL := Lib.hid (by have h := scan_no (k := j + 1) hlt (by rw [hw]; decide); rw [hw] at h; exact h)
        clear hw
        have hd : decide (0 ≤ Kl.ord (Kl.L xs[j].1) (Kl.L xs[j + 1].1)) = true := by simpa using ho
        clear ho
        generalize Kl.ord (Kl.L xs[j].1) (Kl.L xs[j + 1].1) = r at *
        go_wp2_with fail
        refine (J.out _).mono ?_
        rintro e w1 ⟨rfl, hb1⟩
        have HB1 := Lib.hid ((HB.out.alloc hsz _).trans (hb1.mono (by simp; omega)))
        obtain ⟨x0, x1, x2, x3, hnx⟩ := (box1 _ _ _ _ _).out _ hb1
        have y0 := abv_cell hnx x0
        have y1 := abv_cell hnx x1
        have y2 := abv_cell hnx x2
        have y3 := abv_cell hnx x3
        have hbw : b < w1.heap.size := by omega
        have z0 := abv_cell hbw ((hb1.cell (p := ⟨b, _, none⟩) (by simp; omega)).trans ((cell_alloc_old hbl).trans p0))
        have z1 := abv_cell hbw ((hb1.cell (p := ⟨b, _, none⟩) (by simp; omega)).trans ((cell_alloc_old hbl).trans p1))
        have z2 := abv_cell hbw ((hb1.cell (p := ⟨b, _, none⟩) (by simp; omega)).trans ((cell_alloc_old hbl).trans p2))
        have z3 := abv_cell hbw ((hb1.cell (p := ⟨b, _, none⟩) (by simp; omega)).trans ((cell_alloc_old hbl).trans p3))
        clear x0 x1 x2 x3 p0 p1 p2 p3 g0 g1 g2 g3
        clear hb1
        go_wp2_with fail
        refine wp_region_abv (by first | assumption | kernel_rfl) (by kernel_rfl) ?_
        repeat (first | go_big_quiet_step (exact callAbv (JK.out _)) | quiet_step (exact callAbv (JK.out _)))
        refine wpQuiet_nil ?_
        intro w2 hw2
        obtain ⟨p, rfl⟩ := hw2
        go_wp2_with fail
        go_ret2
        exact ⟨retP (HAL.out.trans (HA.out.trans HL.out)) (by go_num) rfl, eb_of HB1.out p.h (Nat.le_refl _)⟩
      · have HL := Lib.hid (scan_ok (k := j + 1) hlt (by rw [prev_succ hj, wrong_up HC0.out ho]))
        have hd : decide (0 ≤ Kl.ord (Kl.L xs[j].1) (Kl.L xs[j + 1].1)) = false := by simpa using ho
        clear ho
        generalize Kl.ord (Kl.L xs[j].1) (Kl.L xs[j + 1].1) = r at *
        go_wp2_with fail
        refine (J.out _).mono ?_
        rintro e w1 ⟨rfl, hb1⟩
        have HB1 := Lib.hid ((HB.out.alloc hsz _).trans (hb1.mono (by simp; omega)))
        obtain ⟨x0, x1, x2, x3, hnx⟩ := (box1 _ _ _ _ _).out _ hb1
        have y0 := abv_cell hnx x0
        have y1 := abv_cell hnx x1
        have y2 := abv_cell hnx x2
        have y3 := abv_cell hnx x3
        have hbw : b < w1.heap.size := by omega
        have z0 := abv_cell hbw ((hb1.cell (p := ⟨b, _, none⟩) (by simp; omega)).trans ((cell_alloc_old hbl).trans p0))
        have z1 := abv_cell hbw ((hb1.cell (p := ⟨b, _, none⟩) (by simp; omega)).trans ((cell_alloc_old hbl).trans p1))
        have z2 := abv_cell hbw ((hb1.cell (p := ⟨b, _, none⟩) (by simp; omega)).trans ((cell_alloc_old hbl).trans p2))
        have z3 := abv_cell hbw ((hb1.cell (p := ⟨b, _, none⟩) (by simp; omega)).trans ((cell_alloc_old hbl).trans p3))
        clear x0 x1 x2 x3 p0 p1 p2 p3 g0 g1 g2 g3
        clear hb1
        go_wp2_with fail
        refine wp_region_abv (by first | assumption | kernel_rfl) (by kernel_rfl) ?_
        repeat (first | go_big_quiet_step (exact callAbv (JK.out _)) | quiet_step (exact callAbv (JK.out _)))
        refine wpQuiet_nil ?_
        intro w2 hw2
        obtain ⟨p, rfl⟩ := hw2
        go_wp2_with fail
        go_roundw
        case rel => exact ⟨j + 1 + 1, by omega, by go_num, eb_of HB1.out p.h (Nat.le_refl _), HA.out.trans HL.out, fun y h => by cases (prev_succ hlt).symm.trans h; exact HC0.out⟩
        case measure => simp [intOf]; omega

set_option maxHeartbeats 2000000 in
theorem fList_any (A : Option Addr) (c : Nat) (xs : List El.En) (w : World) (hf : EsAt w A xs) (hn : xs.length ≤ 4294967295) (hs : Sized xs) :
    Calls Try.prog 40 #[.slice A xs.length c] w fun e w' => e = .returned (.tuple #[.int .i64 (listE xs).1, .int .i64 (listE xs).2]) ∧ Below w.heap.size w w' := by
  by_cases h64 : 5000 < xs.length
  · go_enter Try.func40, Try.ntmps40
    go_wp2_with fail
    go_ret2
    exact ⟨by rw [listE, if_pos h64]; rfl, Below.refl _ _⟩
  have HAL : Hid (listE xs = scan 0 none xs) := Lib.hid (by rw [listE, if_neg h64])
  go_enter Try.func40, Try.ntmps40
  go_wp2_with fail
  go_loopw [4] (fun i wr => ∃ k : Nat, k ≤ xs.length ∧ i = .int .i64 k ∧ Below w.heap.size w wr ∧ scan 0 none xs = scan k (prev xs k) (xs.drop k) ∧ (∀ y, prev xs k = some y → El.chk y = 0)) (fun i _ => xs.length - (intOf i).toNat)
  case atStart => exact ⟨0, Nat.zero_le _, rfl, Below.refl _ _, rfl, fun y h => by cases h⟩
  case round =>
    obtain ⟨k, hk, rfl, hb, ha, hpv⟩ := hrel
    have HPV := Lib.hid hpv
    clear hpv
    have hsz := hb.size
    have HA := Lib.hid ha
    have HB := Lib.hid hb
    have hf' := hf.below hb (Nat.le_refl _)
    clear ha hb hf
    by_cases hlt : k < xs.length
    rotate_left
    · go_wp2_with fail
      go_ret2
      exact ⟨by rw [HAL.out, HA.out, scan_end hlt]; rfl, HB.out⟩
    have HF := Lib.hid hf'
    rcases hf' with h0 | ⟨b, off, rfl, hbl, hc⟩
    · subst h0; simp at hlt
    obtain ⟨g0, g1, g2, g3⟩ := hc k hlt
    have J := Lib.hid (fun w => fCheck_any xs[k].1 xs[k].2.1 xs[k].2.2.1 xs[k].2.2.2 w (hs.at hlt).1 (hs.at hlt).2)
    by_cases hl : El.chk xs[k] = 0
    rotate_left
    · have HL := Lib.hid (scan_no hlt (by rw [wrong_chk hl]; exact hl))
      rw [wrong_chk hl] at HL
      obtain ⟨b1, b2⟩ := ne_b hl
      have J := Lib.hid (fun w => by have K := J.out w; rw [show El.chk (xs[k].1, xs[k].2.1, xs[k].2.2.1, xs[k].2.2.2) = El.chk xs[k] from rfl] at K; exact K)
      clear hl hc hs
      generalize El.chk xs[k] = r at *
      go_wp2_with fail
      refine (J.out _).mono ?_
      rintro e w1 ⟨rfl, hb1⟩
      have HB1 := Lib.hid ((HB.out).trans (hb1.mono hsz))
      clear hb1
      go_wp2_with fail
      go_quiet (fail)
      go_wp2_with fail
      go_ret2
      exact ⟨retP (HAL.out.trans (HA.out.trans HL.out)) rfl rfl, HB1.out.trans ((below_drewN' _).mono HB1.out.size)⟩
    have HC0 := Lib.hid hl
    have sk := (El.chk_of hl).1
    have J := Lib.hid (fun w => by have K := J.out w; rw [show El.chk (xs[k].1, xs[k].2.1, xs[k].2.2.1, xs[k].2.2.2) = 0 from hl] at K; exact K)
    clear hl
    by_cases hk0 : k = 0
    · have hk0' : decide ((0 : Int) < (k : Int)) = false := by simp; omega
      have hk1' : decide (0 < k) = false := by simp; omega
      have HL := Lib.hid (scan_ok hlt (by subst hk0; exact wrong_none HC0.out))
      clear hk0
      clear hc hs
      go_wp2_with fail
      refine (J.out _).mono ?_
      rintro e w1 ⟨rfl, hb1⟩
      have HB1 := Lib.hid ((HB.out).trans (hb1.mono hsz))
      clear hb1
      go_wp2_with fail
      go_quiet (fail)
      go_wp2_with fail
      go_roundw
      case rel => exact ⟨k + 1, by omega, by go_num, HB1.out.trans ((below_drewN' _).mono HB1.out.size), HA.out.trans HL.out, fun y h => by cases (prev_succ hlt).symm.trans h; exact HC0.out⟩
      case measure => simp [intOf]; omega
    · obtain ⟨j, rfl⟩ : ∃ j, k = j + 1 := ⟨k - 1, by omega⟩
      clear hk0
      have hj : j < xs.length := by omega
      obtain ⟨p0, p1, p2, p3⟩ := hc j hj
      have hcj : El.chk xs[j] = 0 := HPV.out _ (prev_succ hj)
      have sj := (El.chk_of hcj).1
      have hwp : IntKind.i64.wrap (j : Int) = (j : Int) := by rw [IntKind.wrap_i64]; omega
      have hjb : (j : Int) < (xs.length : Int) := by omega
      have hkb : (j : Int) + 1 < (xs.length : Int) := by omega
      have hj1 : decide ((0 : Int) < (j : Int) + 1) = true := by rw [decide_eq_true_eq]; omega
      have JK := Lib.hid (fun w => Order_any xs[j].1 xs[j + 1].1 w (by omega) (by omega))
      clear hc hs sj sk hcj
      by_cases ho : 0 ≤ Kl.ord (Kl.L xs[j].1) (Kl.L xs[j + 1].1)
      · have hw : wrong (prev xs (j + 1)) xs[j + 1] = 6 := by rw [prev_succ hj]; exact wrong_down HC0.out ho
        have HL := Lib.hid (by have h := scan_no (k := j + 1) hlt (by rw [hw]; decide); rw [hw] at h; exact h)
        clear hw
        have hd : decide (0 ≤ Kl.ord (Kl.L xs[j].1) (Kl.L xs[j + 1].1)) = true := by simpa using ho
        clear ho
        generalize Kl.ord (Kl.L xs[j].1) (Kl.L xs[j + 1].1) = r at *
        go_wp2_with fail
        refine (J.out _).mono ?_
        rintro e w1 ⟨rfl, hb1⟩
        have HB1 := Lib.hid ((HB.out).trans (hb1.mono hsz))
        have hbw : b < w1.heap.size := Nat.lt_of_lt_of_le hbl hb1.size
        have z0 := abv_cell hbw ((hb1.cell (p := ⟨b, _, none⟩) hbl).trans p0)
        have y0 := abv_cell hbw ((hb1.cell (p := ⟨b, _, none⟩) hbl).trans g0)
        clear p0 p1 p2 p3 g0 g1 g2 g3
        clear hb1
        go_wp2_with fail
        refine wp_region_abv (by first | assumption | kernel_rfl) (by kernel_rfl) ?_
        repeat (first | go_big_quiet_step (exact callAbv (JK.out _)) | quiet_step (exact callAbv (JK.out _)))
        refine wpQuiet_nil ?_
        intro w2 hw2
        obtain ⟨p, rfl⟩ := hw2
        go_wp2_with fail
        go_ret2
        exact ⟨retP (HAL.out.trans (HA.out.trans HL.out)) (by go_num) rfl, eb_of HB1.out p.h (Nat.le_refl _)⟩
      · have HL := Lib.hid (scan_ok (k := j + 1) hlt (by rw [prev_succ hj, wrong_up HC0.out ho]))
        have hd : decide (0 ≤ Kl.ord (Kl.L xs[j].1) (Kl.L xs[j + 1].1)) = false := by simpa using ho
        clear ho
        generalize Kl.ord (Kl.L xs[j].1) (Kl.L xs[j + 1].1) = r at *
        go_wp2_with fail
        refine (J.out _).mono ?_
        rintro e w1 ⟨rfl, hb1⟩
        have HB1 := Lib.hid ((HB.out).trans (hb1.mono hsz))
        have hbw : b < w1.heap.size := Nat.lt_of_lt_of_le hbl hb1.size
        have z0 := abv_cell hbw ((hb1.cell (p := ⟨b, _, none⟩) hbl).trans p0)
        have y0 := abv_cell hbw ((hb1.cell (p := ⟨b, _, none⟩) hbl).trans g0)
        clear p0 p1 p2 p3 g0 g1 g2 g3
        clear hb1
        go_wp2_with fail
        refine wp_region_abv (by first | assumption | kernel_rfl) (by kernel_rfl) ?_
        repeat (first | go_big_quiet_step (exact callAbv (JK.out _)) | quiet_step (exact callAbv (JK.out _)))
        refine wpQuiet_nil ?_
        intro w2 hw2
        obtain ⟨p, rfl⟩ := hw2
        go_wp2_with fail
        go_roundw
        case rel => exact ⟨j + 1 + 1, by omega, by go_num, eb_of HB1.out p.h (Nat.le_refl _), HA.out.trans HL.out, fun y h => by cases (prev_succ hlt).symm.trans h; exact HC0.out⟩
        case measure => simp [intOf]; omega
end Go.Proofs.Ytpgngiegpigfiaa.KK
