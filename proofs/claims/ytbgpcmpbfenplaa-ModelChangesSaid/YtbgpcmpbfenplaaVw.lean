/-
  Contract of a table's drop (pins).
-/
import Derived.Test.YtbgpcmpbfenplaaVv
namespace Go.Proofs.Ytbgpcmpbfenplaa.KK
open Go.ChangeShapes Go.WideShapes Go.ChangeAt Go.RowKit Go.Proofs
/-- three cells of a row are written -/
theorem row_set3 {W : World} {b : Nat} {cur : Array Value} {t : TypeId} (h : W.heap[b]? = some (.cells cur t (0, 0))) (i : Nat) (u0 u1 u2 : Value) :
    (((W.setCell ⟨b, i, none⟩ u0).setCell ⟨b, i + 1, none⟩ u1).setCell ⟨b, i + 2, none⟩ u2).heap[b]? = some (.cells (((cur.setIfInBounds i u0).setIfInBounds (i + 1) u1).setIfInBounds (i + 2) u2) t (0, 0)) := by
  simp [World.setCell, Array.getElem?_modify, h]
set_option maxRecDepth 100000 in
set_option maxHeartbeats 4000000 in
theorem drop_any (M o : Nat) (b c : Nat) (cur : Array Value) (ss : List Sl) (x g : Int) (w : World) (hm : w.cell? ⟨M, o + 1, none⟩ = some (.slice (some ⟨b, 0, none⟩) ss.length c)) (hrow : w.heap[b]? = some (.cells cur 129 (0, 0))) (hss : SlAt w (some ⟨b, 0, none⟩) ss) (hsz : ss.length * 3 ≤ cur.size) (hbM : b ≠ M) (hn : ss.length ≤ 100) (hv : ∀ s ∈ ss, ∃ a m d, s.2.2 = .slice a m d) (hx : x ≤ 9223372036854775807) (he : handE ss x g = 0) :
    Calls Try.prog 78 #[.pointer (some ⟨M, o, none⟩), .agg #[.int .i64 x, .int .i64 g]] w fun e w' => e = .returned (.int .i64 0) ∧ w'.heap[b]? = some (.cells (((cur.setIfInBounds ((x - 1).toNat * 3) (.int .i64 g)).setIfInBounds ((x - 1).toNat * 3 + 1) (.bool false)).setIfInBounds ((x - 1).toNat * 3 + 2) (.slice none 0 0)) 129 (0, 0)) ∧ w.grownBy w' (some b) := by
  have hml : M < w.heap.size := cell_lt hm
  have hbl : b < w.heap.size := (Array.getElem?_eq_some_iff.1 hrow).1
  have hb0 := alloc_below w (.cells #[.int .i64 x, .int .i64 g] 52)
  have m0 := (cell_alloc_old (o := .cells #[.int .i64 x, .int .i64 g] 52) hml).trans hm
  have J := Lib.hid (check_any M o (some ⟨b, 0, none⟩) c ss x g _ m0 (hss.below hb0 (Nat.le_refl _)) hn hv hx)
  obtain ⟨k, rfl, hk⟩ := handE_ok he
  rw [he] at J
  rw [show ((k : Int) + 1 - 1).toNat = k by omega]
  have hwp : IntKind.i64.wrap ((k : Int) + 1 - 1) = (k : Int) := by rw [IntKind.wrap_i64]; omega
  have hwp2 : IntKind.i64.wrap (k : Int) = (k : Int) := by rw [IntKind.wrap_i64]; omega
  have hkI : (k : Int) < (ss.length : Int) := by omega
  clear hss hv he
  generalize ss.length = n at *
  go_enter Try.func78, Try.ntmps78
  go_wp2_with fail
  refine J.out.mono ?_
  rintro e w1 ⟨rfl, hb⟩
  have hb1 := hb0.trans (hb.mono hb0.size)
  have m1 := (hb1.cell (p := ⟨M, o + 1, none⟩) hml).trans hm
  have hr1 := (hb1.block b hbl).trans hrow
  have r1 := (hb.cell (p := ⟨w.heap.size, 0, none⟩) (by simp)).trans ((Row2.new w 52 (.int .i64 ((k : Int) + 1)) (.int .i64 g)).c0)
  have r2 := (hb.cell (p := ⟨w.heap.size, 1, none⟩) (by simp)).trans ((Row2.new w 52 (.int .i64 ((k : Int) + 1)) (.int .i64 g)).c1)
  obtain ⟨u0, hu0⟩ : ∃ u, cur[k * 3]? = some u := ⟨_, Array.getElem?_eq_getElem (by omega)⟩
  obtain ⟨u1, hu1⟩ : ∃ u, cur[k * 3 + 1]? = some u := ⟨_, Array.getElem?_eq_getElem (by omega)⟩
  obtain ⟨u2, hu2⟩ : ∃ u, cur[k * 3 + 2]? = some u := ⟨_, Array.getElem?_eq_getElem (by omega)⟩
  have c0 := (cell_of_row w1 b (k * 3) _ _ _ hr1).trans hu0
  have c1 := (cell_of_row w1 b (k * 3 + 1) _ _ _ hr1).trans hu1
  have c2 := (cell_of_row w1 b (k * 3 + 2) _ _ _ hr1).trans hu2
  have f0 := fz_row hr1 (k * 3)
  have f1 := fz_row hr1 (k * 3 + 1)
  have f2 := fz_row hr1 (k * 3 + 2)
  have HR := Lib.hid hr1
  have HB := Lib.hid hb1
  clear m0 hm hu0 hu1 hu2 hr1
  go_wp2_with fail
  go_region
  go_wp2_with fail
  go_ret
  refine ⟨rfl, row_set3 HR.out _ _ _ _, ?_⟩
  exact grown_below (grown_trans (grown_trans (grown_trans (grown_of HB.out) (grown_set _)) (grown_set _)) (grown_set _)) (below_drew1 (Below.refl _ _)) (Nat.le_refl _)
set_option maxRecDepth 100000 in
theorem letgo_no (M o : Nat) (S : Option Addr) (c : Nat) (ss : List Sl) (x g : Int) (w : World) (hm : w.cell? ⟨M, o + 1, none⟩ = some (.slice S ss.length c)) (hss : SlAt w S ss) (hn : ss.length ≤ 100) (hv : ∀ s ∈ ss, ∃ a m d, s.2.2 = .slice a m d) (hx : x ≤ 9223372036854775807) (he : handE ss x g ≠ 0) :
    Calls Try.prog 78 #[.pointer (some ⟨M, o, none⟩), .agg #[.int .i64 x, .int .i64 g]] w fun e w' => e = .returned (.int .i64 (handE ss x g)) ∧ Below w.heap.size w w' := by
  have hml : M < w.heap.size := cell_lt hm
  have hb0 := alloc_below w (.cells #[.int .i64 x, .int .i64 g] 52)
  have m0 := (cell_alloc_old (o := .cells #[.int .i64 x, .int .i64 g] 52) hml).trans hm
  have J := Lib.hid (check_any M o S c ss x g _ m0 (hss.below hb0 (Nat.le_refl _)) hn hv hx)
  obtain ⟨b1, b2⟩ := ne_b he
  clear he hss hv m0 hm
  generalize handE ss x g = r at *
  go_enter Try.func78, Try.ntmps78
  go_wp2_with fail
  refine J.out.mono ?_
  rintro e w1 ⟨rfl, hb⟩
  go_wp2_with fail
  go_ret
  exact ⟨rfl, hb0.trans (hb.mono hb0.size)⟩
set_option maxRecDepth 100000 in
theorem unpin_no (M : Nat) (S : Option Addr) (c : Nat) (ss : List Sl) (x g : Int) (w : World) (hself : w.cell? ⟨M, 0, none⟩ = some (.pointer (some ⟨M, 0, none⟩))) (hm : w.cell? ⟨M, 3, none⟩ = some (.slice S ss.length c)) (hss : SlAt w S ss) (hn : ss.length ≤ 100) (hv : ∀ s ∈ ss, ∃ a m d, s.2.2 = .slice a m d) (hx : x ≤ 9223372036854775807) (he : handE ss x g ≠ 0) :
    Calls Try.prog 44 #[.pointer (some ⟨M, 0, none⟩), .agg #[.int .i64 x, .int .i64 g]] w fun e w' => e = .returned (.int .i64 (handE ss x g)) ∧ Below w.heap.size w w' := by
  have hml : M < w.heap.size := cell_lt hm
  have HB0 := Lib.hid (alloc_below w (.cells #[.int .i64 x, .int .i64 g] 52))
  have J1 := Lib.hid (fun (w1 : World) (h : Below w.heap.size w w1) => made_yes M w1 ((h.cell (p := ⟨M, 0, none⟩) hml).trans hself))
  have J2 := Lib.hid (fun (w1 : World) (h : Below w.heap.size w w1) => letgo_no M 2 S c ss x g w1 ((h.cell (p := ⟨M, 3, none⟩) hml).trans hm) (hss.below h (Nat.le_refl _)) hn hv hx he)
  have r0 := (Row2.new w 52 (.int .i64 x) (.int .i64 g)).c0
  have r1 := (Row2.new w 52 (.int .i64 x) (.int .i64 g)).c1
  clear hself hm hss hv he
  generalize handE ss x g = r at *
  go_enter Try.func44, Try.ntmps44
  go_wp2_with fail
  refine (J1.out _ HB0.out).mono ?_
  rintro e w1 ⟨rfl, hb⟩
  have HB1 := Lib.hid (eb_of HB0.out hb (Nat.le_refl _))
  have q0 := (hb.cell (p := ⟨w.heap.size, 0, none⟩) (by simp)).trans r0
  have q1 := (hb.cell (p := ⟨w.heap.size, 1, none⟩) (by simp)).trans r1
  have x0 := abv_c q0
  have x1 := abv_c q1
  have J3 := Lib.hid (fun p : Abv w1 => J2.out p.world (HB1.out.trans (p.h.mono HB1.out.size)))
  clear hb q0 q1
  go_wp2_with fail
  refine wp_region_abv (by first | assumption | kernel_rfl) (by kernel_rfl) ?_
  repeat (first | go_big_quiet_step (exact callAbv (J3.out _)) | quiet_step (exact callAbv (J3.out _)))
  refine wpQuiet_nil ?_
  intro w2 hw2
  obtain ⟨p, rfl⟩ := hw2
  go_wp2_with fail
  go_ret
  exact ⟨rfl, eb_of HB1.out p.h (Nat.le_refl _)⟩
end Go.Proofs.Ytbgpcmpbfenplaa.KK
