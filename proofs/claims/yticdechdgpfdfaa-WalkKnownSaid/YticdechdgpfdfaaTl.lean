/-
  Walk: the reference's Next, Prev.
-/
import Derived.Test.YticdechdgpfdfaaTk
namespace Go.Proofs.Yticdechdgpfdfaa.KK
open Go.ChangeShapes Go.WideShapes Go.ChangeAt Go.RowKit Go.Proofs Go.Sort

set_option maxRecDepth 100000 in
set_option maxHeartbeats 4000000 in
theorem rNext9_any (id : Int) (B : Option Addr) (d : Nat) (xs : List El.En) (k : Int) (w : World) (hf : EsAt w B xs) (hn : xs.length ≤ 4294967295) (hs : Sized xs) :
    Calls Try.prog 20 #[.agg #[.int .i64 id, .slice B xs.length d], .agg #[.int .i64 k]] w (GoOut id xs k false (fun _ => true) w) := by
  obtain ⟨w1, hw1, r0, b0, r1, b2, hsz, hb⟩ := boxNx id B xs.length d k w
  have J := Lib.hid (fun w2 (h : Below w.heap.size w w2) => rCur_any id B d xs k w2 (hf.below h (Nat.le_refl _)) hn hs)
  have HB := Lib.hid hb
  have HR0 := Lib.hid r0
  have HK0 := Lib.hid b0
  have HR1 := Lib.hid r1
  have HK2 := Lib.hid b2
  have x0 := r0.c0
  have x1 := r0.c1
  have x2 := b0.cell
  clear r0 b0 r1 b2 hb hsz
  unfold GoOut
  by_cases h1 : curE id xs k = 0
  rotate_left
  · obtain ⟨n1, n2⟩ := ne_b h1
    have HL := Lib.hid (goE_no (back := false) (q := fun _ => true) h1)
    clear hf hs h1
    generalize goE id xs k false (fun _ => true) = res at *
    generalize curE id xs k = r2 at *
    generalize xs.length = n at *
    go_enter Try.func20, Try.ntmps20
    go_wp2_with fail
    refine (J.out _ HB.out).mono ?_
    rintro e w2 ⟨rfl, hb⟩
    have r0 := HR0.out.below hb (Nat.le_refl _)
    have b0 := box_below HK0.out hb (Nat.le_refl _)
    have r1 : Z4 _ _ _ := Row4.below HR1.out hb (Nat.le_refl _)
    have b2 := box_below HK2.out hb (Nat.le_refl _)
    have HO := Lib.hid (out2 r1 b2 (by omega) (.string ⟨#[]⟩) (.string ⟨#[]⟩) (.bool false) (.int .i64 0) (.int .i64 0))
    have HB2 := Lib.hid (eb_of HB.out hb (by first | exact Nat.le_refl _ | exact HB.out.size))
    clear x0 x1 x2
    have x0 := r0.c0
    have x1 := r0.c1
    have x2 := b0.cell
    have y0 := r1.c0
    have y1 := r1.c1
    have y2 := r1.c2
    have y3 := r1.c3
    have z0 := r1.fz 0
    have z1 := r1.fz 1
    have z2 := r1.fz 2
    have z3 := r1.fz 3
    have y4 := b2.cell
    have z4 := b2.frozen
    have hlt := b2.lt
    clear hb r1 b2 r0 b0
    have hmo : Try.prog.follows .mixedOrders = true := by kernel_rfl
    go_wp2_with fail
    obtain ⟨k1, k2, k3⟩ := HO.out
    have c0 := k1.c0
    have c1 := k1.c1
    have c2 := k1.c2
    have c3 := k1.c3
    have c4 := k2.cell
    refine bodyPost_ret (v := .tuple #[.agg #[.string ⟨#[]⟩, .string ⟨#[]⟩, .bool false, .int .i64 0], .agg #[.int .i64 0], .int .i64 r2]) (by simp [results, Try.f20, go_sem, c0, c1, c2, c3, c4]) rfl ?_
    exact ⟨by rw [HL.out]; rfl, by first | exact k3 _ _ HB2.out (by omega) (by omega) | exact below_drew (k3 _ _ HB2.out (by omega) (by omega))⟩
  obtain ⟨hr, m, rfl, hm⟩ := curE_zero h1
  rw [h1] at J
  have h5 : xs.length ≤ 5000 := (list_ok (run_list hr)).1
  by_cases hmn : m = xs.length
  · have HL : Hid (goE id xs m false (fun _ => true) = (El.none, (m : Int), 12)) := Lib.hid (by rw [hmn]; exact goE_nend hr)
    have t1 : ((m : Int) == (xs.length : Int)) = true := by rw [beq_iff_eq]; omega
    clear hf hs h1 hr hmn
    generalize goE id xs m false (fun _ => true) = res at *
    generalize xs.length = n at *
    go_enter Try.func20, Try.ntmps20
    go_wp2_with fail
    refine (J.out _ HB.out).mono ?_
    rintro e w2 ⟨rfl, hb⟩
    have r0 := HR0.out.below hb (Nat.le_refl _)
    have b0 := box_below HK0.out hb (Nat.le_refl _)
    have r1 : Z4 _ _ _ := Row4.below HR1.out hb (Nat.le_refl _)
    have b2 := box_below HK2.out hb (Nat.le_refl _)
    have HO := Lib.hid (out2 r1 b2 (by omega) (.string ⟨#[]⟩) (.string ⟨#[]⟩) (.bool false) (.int .i64 0) (.int .i64 (m : Int)))
    have HB2 := Lib.hid (eb_of HB.out hb (by first | exact Nat.le_refl _ | exact HB.out.size))
    clear x0 x1 x2
    have x0 := r0.c0
    have x1 := r0.c1
    have x2 := b0.cell
    have y0 := r1.c0
    have y1 := r1.c1
    have y2 := r1.c2
    have y3 := r1.c3
    have z0 := r1.fz 0
    have z1 := r1.fz 1
    have z2 := r1.fz 2
    have z3 := r1.fz 3
    have y4 := b2.cell
    have z4 := b2.frozen
    have hlt := b2.lt
    clear hb r1 b2 r0 b0
    have hmo : Try.prog.follows .mixedOrders = true := by kernel_rfl
    go_wp2_with fail
    go_region
    all_goals
      go_wp2_with fail
      obtain ⟨k1, k2, k3⟩ := HO.out
      have k4 := below_drew (k3 _ _ HB2.out (by omega) (by omega))
      have k5 : Z4 (((((w2.setCell ⟨w.heap.size + 2, 0, none⟩ (.string ⟨#[]⟩)).setCell ⟨w.heap.size + 2, 1, none⟩ (.string ⟨#[]⟩)).setCell ⟨w.heap.size + 2, 2, none⟩ (.bool false)).setCell ⟨w.heap.size + 2, 3, none⟩ (.int .i64 0)).setCell ⟨w.heap.size + 3, 0, none⟩ (.int .i64 (m : Int))).drew (w.heap.size + 2) (⟨#[]⟩, ⟨#[]⟩, false, 0) := k1
      have k6 : Boxed (((((w2.setCell ⟨w.heap.size + 2, 0, none⟩ (.string ⟨#[]⟩)).setCell ⟨w.heap.size + 2, 1, none⟩ (.string ⟨#[]⟩)).setCell ⟨w.heap.size + 2, 2, none⟩ (.bool false)).setCell ⟨w.heap.size + 2, 3, none⟩ (.int .i64 0)).setCell ⟨w.heap.size + 3, 0, none⟩ (.int .i64 (m : Int))).drew (w.heap.size + 3) 26 (.int .i64 (m : Int)) := k2
      clear k1 k2 k3
      have c0 := k5.c0
      have c1 := k5.c1
      have c2 := k5.c2
      have c3 := k5.c3
      have c4 := k6.cell
      simp only at c0 c1 c2 c3 c4
      clear k5 k6
      refine bodyPost_ret (v := .tuple #[.agg #[.string ⟨#[]⟩, .string ⟨#[]⟩, .bool false, .int .i64 0], .agg #[.int .i64 (m : Int)], .int .i64 12]) (by simp [results, Try.f20, go_sem, c0, c1, c2, c3, c4]) rfl ?_
      exact ⟨by rw [HL.out]; rfl, k4⟩
  have hlt' : m < xs.length := by omega
  have HL := Lib.hid (goE_next hr hlt')
  have t1 : ((m : Int) == (xs.length : Int)) = false := by rw [beq_eq_false_iff_ne]; omega
  have hix : m < xs.length := hlt'
  clear hlt'
  obtain ⟨⟨xk, xv, xd, xq⟩, hxi⟩ : ∃ y, xs[m] = y := ⟨_, rfl⟩
  rw [entR_eq hix, hxi] at HL
  have HCL : Hid (∀ w2, Below w.heap.size w w2 → ∃ b off, B = some ⟨b, off, none⟩ ∧ b < w2.heap.size ∧ w2.cell? ⟨b, off + m * 4, none⟩ = some (.string xk) ∧ w2.cell? ⟨b, off + m * 4 + 1, none⟩ = some (.string xv) ∧ w2.cell? ⟨b, off + m * 4 + 2, none⟩ = some (.bool xd) ∧ w2.cell? ⟨b, off + m * 4 + 3, none⟩ = some (.int .i64 xq) ∧ b < w.heap.size) := Lib.hid (fun w2 h => by
    rcases hf.below h (Nat.le_refl _) with h0 | ⟨b, off, e, hl, hc⟩
    · rw [h0] at hix; simp at hix
    · have := hc m hix; rw [hxi] at this
      refine ⟨b, off, e, hl, this.1, this.2.1, this.2.2.1, this.2.2.2, ?_⟩
      rcases hf with h0 | ⟨b', off', e', hl', _⟩
      · rw [h0] at hix; simp at hix
      · rw [e] at e'; injection e' with e'; injection e' with e1 _ _; omega)
  clear hf hs h1 hr hxi
  generalize goE id xs (m : Int) false (fun _ => true) = res at *
  obtain ⟨n, hnn⟩ : ∃ n, xs.length = n := ⟨_, rfl⟩
  rw [hnn] at J hw1 HR0 hn x1 hm h5 hix t1 ⊢
  clear hnn
  go_enter Try.func20, Try.ntmps20
  go_wp2_with fail
  refine (J.out _ HB.out).mono ?_
  rintro e w2 ⟨rfl, hb⟩
  have r0 := HR0.out.below hb (Nat.le_refl _)
  have b0 := box_below HK0.out hb (Nat.le_refl _)
  have r1 : Z4 _ _ _ := Row4.below HR1.out hb (Nat.le_refl _)
  have b2 := box_below HK2.out hb (Nat.le_refl _)
  have HO := Lib.hid (out2 r1 b2 (by omega) (.string xk) (.string xv) (.bool xd) (.int .i64 xq) (.int .i64 ((m : Int) + 1)))
  have HB2 := Lib.hid (eb_of HB.out hb (by first | exact Nat.le_refl _ | exact HB.out.size))
  clear x0 x1 x2
  have x0 := r0.c0
  have x1 := r0.c1
  have x2 := b0.cell
  have y0 := r1.c0
  have y1 := r1.c1
  have y2 := r1.c2
  have y3 := r1.c3
  have z0 := r1.fz 0
  have z1 := r1.fz 1
  have z2 := r1.fz 2
  have z3 := r1.fz 3
  have y4 := b2.cell
  have z4 := b2.frozen
  have hlt := b2.lt
  clear hb r1 b2 r0 b0
  obtain ⟨b, off, rfl, hbl, g0, g1, g2, g3, hbw⟩ := HCL.out _ HB2.out
  have ne1 : ¬ (b = w.heap.size + 1 + 1) := by omega
  have ne2 : ¬ (w.heap.size + 1 + 1 = b) := by omega
  have ne3 : ¬ (b = w.heap.size + 1 + 1 + 1) := by omega
  have ne4 : ¬ (w.heap.size + 1 + 1 + 1 = b) := by omega
  have ne5 : ¬ (b = w.heap.size + 2) := by omega
  have ne6 : ¬ (w.heap.size + 2 = b) := by omega
  have ne7 : ¬ (b = w.heap.size + 3) := by omega
  have ne8 : ¬ (w.heap.size + 3 = b) := by omega
  have hmo : Try.prog.follows .mixedOrders = true := by kernel_rfl
  go_wp2_with fail
  go_region
  all_goals
    go_wp2_with fail
    obtain ⟨k1, k2, k3⟩ := HO.out
    have k4 := below_drew (k3 _ _ HB2.out (by omega) (by omega))
    have k5 : Z4 (((((w2.setCell ⟨w.heap.size + 2, 0, none⟩ (.string xk)).setCell ⟨w.heap.size + 2, 1, none⟩ (.string xv)).setCell ⟨w.heap.size + 2, 2, none⟩ (.bool xd)).setCell ⟨w.heap.size + 2, 3, none⟩ (.int .i64 xq)).setCell ⟨w.heap.size + 3, 0, none⟩ (.int .i64 ((m : Int) + 1))).drew (w.heap.size + 2) (xk, xv, xd, xq) := k1
    have k6 : Boxed (((((w2.setCell ⟨w.heap.size + 2, 0, none⟩ (.string xk)).setCell ⟨w.heap.size + 2, 1, none⟩ (.string xv)).setCell ⟨w.heap.size + 2, 2, none⟩ (.bool xd)).setCell ⟨w.heap.size + 2, 3, none⟩ (.int .i64 xq)).setCell ⟨w.heap.size + 3, 0, none⟩ (.int .i64 ((m : Int) + 1))).drew (w.heap.size + 3) 26 (.int .i64 ((m : Int) + 1)) := k2
    clear k1 k2 k3
    have c0 := k5.c0
    have c1 := k5.c1
    have c2 := k5.c2
    have c3 := k5.c3
    have c4 := k6.cell
    simp only at c0 c1 c2 c3 c4
    clear k5 k6
    refine bodyPost_ret (v := .tuple #[.agg #[.string xk, .string xv, .bool xd, .int .i64 xq], .agg #[.int .i64 ((m : Int) + 1)], .int .i64 0]) (by simp [results, Try.f20, go_sem, c0, c1, c2, c3, c4]) rfl ?_
    exact ⟨by rw [HL.out]; rfl, k4⟩
set_option maxRecDepth 100000 in
set_option maxHeartbeats 4000000 in
theorem rPrev9_any (id : Int) (B : Option Addr) (d : Nat) (xs : List El.En) (k : Int) (w : World) (hf : EsAt w B xs) (hn : xs.length ≤ 4294967295) (hs : Sized xs) :
    Calls Try.prog 22 #[.agg #[.int .i64 id, .slice B xs.length d], .agg #[.int .i64 k]] w (GoOut id xs k true (fun _ => true) w) := by
  obtain ⟨w1, hw1, r0, b0, r1, b2, hsz, hb⟩ := boxNx id B xs.length d k w
  have J := Lib.hid (fun w2 (h : Below w.heap.size w w2) => rCur_any id B d xs k w2 (hf.below h (Nat.le_refl _)) hn hs)
  have HB := Lib.hid hb
  have HR0 := Lib.hid r0
  have HK0 := Lib.hid b0
  have HR1 := Lib.hid r1
  have HK2 := Lib.hid b2
  have x0 := r0.c0
  have x1 := r0.c1
  have x2 := b0.cell
  clear r0 b0 r1 b2 hb hsz
  unfold GoOut
  by_cases h1 : curE id xs k = 0
  rotate_left
  · obtain ⟨n1, n2⟩ := ne_b h1
    have HL := Lib.hid (goE_no (back := true) (q := fun _ => true) h1)
    clear hf hs h1
    generalize goE id xs k true (fun _ => true) = res at *
    generalize curE id xs k = r2 at *
    generalize xs.length = n at *
    go_enter Try.func22, Try.ntmps22
    go_wp2_with fail
    refine (J.out _ HB.out).mono ?_
    rintro e w2 ⟨rfl, hb⟩
    have r0 := HR0.out.below hb (Nat.le_refl _)
    have b0 := box_below HK0.out hb (Nat.le_refl _)
    have r1 : Z4 _ _ _ := Row4.below HR1.out hb (Nat.le_refl _)
    have b2 := box_below HK2.out hb (Nat.le_refl _)
    have HO := Lib.hid (out2 r1 b2 (by omega) (.string ⟨#[]⟩) (.string ⟨#[]⟩) (.bool false) (.int .i64 0) (.int .i64 0))
    have HB2 := Lib.hid (eb_of HB.out hb (by first | exact Nat.le_refl _ | exact HB.out.size))
    clear x0 x1 x2
    have x0 := r0.c0
    have x1 := r0.c1
    have x2 := b0.cell
    have y0 := r1.c0
    have y1 := r1.c1
    have y2 := r1.c2
    have y3 := r1.c3
    have z0 := r1.fz 0
    have z1 := r1.fz 1
    have z2 := r1.fz 2
    have z3 := r1.fz 3
    have y4 := b2.cell
    have z4 := b2.frozen
    have hlt := b2.lt
    clear hb r1 b2 r0 b0
    have hmo : Try.prog.follows .mixedOrders = true := by kernel_rfl
    go_wp2_with fail
    obtain ⟨k1, k2, k3⟩ := HO.out
    have c0 := k1.c0
    have c1 := k1.c1
    have c2 := k1.c2
    have c3 := k1.c3
    have c4 := k2.cell
    refine bodyPost_ret (v := .tuple #[.agg #[.string ⟨#[]⟩, .string ⟨#[]⟩, .bool false, .int .i64 0], .agg #[.int .i64 0], .int .i64 r2]) (by simp [results, Try.f22, go_sem, c0, c1, c2, c3, c4]) rfl ?_
    exact ⟨by rw [HL.out]; rfl, by first | exact k3 _ _ HB2.out (by omega) (by omega) | exact below_drew (k3 _ _ HB2.out (by omega) (by omega))⟩
  obtain ⟨hr, m, rfl, hm⟩ := curE_zero h1
  rw [h1] at J
  have h5 : xs.length ≤ 5000 := (list_ok (run_list hr)).1
  by_cases hmn : m = 0
  · have HL : Hid (goE id xs (m : Int) true (fun _ => true) = (El.none, (m : Int), 12)) := Lib.hid (by rw [hmn]; exact goE_pend hr)
    have t1 : ((m : Int) == 0) = true := by rw [beq_iff_eq]; omega
    clear hf hs h1 hr hmn
    generalize goE id xs (m : Int) true (fun _ => true) = res at *
    generalize xs.length = n at *
    go_enter Try.func22, Try.ntmps22
    go_wp2_with fail
    refine (J.out _ HB.out).mono ?_
    rintro e w2 ⟨rfl, hb⟩
    have r0 := HR0.out.below hb (Nat.le_refl _)
    have b0 := box_below HK0.out hb (Nat.le_refl _)
    have r1 : Z4 _ _ _ := Row4.below HR1.out hb (Nat.le_refl _)
    have b2 := box_below HK2.out hb (Nat.le_refl _)
    have HO := Lib.hid (out2 r1 b2 (by omega) (.string ⟨#[]⟩) (.string ⟨#[]⟩) (.bool false) (.int .i64 0) (.int .i64 (m : Int)))
    have HB2 := Lib.hid (eb_of HB.out hb (by first | exact Nat.le_refl _ | exact HB.out.size))
    clear x0 x1 x2
    have x0 := r0.c0
    have x1 := r0.c1
    have x2 := b0.cell
    have y0 := r1.c0
    have y1 := r1.c1
    have y2 := r1.c2
    have y3 := r1.c3
    have z0 := r1.fz 0
    have z1 := r1.fz 1
    have z2 := r1.fz 2
    have z3 := r1.fz 3
    have y4 := b2.cell
    have z4 := b2.frozen
    have hlt := b2.lt
    clear hb r1 b2 r0 b0
    have hmo : Try.prog.follows .mixedOrders = true := by kernel_rfl
    go_wp2_with fail
    go_region
    all_goals
      go_wp2_with fail
      obtain ⟨k1, k2, k3⟩ := HO.out
      have k4 := below_drew (k3 _ _ HB2.out (by omega) (by omega))
      have k5 : Z4 (((((w2.setCell ⟨w.heap.size + 2, 0, none⟩ (.string ⟨#[]⟩)).setCell ⟨w.heap.size + 2, 1, none⟩ (.string ⟨#[]⟩)).setCell ⟨w.heap.size + 2, 2, none⟩ (.bool false)).setCell ⟨w.heap.size + 2, 3, none⟩ (.int .i64 0)).setCell ⟨w.heap.size + 3, 0, none⟩ (.int .i64 (m : Int))).drew (w.heap.size + 2) (⟨#[]⟩, ⟨#[]⟩, false, 0) := k1
      have k6 : Boxed (((((w2.setCell ⟨w.heap.size + 2, 0, none⟩ (.string ⟨#[]⟩)).setCell ⟨w.heap.size + 2, 1, none⟩ (.string ⟨#[]⟩)).setCell ⟨w.heap.size + 2, 2, none⟩ (.bool false)).setCell ⟨w.heap.size + 2, 3, none⟩ (.int .i64 0)).setCell ⟨w.heap.size + 3, 0, none⟩ (.int .i64 (m : Int))).drew (w.heap.size + 3) 26 (.int .i64 (m : Int)) := k2
      clear k1 k2 k3
      have c0 := k5.c0
      have c1 := k5.c1
      have c2 := k5.c2
      have c3 := k5.c3
      have c4 := k6.cell
      simp only at c0 c1 c2 c3 c4
      clear k5 k6
      refine bodyPost_ret (v := .tuple #[.agg #[.string ⟨#[]⟩, .string ⟨#[]⟩, .bool false, .int .i64 0], .agg #[.int .i64 (m : Int)], .int .i64 12]) (by simp [results, Try.f22, go_sem, c0, c1, c2, c3, c4]) rfl ?_
      exact ⟨by rw [HL.out]; rfl, k4⟩
  obtain ⟨j, hj⟩ : ∃ j, j + 1 = m := ⟨m - 1, by omega⟩
  have HL : Hid (goE id xs (m : Int) true (fun _ => true) = (entR xs j, (j : Int), 0)) := Lib.hid (by rw [← hj]; exact goE_prev hr (show j < xs.length by omega))
  have t1 : ((m : Int) == 0) = false := by rw [beq_eq_false_iff_ne]; omega
  have t2 : (m : Int) - 1 = (j : Int) := by omega
  have hix : j < xs.length := by omega
  have HJ := Lib.hid hj
  clear hj hmn
  obtain ⟨⟨xk, xv, xd, xq⟩, hxi⟩ : ∃ y, xs[j] = y := ⟨_, rfl⟩
  rw [entR_eq hix, hxi] at HL
  have HCL : Hid (∀ w2, Below w.heap.size w w2 → ∃ b off, B = some ⟨b, off, none⟩ ∧ b < w2.heap.size ∧ w2.cell? ⟨b, off + j * 4, none⟩ = some (.string xk) ∧ w2.cell? ⟨b, off + j * 4 + 1, none⟩ = some (.string xv) ∧ w2.cell? ⟨b, off + j * 4 + 2, none⟩ = some (.bool xd) ∧ w2.cell? ⟨b, off + j * 4 + 3, none⟩ = some (.int .i64 xq) ∧ b < w.heap.size) := Lib.hid (fun w2 h => by
    rcases hf.below h (Nat.le_refl _) with h0 | ⟨b, off, e, hl, hc⟩
    · rw [h0] at hix; simp at hix
    · have := hc j hix; rw [hxi] at this
      refine ⟨b, off, e, hl, this.1, this.2.1, this.2.2.1, this.2.2.2, ?_⟩
      rcases hf with h0 | ⟨b', off', e', hl', _⟩
      · rw [h0] at hix; simp at hix
      · rw [e] at e'; injection e' with e'; injection e' with e1 _ _; omega)
  clear hf hs h1 hr hxi
  generalize goE id xs (m : Int) true (fun _ => true) = res at *
  obtain ⟨n, hnn⟩ : ∃ n, xs.length = n := ⟨_, rfl⟩
  rw [hnn] at J hw1 HR0 hn x1 hm h5 hix ⊢
  clear hnn
  go_enter Try.func22, Try.ntmps22
  go_wp2_with fail
  refine (J.out _ HB.out).mono ?_
  rintro e w2 ⟨rfl, hb⟩
  have r0 := HR0.out.below hb (Nat.le_refl _)
  have b0 := box_below HK0.out hb (Nat.le_refl _)
  have r1 : Z4 _ _ _ := Row4.below HR1.out hb (Nat.le_refl _)
  have b2 := box_below HK2.out hb (Nat.le_refl _)
  have HO := Lib.hid (out2 r1 b2 (by omega) (.string xk) (.string xv) (.bool xd) (.int .i64 xq) (.int .i64 (j : Int)))
  have HB2 := Lib.hid (eb_of HB.out hb (by first | exact Nat.le_refl _ | exact HB.out.size))
  clear x0 x1 x2
  have x0 := r0.c0
  have x1 := r0.c1
  have x2 := b0.cell
  have y0 := r1.c0
  have y1 := r1.c1
  have y2 := r1.c2
  have y3 := r1.c3
  have z0 := r1.fz 0
  have z1 := r1.fz 1
  have z2 := r1.fz 2
  have z3 := r1.fz 3
  have y4 := b2.cell
  have z4 := b2.frozen
  have hlt := b2.lt
  clear hb r1 b2 r0 b0
  obtain ⟨b, off, rfl, hbl, g0, g1, g2, g3, hbw⟩ := HCL.out _ HB2.out
  have ne1 : ¬ (b = w.heap.size + 1 + 1) := by omega
  have ne2 : ¬ (w.heap.size + 1 + 1 = b) := by omega
  have ne3 : ¬ (b = w.heap.size + 1 + 1 + 1) := by omega
  have ne4 : ¬ (w.heap.size + 1 + 1 + 1 = b) := by omega
  have ne5 : ¬ (b = w.heap.size + 2) := by omega
  have ne6 : ¬ (w.heap.size + 2 = b) := by omega
  have ne7 : ¬ (b = w.heap.size + 3) := by omega
  have ne8 : ¬ (w.heap.size + 3 = b) := by omega
  have hmo : Try.prog.follows .mixedOrders = true := by kernel_rfl
  go_wp2_with fail
  go_region
  all_goals
    go_wp2_with fail
    obtain ⟨k1, k2, k3⟩ := HO.out
    have k4 := below_drew (k3 _ _ HB2.out (by omega) (by omega))
    have k5 : Z4 (((((w2.setCell ⟨w.heap.size + 2, 0, none⟩ (.string xk)).setCell ⟨w.heap.size + 2, 1, none⟩ (.string xv)).setCell ⟨w.heap.size + 2, 2, none⟩ (.bool xd)).setCell ⟨w.heap.size + 2, 3, none⟩ (.int .i64 xq)).setCell ⟨w.heap.size + 3, 0, none⟩ (.int .i64 (j : Int))).drew (w.heap.size + 2) (xk, xv, xd, xq) := k1
    have k6 : Boxed (((((w2.setCell ⟨w.heap.size + 2, 0, none⟩ (.string xk)).setCell ⟨w.heap.size + 2, 1, none⟩ (.string xv)).setCell ⟨w.heap.size + 2, 2, none⟩ (.bool xd)).setCell ⟨w.heap.size + 2, 3, none⟩ (.int .i64 xq)).setCell ⟨w.heap.size + 3, 0, none⟩ (.int .i64 (j : Int))).drew (w.heap.size + 3) 26 (.int .i64 (j : Int)) := k2
    clear k1 k2 k3
    have c0 := k5.c0
    have c1 := k5.c1
    have c2 := k5.c2
    have c3 := k5.c3
    have c4 := k6.cell
    simp only at c0 c1 c2 c3 c4
    clear k5 k6
    refine bodyPost_ret (v := .tuple #[.agg #[.string xk, .string xv, .bool xd, .int .i64 xq], .agg #[.int .i64 (j : Int)], .int .i64 0]) (by simp [results, Try.f22, go_sem, c0, c1, c2, c3, c4]) rfl ?_
    exact ⟨by rw [HL.out]; rfl, k4⟩
end Go.Proofs.Yticdechdgpfdfaa.KK
