/-
  WalkSteps: the walk.
-/
import Derived.Test.YticdechdgpfdfaaTl
namespace Go.Proofs.Yticdechdgpfdfaa.KK
open Go.ChangeShapes Go.WideShapes Go.ChangeAt Go.RowKit Go.Proofs Go.Sort

theorem off1 {W : World} {B g o : Nat} {t : TypeId} {v : Value} (h : Boxed W B t v) (hne : B ≠ g) (u : Value) : Boxed (W.setCell ⟨g, o, none⟩ u) B t v := (Below.heap_setCell _ _ _ _ (by simpa using hne)).trans h
theorem off2 {W : World} {B g o : Nat} {t : TypeId} {v0 v1 : Value} (h : Row2 W B t v0 v1) (hne : B ≠ g) (u : Value) : Row2 (W.setCell ⟨g, o, none⟩ u) B t v0 v1 := (Below.heap_setCell _ _ _ _ (by simpa using hne)).trans h
theorem off3 {W : World} {B g o : Nat} {t : TypeId} {v0 v1 v2 : Value} (h : Row3 W B t v0 v1 v2) (hne : B ≠ g) (u : Value) : Row3 (W.setCell ⟨g, o, none⟩ u) B t v0 v1 v2 := (Below.heap_setCell _ _ _ _ (by simpa using hne)).trans h
theorem off4 {W : World} {B g o : Nat} {t : TypeId} {v0 v1 v2 v3 : Value} (h : Row4 W B t v0 v1 v2 v3) (hne : B ≠ g) (u : Value) : Row4 (W.setCell ⟨g, o, none⟩ u) B t v0 v1 v2 v3 := (Below.heap_setCell _ _ _ _ (by simpa using hne)).trans h
set_option maxRecDepth 100000 in
set_option maxHeartbeats 16000000 in
theorem Steps9_any (id : Int) (A : Option Addr) (c : Nat) (xs : List El.En) (k : Int) (w : World) (hf : EsAt w A xs) (hn : xs.length ≤ 9223372036854775807) (hs : Sized xs) :
    Calls Try.prog 3 #[.agg #[.int .i64 id, .slice A xs.length c], .agg #[.int .i64 k]] w fun e w' => e = .returned (.bool true) ∧ Below w.heap.size w w' := by
  have JF := Lib.hid (fun w1 (h : Below w.heap.size w w1) => far8_any id A c xs w1 (hf.below h (Nat.le_refl _)) hn hs)
  have JW := Lib.hid (fun w => awake9_any w)
  obtain ⟨w0, hw0, r0, b0, hsz, hb⟩ := boxUC id A xs.length c k w
  have HB := Lib.hid hb
  have RU := Lib.hid r0
  have RK := Lib.hid b0
  have DUK : Hid (w.heap.size < w.heap.size + 1) := Lib.hid (by omega)
  have x0 := r0.c0
  have x1 := r0.c1
  have x2 := b0.cell
  clear r0 b0 hsz hb
  cases hfar : farF xs with
  | true =>
    rw [hfar] at JF
    clear hfar hf hs
    generalize xs.length = n at *
    go_enter Try.func3, Try.ntmps3
    go_wp2_with fail
    clear x0 x1 x2
    refine (JF.out _ HB.out).mono ?_
    rintro e w1 ⟨rfl, hb⟩
    have HB1 := Lib.hid (eb_of HB.out hb (by first | exact Nat.le_refl _ | exact HB.out.size))
    have RU_1 := Lib.hid (Row2.below RU.out hb (Nat.le_refl _))
    have RK_1 := Lib.hid (box_below RK.out hb (Nat.le_refl _))
    clear RU RK
    clear hb
    have cU0 := RU_1.out.c0
    have cU1 := RU_1.out.c1
    have cK := RK_1.out.cell
    have fK := RK_1.out.frozen
    go_wp2_with fail
    clear cU0 cU1 cK fK
    refine (JW.out _).mono ?_
    rintro e w2 ⟨rfl, hb⟩
    have HB2 := Lib.hid (eb_of HB1.out hb (by first | exact Nat.le_refl _ | exact HB1.out.size))
    have RU_2 := Lib.hid (Row2.below RU_1.out hb (Nat.le_refl _))
    have RK_2 := Lib.hid (box_below RK_1.out hb (Nat.le_refl _))
    clear HB1 RU_1 RK_1
    clear hb
    go_wp2_with fail
    go_ret
    exact ⟨by first | rfl | (simp; done), HB2.out⟩
  | false =>
    have hl5 := far_len hfar
    have hn5 : xs.length ≤ 4294967295 := by omega
    rw [hfar] at JF
    have J1 := Lib.hid (fun w1 (h : Below w.heap.size w w1) => pFirst9_any id A c xs w1 (hf.below h (Nat.le_refl _)) hn5 hs)
    have J2 := Lib.hid (fun w1 (h : Below w.heap.size w w1) => rFirst9_any id A c xs w1 (hf.below h (Nat.le_refl _)) hn5 hs)
    have J3 := Lib.hid (fun w1 (h : Below w.heap.size w w1) => pLast9_any id A c xs w1 (hf.below h (Nat.le_refl _)) hn5 hs)
    have J4 := Lib.hid (fun w1 (h : Below w.heap.size w w1) => rLast9_any id A c xs w1 (hf.below h (Nat.le_refl _)) hn5 hs)
    have J5 := Lib.hid (fun w1 (h : Below w.heap.size w w1) => pCur_any id A c xs k w1 (hf.below h (Nat.le_refl _)) hn5 hs)
    have J6 := Lib.hid (fun w1 (h : Below w.heap.size w w1) => rCur_any id A c xs k w1 (hf.below h (Nat.le_refl _)) hn5 hs)
    have J7 := Lib.hid (fun w1 (h : Below w.heap.size w w1) => pNext9_any id A c xs k w1 (hf.below h (Nat.le_refl _)) hn5 hs)
    have J8 := Lib.hid (fun w1 (h : Below w.heap.size w w1) => rNext9_any id A c xs k w1 (hf.below h (Nat.le_refl _)) hn5 hs)
    have J9 := Lib.hid (fun w1 (h : Below w.heap.size w w1) => pPrev9_any id A c xs k w1 (hf.below h (Nat.le_refl _)) hn5 hs)
    have JA := Lib.hid (fun w1 (h : Below w.heap.size w w1) => rPrev9_any id A c xs k w1 (hf.below h (Nat.le_refl _)) hn5 hs)
    unfold firstW at J1 J2
    unfold GoOut at J7 J8 J9 JA
    clear hfar hf hs hl5 hn5
    generalize lastW id xs = l0 at *
    generalize (runE id xs).2 = e0 at *
    generalize curE id xs k = c0 at *
    generalize goE id xs k false (fun _ => true) = g1 at *
    generalize goE id xs k true (fun _ => true) = g2 at *
    obtain ⟨⟨xk, xv, xd, xq⟩, p1, e1⟩ := g1
    obtain ⟨⟨yk, yv, yd, yq⟩, p2, e2⟩ := g2
    simp only [entV] at J7 J8 J9 JA
    generalize xs.length = n at *
    go_enter Try.func3, Try.ntmps3
    go_wp2_with fail
    clear x0 x1 x2
    refine (JF.out _ HB.out).mono ?_
    rintro e w1 ⟨rfl, hb⟩
    have HB1 := Lib.hid (eb_of HB.out hb (by first | exact Nat.le_refl _ | exact HB.out.size))
    have RU_1 := Lib.hid (Row2.below RU.out hb (Nat.le_refl _))
    have RK_1 := Lib.hid (box_below RK.out hb (Nat.le_refl _))
    clear RU RK
    clear hb
    have cU0 := RU_1.out.c0
    have cU1 := RU_1.out.c1
    have cK := RK_1.out.cell
    have fK := RK_1.out.frozen
    go_wp2_with fail
    clear cU0 cU1 cK fK
    refine (J1.out _ HB1.out).mono ?_
    rintro e w2 ⟨rfl, hb⟩
    have HB2 := Lib.hid (eb_of HB1.out hb (by first | exact Nat.le_refl _ | exact HB1.out.size))
    have RU_2 := Lib.hid (Row2.below RU_1.out hb (Nat.le_refl _))
    have RK_2 := Lib.hid (box_below RK_1.out hb (Nat.le_refl _))
    clear HB1 RU_1 RK_1
    clear hb
    have LA : Hid (w.heap.size + 1 ≤ w2.heap.size) := Lib.hid (by have := RU_2.out.lt; (try simp only [World.size_alloc] at this); omega)
    have DUA : Hid (w.heap.size < w2.heap.size) := Lib.hid (by have := RU_2.out.lt; (try simp only [World.size_alloc] at this); omega)
    have DKA : Hid ((w.heap.size + 1) < w2.heap.size) := Lib.hid (by have := RK_2.out.lt; (try simp only [World.size_alloc] at this); omega)
    have hb := alloc_below w2 (.cells #[.int .i64 0] 26)
    have HB3 := Lib.hid (eb_of HB2.out hb (by first | exact Nat.le_refl _ | exact HB2.out.size))
    have RU_3 := Lib.hid (Row2.below RU_2.out hb (Nat.le_refl _))
    have RK_3 := Lib.hid (box_below RK_2.out hb (Nat.le_refl _))
    clear HB2 RU_2 RK_2
    clear hb
    have RA_3 : Hid (Boxed (w2.alloc (.cells #[.int .i64 0] 26)) (w2.heap.size) 26 (.int .i64 0)) := Lib.hid (heap_alloc_new _ _)
    have cU0 := RU_3.out.c0
    have cU1 := RU_3.out.c1
    have cK := RK_3.out.cell
    have fK := RK_3.out.frozen
    go_wp2_with fail
    clear cU0 cU1 cK fK
    refine (J2.out _ HB3.out).mono ?_
    rintro e w4 ⟨rfl, hb⟩
    have HB4 := Lib.hid (eb_of HB3.out hb (by first | exact Nat.le_refl _ | exact HB3.out.size))
    have RU_4 := Lib.hid (Row2.below RU_3.out hb (Nat.le_refl _))
    have RK_4 := Lib.hid (box_below RK_3.out hb (Nat.le_refl _))
    have RA_4 := Lib.hid (box_below RA_3.out hb (Nat.le_refl _))
    clear HB3 RU_3 RK_3 RA_3
    clear hb
    have LB : Hid (w.heap.size + 1 ≤ w4.heap.size) := Lib.hid (by have := RU_4.out.lt; (try simp only [World.size_alloc] at this); omega)
    have DUB : Hid (w.heap.size < w4.heap.size) := Lib.hid (by have := RU_4.out.lt; (try simp only [World.size_alloc] at this); omega)
    have DKB : Hid ((w.heap.size + 1) < w4.heap.size) := Lib.hid (by have := RK_4.out.lt; (try simp only [World.size_alloc] at this); omega)
    have DAB : Hid (w2.heap.size < w4.heap.size) := Lib.hid (by have := RA_4.out.lt; (try simp only [World.size_alloc] at this); omega)
    have hb := alloc_below w4 (.cells #[.int .i64 0] 26)
    have HB5 := Lib.hid (eb_of HB4.out hb (by first | exact Nat.le_refl _ | exact HB4.out.size))
    have RU_5 := Lib.hid (Row2.below RU_4.out hb (Nat.le_refl _))
    have RK_5 := Lib.hid (box_below RK_4.out hb (Nat.le_refl _))
    have RA_5 := Lib.hid (box_below RA_4.out hb (Nat.le_refl _))
    clear HB4 RU_4 RK_4 RA_4
    clear hb
    have RB_5 : Hid (Boxed (w4.alloc (.cells #[.int .i64 0] 26)) (w4.heap.size) 26 (.int .i64 0)) := Lib.hid (heap_alloc_new _ _)
    have cU0 := RU_5.out.c0
    have cU1 := RU_5.out.c1
    have cK := RK_5.out.cell
    have fK := RK_5.out.frozen
    go_wp2_with fail
    clear cU0 cU1 cK fK
    refine (J3.out _ HB5.out).mono ?_
    rintro e w6 ⟨rfl, hb⟩
    have HB6 := Lib.hid (eb_of HB5.out hb (by first | exact Nat.le_refl _ | exact HB5.out.size))
    have RU_6 := Lib.hid (Row2.below RU_5.out hb (Nat.le_refl _))
    have RK_6 := Lib.hid (box_below RK_5.out hb (Nat.le_refl _))
    have RA_6 := Lib.hid (box_below RA_5.out hb (Nat.le_refl _))
    have RB_6 := Lib.hid (box_below RB_5.out hb (Nat.le_refl _))
    clear HB5 RU_5 RK_5 RA_5 RB_5
    clear hb
    have LC : Hid (w.heap.size + 1 ≤ w6.heap.size) := Lib.hid (by have := RU_6.out.lt; (try simp only [World.size_alloc] at this); omega)
    have DUC : Hid (w.heap.size < w6.heap.size) := Lib.hid (by have := RU_6.out.lt; (try simp only [World.size_alloc] at this); omega)
    have DKC : Hid ((w.heap.size + 1) < w6.heap.size) := Lib.hid (by have := RK_6.out.lt; (try simp only [World.size_alloc] at this); omega)
    have DAC : Hid (w2.heap.size < w6.heap.size) := Lib.hid (by have := RA_6.out.lt; (try simp only [World.size_alloc] at this); omega)
    have DBC : Hid (w4.heap.size < w6.heap.size) := Lib.hid (by have := RB_6.out.lt; (try simp only [World.size_alloc] at this); omega)
    have hb := alloc_below w6 (.cells #[.int .i64 l0] 26)
    have HB7 := Lib.hid (eb_of HB6.out hb (by first | exact Nat.le_refl _ | exact HB6.out.size))
    have RU_7 := Lib.hid (Row2.below RU_6.out hb (Nat.le_refl _))
    have RK_7 := Lib.hid (box_below RK_6.out hb (Nat.le_refl _))
    have RA_7 := Lib.hid (box_below RA_6.out hb (Nat.le_refl _))
    have RB_7 := Lib.hid (box_below RB_6.out hb (Nat.le_refl _))
    clear HB6 RU_6 RK_6 RA_6 RB_6
    clear hb
    have RC_7 : Hid (Boxed (w6.alloc (.cells #[.int .i64 l0] 26)) (w6.heap.size) 26 (.int .i64 l0)) := Lib.hid (heap_alloc_new _ _)
    have cU0 := RU_7.out.c0
    have cU1 := RU_7.out.c1
    have cK := RK_7.out.cell
    have fK := RK_7.out.frozen
    go_wp2_with fail
    clear cU0 cU1 cK fK
    refine (J4.out _ HB7.out).mono ?_
    rintro e w8 ⟨rfl, hb⟩
    have HB8 := Lib.hid (eb_of HB7.out hb (by first | exact Nat.le_refl _ | exact HB7.out.size))
    have RU_8 := Lib.hid (Row2.below RU_7.out hb (Nat.le_refl _))
    have RK_8 := Lib.hid (box_below RK_7.out hb (Nat.le_refl _))
    have RA_8 := Lib.hid (box_below RA_7.out hb (Nat.le_refl _))
    have RB_8 := Lib.hid (box_below RB_7.out hb (Nat.le_refl _))
    have RC_8 := Lib.hid (box_below RC_7.out hb (Nat.le_refl _))
    clear HB7 RU_7 RK_7 RA_7 RB_7 RC_7
    clear hb
    have LD : Hid (w.heap.size + 1 ≤ w8.heap.size) := Lib.hid (by have := RU_8.out.lt; (try simp only [World.size_alloc] at this); omega)
    have DUD : Hid (w.heap.size < w8.heap.size) := Lib.hid (by have := RU_8.out.lt; (try simp only [World.size_alloc] at this); omega)
    have DKD : Hid ((w.heap.size + 1) < w8.heap.size) := Lib.hid (by have := RK_8.out.lt; (try simp only [World.size_alloc] at this); omega)
    have DAD : Hid (w2.heap.size < w8.heap.size) := Lib.hid (by have := RA_8.out.lt; (try simp only [World.size_alloc] at this); omega)
    have DBD : Hid (w4.heap.size < w8.heap.size) := Lib.hid (by have := RB_8.out.lt; (try simp only [World.size_alloc] at this); omega)
    have DCD : Hid (w6.heap.size < w8.heap.size) := Lib.hid (by have := RC_8.out.lt; (try simp only [World.size_alloc] at this); omega)
    have hb := alloc_below w8 (.cells #[.int .i64 l0] 26)
    have HB9 := Lib.hid (eb_of HB8.out hb (by first | exact Nat.le_refl _ | exact HB8.out.size))
    have RU_9 := Lib.hid (Row2.below RU_8.out hb (Nat.le_refl _))
    have RK_9 := Lib.hid (box_below RK_8.out hb (Nat.le_refl _))
    have RA_9 := Lib.hid (box_below RA_8.out hb (Nat.le_refl _))
    have RB_9 := Lib.hid (box_below RB_8.out hb (Nat.le_refl _))
    have RC_9 := Lib.hid (box_below RC_8.out hb (Nat.le_refl _))
    clear HB8 RU_8 RK_8 RA_8 RB_8 RC_8
    clear hb
    have RD_9 : Hid (Boxed (w8.alloc (.cells #[.int .i64 l0] 26)) (w8.heap.size) 26 (.int .i64 l0)) := Lib.hid (heap_alloc_new _ _)
    go_wp2_with fail
    have J5q : Hid (∀ q : Abv (w8.alloc (.cells #[.int .i64 l0] 26)), Calls Try.prog 17 #[.agg #[.int .i64 id, .slice A n c], .agg #[.int .i64 k]] q.world fun e w' => e = .returned (.int .i64 c0) ∧ Below q.world.heap.size q.world w') := Lib.hid (fun q => J5.out _ (eb_of HB9.out q.h (Nat.le_refl _)))
    have J6q : Hid (∀ q : Abv (w8.alloc (.cells #[.int .i64 l0] 26)), Calls Try.prog 18 #[.agg #[.int .i64 id, .slice A n c], .agg #[.int .i64 k]] q.world fun e w' => e = .returned (.int .i64 c0) ∧ Below q.world.heap.size q.world w') := Lib.hid (fun q => J6.out _ (eb_of HB9.out q.h (Nat.le_refl _)))
    have cU0 := abv_c RU_9.out.c0
    have cU1 := abv_c RU_9.out.c1
    have cK := abv_c RK_9.out.cell
    have cA := abv_c RA_9.out.cell
    have cB := abv_c RB_9.out.cell
    have cC := abv_c RC_9.out.cell
    have cD := abv_c RD_9.out.cell
    refine wp_region_abv (by first | assumption | kernel_rfl) (by kernel_rfl) ?_
    repeat (first | go_big_quiet_step (first | exact callAbv (J5q.out _) | exact callAbv (J6q.out _)) | quiet_step (first | exact callAbv (J5q.out _) | exact callAbv (J6q.out _)))
    refine wpQuiet_nil ?_
    intro w9 hw9
    obtain ⟨p9, rfl⟩ := hw9
    clear cU0 cU1 cK cA cB cC cD
    have hb := p9.h
    have HB10 := Lib.hid (eb_of HB9.out hb (by first | exact Nat.le_refl _ | exact HB9.out.size))
    have RU_10 := Lib.hid (Row2.below RU_9.out hb (Nat.le_refl _))
    have RK_10 := Lib.hid (box_below RK_9.out hb (Nat.le_refl _))
    have RA_10 := Lib.hid (box_below RA_9.out hb (Nat.le_refl _))
    have RB_10 := Lib.hid (box_below RB_9.out hb (Nat.le_refl _))
    have RC_10 := Lib.hid (box_below RC_9.out hb (Nat.le_refl _))
    have RD_10 := Lib.hid (box_below RD_9.out hb (Nat.le_refl _))
    clear HB9 RU_9 RK_9 RA_9 RB_9 RC_9 RD_9
    clear hb
    clear J5q J6q
    have cU0 := RU_10.out.c0
    have cU1 := RU_10.out.c1
    have cK := RK_10.out.cell
    have fK := RK_10.out.frozen
    go_wp2_with fail
    clear cU0 cU1 cK fK
    refine (J7.out _ HB10.out).mono ?_
    rintro e w11 ⟨rfl, hb⟩
    have HB11 := Lib.hid (eb_of HB10.out hb (by first | exact Nat.le_refl _ | exact HB10.out.size))
    have RU_11 := Lib.hid (Row2.below RU_10.out hb (Nat.le_refl _))
    have RK_11 := Lib.hid (box_below RK_10.out hb (Nat.le_refl _))
    have RA_11 := Lib.hid (box_below RA_10.out hb (Nat.le_refl _))
    have RB_11 := Lib.hid (box_below RB_10.out hb (Nat.le_refl _))
    clear HB10 RU_10 RK_10 RA_10 RB_10
    clear hb
    have LX : Hid (w.heap.size + 1 ≤ w11.heap.size) := Lib.hid (by have := RU_11.out.lt; (try simp only [World.size_alloc] at this); omega)
    have DUX : Hid (w.heap.size < w11.heap.size) := Lib.hid (by have := RU_11.out.lt; (try simp only [World.size_alloc] at this); omega)
    have DKX : Hid ((w.heap.size + 1) < w11.heap.size) := Lib.hid (by have := RK_11.out.lt; (try simp only [World.size_alloc] at this); omega)
    have DAX : Hid (w2.heap.size < w11.heap.size) := Lib.hid (by have := RA_11.out.lt; (try simp only [World.size_alloc] at this); omega)
    have DBX : Hid (w4.heap.size < w11.heap.size) := Lib.hid (by have := RB_11.out.lt; (try simp only [World.size_alloc] at this); omega)
    have hb := alloc_below w11 (.cells #[.string xk, .string xv, .bool xd, .int .i64 xq] 34)
    have HB12 := Lib.hid (eb_of HB11.out hb (by first | exact Nat.le_refl _ | exact HB11.out.size))
    have RU_12 := Lib.hid (Row2.below RU_11.out hb (Nat.le_refl _))
    have RK_12 := Lib.hid (box_below RK_11.out hb (Nat.le_refl _))
    have RA_12 := Lib.hid (box_below RA_11.out hb (Nat.le_refl _))
    have RB_12 := Lib.hid (box_below RB_11.out hb (Nat.le_refl _))
    clear HB11 RU_11 RK_11 RA_11 RB_11
    clear hb
    have RX_12 : Hid (Row4 (w11.alloc (.cells #[.string xk, .string xv, .bool xd, .int .i64 xq] 34)) (w11.heap.size) 34 (.string xk) (.string xv) (.bool xd) (.int .i64 xq)) := Lib.hid (heap_alloc_new _ _)
    have cA := RA_12.out.cell
    have fA := RA_12.out.frozen
    have HB13 := Lib.hid (HB12.out.setCell (p := ⟨w2.heap.size, 0, none⟩) (by show w.heap.size ≤ w2.heap.size; have := LA.out; omega) (.int .i64 p1))
    have RU_13 := Lib.hid (off2 (g := w2.heap.size) (o := 0) RU_12.out (by have := DUA.out; omega) (.int .i64 p1))
    have RK_13 := Lib.hid (off1 (g := w2.heap.size) (o := 0) RK_12.out (by have := DKA.out; omega) (.int .i64 p1))
    have RA_13 := Lib.hid (Boxed.set (.int .i64 p1) RA_12.out)
    have RB_13 := Lib.hid (off1 (g := w2.heap.size) (o := 0) RB_12.out (by have := DAB.out; omega) (.int .i64 p1))
    have RX_13 := Lib.hid (off4 (g := w2.heap.size) (o := 0) RX_12.out (by have := DAX.out; omega) (.int .i64 p1))
    clear HB12 RU_12 RK_12 RA_12 RB_12 RX_12
    have cU0 := RU_13.out.c0
    have cU1 := RU_13.out.c1
    have cK := RK_13.out.cell
    have fK := RK_13.out.frozen
    go_wp2_with fail
    clear cA fA cU0 cU1 cK fK
    refine (J8.out _ HB13.out).mono ?_
    rintro e w14 ⟨rfl, hb⟩
    have HB14 := Lib.hid (eb_of HB13.out hb (by first | exact Nat.le_refl _ | exact HB13.out.size))
    have RU_14 := Lib.hid (Row2.below RU_13.out hb (Nat.le_refl _))
    have RK_14 := Lib.hid (box_below RK_13.out hb (Nat.le_refl _))
    have RA_14 := Lib.hid (box_below RA_13.out hb (Nat.le_refl _))
    have RB_14 := Lib.hid (box_below RB_13.out hb (Nat.le_refl _))
    have RX_14 := Lib.hid (Row4.below RX_13.out hb (Nat.le_refl _))
    clear HB13 RU_13 RK_13 RA_13 RB_13 RX_13
    clear hb
    have LY : Hid (w.heap.size + 1 ≤ w14.heap.size) := Lib.hid (by have := RU_14.out.lt; (try simp only [World.size_alloc] at this); omega)
    have DUY : Hid (w.heap.size < w14.heap.size) := Lib.hid (by have := RU_14.out.lt; (try simp only [World.size_alloc] at this); omega)
    have DKY : Hid ((w.heap.size + 1) < w14.heap.size) := Lib.hid (by have := RK_14.out.lt; (try simp only [World.size_alloc] at this); omega)
    have DAY : Hid (w2.heap.size < w14.heap.size) := Lib.hid (by have := RA_14.out.lt; (try simp only [World.size_alloc] at this); omega)
    have DBY : Hid (w4.heap.size < w14.heap.size) := Lib.hid (by have := RB_14.out.lt; (try simp only [World.size_alloc] at this); omega)
    have DXY : Hid (w11.heap.size < w14.heap.size) := Lib.hid (by have := RX_14.out.lt; (try simp only [World.size_alloc] at this); omega)
    have hb := alloc_below w14 (.cells #[.string xk, .string xv, .bool xd, .int .i64 xq] 34)
    have HB15 := Lib.hid (eb_of HB14.out hb (by first | exact Nat.le_refl _ | exact HB14.out.size))
    have RU_15 := Lib.hid (Row2.below RU_14.out hb (Nat.le_refl _))
    have RK_15 := Lib.hid (box_below RK_14.out hb (Nat.le_refl _))
    have RA_15 := Lib.hid (box_below RA_14.out hb (Nat.le_refl _))
    have RB_15 := Lib.hid (box_below RB_14.out hb (Nat.le_refl _))
    have RX_15 := Lib.hid (Row4.below RX_14.out hb (Nat.le_refl _))
    clear HB14 RU_14 RK_14 RA_14 RB_14 RX_14
    clear hb
    have RY_15 : Hid (Row4 (w14.alloc (.cells #[.string xk, .string xv, .bool xd, .int .i64 xq] 34)) (w14.heap.size) 34 (.string xk) (.string xv) (.bool xd) (.int .i64 xq)) := Lib.hid (heap_alloc_new _ _)
    have cB := RB_15.out.cell
    have fB := RB_15.out.frozen
    have HB16 := Lib.hid (HB15.out.setCell (p := ⟨w4.heap.size, 0, none⟩) (by show w.heap.size ≤ w4.heap.size; have := LB.out; omega) (.int .i64 p1))
    have RU_16 := Lib.hid (off2 (g := w4.heap.size) (o := 0) RU_15.out (by have := DUB.out; omega) (.int .i64 p1))
    have RK_16 := Lib.hid (off1 (g := w4.heap.size) (o := 0) RK_15.out (by have := DKB.out; omega) (.int .i64 p1))
    have RA_16 := Lib.hid (off1 (g := w4.heap.size) (o := 0) RA_15.out (by have := DAB.out; omega) (.int .i64 p1))
    have RB_16 := Lib.hid (Boxed.set (.int .i64 p1) RB_15.out)
    have RX_16 := Lib.hid (off4 (g := w4.heap.size) (o := 0) RX_15.out (by have := DBX.out; omega) (.int .i64 p1))
    have RY_16 := Lib.hid (off4 (g := w4.heap.size) (o := 0) RY_15.out (by have := DBY.out; omega) (.int .i64 p1))
    clear HB15 RU_15 RK_15 RA_15 RB_15 RX_15 RY_15
    have cU0 := RU_16.out.c0
    have cU1 := RU_16.out.c1
    have cK := RK_16.out.cell
    have fK := RK_16.out.frozen
    have cA := RA_16.out.cell
    have fA := RA_16.out.frozen
    have cB := RB_16.out.cell
    have fB := RB_16.out.frozen
    have cX0 := RX_16.out.c0
    have cX1 := RX_16.out.c1
    have cX2 := RX_16.out.c2
    have cX3 := RX_16.out.c3
    have cY0 := RY_16.out.c0
    have cY1 := RY_16.out.c1
    have cY2 := RY_16.out.c2
    have cY3 := RY_16.out.c3
    go_wp2_with fail
    clear cB fB cU0 cU1 cK fK cA fA cX0 cX1 cX2 cX3 cY0 cY1 cY2 cY3
    clear cB fB
    refine (J9.out _ HB16.out).mono ?_
    rintro e w17 ⟨rfl, hb⟩
    have HB17 := Lib.hid (eb_of HB16.out hb (by first | exact Nat.le_refl _ | exact HB16.out.size))
    have RU_17 := Lib.hid (Row2.below RU_16.out hb (Nat.le_refl _))
    have RK_17 := Lib.hid (box_below RK_16.out hb (Nat.le_refl _))
    have RA_17 := Lib.hid (box_below RA_16.out hb (Nat.le_refl _))
    have RB_17 := Lib.hid (box_below RB_16.out hb (Nat.le_refl _))
    have RX_17 := Lib.hid (Row4.below RX_16.out hb (Nat.le_refl _))
    have RY_17 := Lib.hid (Row4.below RY_16.out hb (Nat.le_refl _))
    clear HB16 RU_16 RK_16 RA_16 RB_16 RX_16 RY_16
    clear hb
    have cA := RA_17.out.cell
    have fA := RA_17.out.frozen
    have cX0 := RX_17.out.c0
    have cX1 := RX_17.out.c1
    have cX2 := RX_17.out.c2
    have cX3 := RX_17.out.c3
    have fX0 := RX_17.out.fz 0
    have fX1 := RX_17.out.fz 1
    have fX2 := RX_17.out.fz 2
    have fX3 := RX_17.out.fz 3
    have HB18 := Lib.hid ((((HB17.out.setCell (p := ⟨w11.heap.size, 0, none⟩) (by show w.heap.size ≤ w11.heap.size; have := LX.out; omega) (.string yk)).setCell (p := ⟨w11.heap.size, 1, none⟩) (by show w.heap.size ≤ w11.heap.size; have := LX.out; omega) (.string yv)).setCell (p := ⟨w11.heap.size, 2, none⟩) (by show w.heap.size ≤ w11.heap.size; have := LX.out; omega) (.bool yd)).setCell (p := ⟨w11.heap.size, 3, none⟩) (by show w.heap.size ≤ w11.heap.size; have := LX.out; omega) (.int .i64 yq))
    have RU_18 := Lib.hid (off2 (g := w11.heap.size) (o := 3) (off2 (g := w11.heap.size) (o := 2) (off2 (g := w11.heap.size) (o := 1) (off2 (g := w11.heap.size) (o := 0) RU_17.out (by have := DUX.out; omega) (.string yk)) (by have := DUX.out; omega) (.string yv)) (by have := DUX.out; omega) (.bool yd)) (by have := DUX.out; omega) (.int .i64 yq))
    have RK_18 := Lib.hid (off1 (g := w11.heap.size) (o := 3) (off1 (g := w11.heap.size) (o := 2) (off1 (g := w11.heap.size) (o := 1) (off1 (g := w11.heap.size) (o := 0) RK_17.out (by have := DKX.out; omega) (.string yk)) (by have := DKX.out; omega) (.string yv)) (by have := DKX.out; omega) (.bool yd)) (by have := DKX.out; omega) (.int .i64 yq))
    have RA_18 := Lib.hid (off1 (g := w11.heap.size) (o := 3) (off1 (g := w11.heap.size) (o := 2) (off1 (g := w11.heap.size) (o := 1) (off1 (g := w11.heap.size) (o := 0) RA_17.out (by have := DAX.out; omega) (.string yk)) (by have := DAX.out; omega) (.string yv)) (by have := DAX.out; omega) (.bool yd)) (by have := DAX.out; omega) (.int .i64 yq))
    have RB_18 := Lib.hid (off1 (g := w11.heap.size) (o := 3) (off1 (g := w11.heap.size) (o := 2) (off1 (g := w11.heap.size) (o := 1) (off1 (g := w11.heap.size) (o := 0) RB_17.out (by have := DBX.out; omega) (.string yk)) (by have := DBX.out; omega) (.string yv)) (by have := DBX.out; omega) (.bool yd)) (by have := DBX.out; omega) (.int .i64 yq))
    have RX_18 := Lib.hid (RX_17.out.set (.string yk) (.string yv) (.bool yd) (.int .i64 yq))
    have RY_18 := Lib.hid (off4 (g := w11.heap.size) (o := 3) (off4 (g := w11.heap.size) (o := 2) (off4 (g := w11.heap.size) (o := 1) (off4 (g := w11.heap.size) (o := 0) RY_17.out (by have := DXY.out; omega) (.string yk)) (by have := DXY.out; omega) (.string yv)) (by have := DXY.out; omega) (.bool yd)) (by have := DXY.out; omega) (.int .i64 yq))
    clear HB17 RU_17 RK_17 RA_17 RB_17 RX_17 RY_17
    have cA := RA_18.out.cell
    have fA := RA_18.out.frozen
    have HB19 := Lib.hid (HB18.out.setCell (p := ⟨w2.heap.size, 0, none⟩) (by show w.heap.size ≤ w2.heap.size; have := LA.out; omega) (.int .i64 p2))
    have RU_19 := Lib.hid (off2 (g := w2.heap.size) (o := 0) RU_18.out (by have := DUA.out; omega) (.int .i64 p2))
    have RK_19 := Lib.hid (off1 (g := w2.heap.size) (o := 0) RK_18.out (by have := DKA.out; omega) (.int .i64 p2))
    have RA_19 := Lib.hid (Boxed.set (.int .i64 p2) RA_18.out)
    have RB_19 := Lib.hid (off1 (g := w2.heap.size) (o := 0) RB_18.out (by have := DAB.out; omega) (.int .i64 p2))
    have RX_19 := Lib.hid (off4 (g := w2.heap.size) (o := 0) RX_18.out (by have := DAX.out; omega) (.int .i64 p2))
    have RY_19 := Lib.hid (off4 (g := w2.heap.size) (o := 0) RY_18.out (by have := DAY.out; omega) (.int .i64 p2))
    clear HB18 RU_18 RK_18 RA_18 RB_18 RX_18 RY_18
    have cU0 := RU_19.out.c0
    have cU1 := RU_19.out.c1
    have cK := RK_19.out.cell
    have fK := RK_19.out.frozen
    go_wp2_with fail
    clear cA fA cX0 cX1 cX2 cX3 fX0 fX1 fX2 fX3 cU0 cU1 cK fK
    clear cA fA
    refine (JA.out _ HB19.out).mono ?_
    rintro e w20 ⟨rfl, hb⟩
    have HB20 := Lib.hid (eb_of HB19.out hb (by first | exact Nat.le_refl _ | exact HB19.out.size))
    have RU_20 := Lib.hid (Row2.below RU_19.out hb (Nat.le_refl _))
    have RK_20 := Lib.hid (box_below RK_19.out hb (Nat.le_refl _))
    have RA_20 := Lib.hid (box_below RA_19.out hb (Nat.le_refl _))
    have RB_20 := Lib.hid (box_below RB_19.out hb (Nat.le_refl _))
    have RX_20 := Lib.hid (Row4.below RX_19.out hb (Nat.le_refl _))
    have RY_20 := Lib.hid (Row4.below RY_19.out hb (Nat.le_refl _))
    clear HB19 RU_19 RK_19 RA_19 RB_19 RX_19 RY_19
    clear hb
    have cB := RB_20.out.cell
    have fB := RB_20.out.frozen
    have cY0 := RY_20.out.c0
    have cY1 := RY_20.out.c1
    have cY2 := RY_20.out.c2
    have cY3 := RY_20.out.c3
    have fY0 := RY_20.out.fz 0
    have fY1 := RY_20.out.fz 1
    have fY2 := RY_20.out.fz 2
    have fY3 := RY_20.out.fz 3
    have HB21 := Lib.hid ((((HB20.out.setCell (p := ⟨w14.heap.size, 0, none⟩) (by show w.heap.size ≤ w14.heap.size; have := LY.out; omega) (.string yk)).setCell (p := ⟨w14.heap.size, 1, none⟩) (by show w.heap.size ≤ w14.heap.size; have := LY.out; omega) (.string yv)).setCell (p := ⟨w14.heap.size, 2, none⟩) (by show w.heap.size ≤ w14.heap.size; have := LY.out; omega) (.bool yd)).setCell (p := ⟨w14.heap.size, 3, none⟩) (by show w.heap.size ≤ w14.heap.size; have := LY.out; omega) (.int .i64 yq))
    have RU_21 := Lib.hid (off2 (g := w14.heap.size) (o := 3) (off2 (g := w14.heap.size) (o := 2) (off2 (g := w14.heap.size) (o := 1) (off2 (g := w14.heap.size) (o := 0) RU_20.out (by have := DUY.out; omega) (.string yk)) (by have := DUY.out; omega) (.string yv)) (by have := DUY.out; omega) (.bool yd)) (by have := DUY.out; omega) (.int .i64 yq))
    have RK_21 := Lib.hid (off1 (g := w14.heap.size) (o := 3) (off1 (g := w14.heap.size) (o := 2) (off1 (g := w14.heap.size) (o := 1) (off1 (g := w14.heap.size) (o := 0) RK_20.out (by have := DKY.out; omega) (.string yk)) (by have := DKY.out; omega) (.string yv)) (by have := DKY.out; omega) (.bool yd)) (by have := DKY.out; omega) (.int .i64 yq))
    have RA_21 := Lib.hid (off1 (g := w14.heap.size) (o := 3) (off1 (g := w14.heap.size) (o := 2) (off1 (g := w14.heap.size) (o := 1) (off1 (g := w14.heap.size) (o := 0) RA_20.out (by have := DAY.out; omega) (.string yk)) (by have := DAY.out; omega) (.string yv)) (by have := DAY.out; omega) (.bool yd)) (by have := DAY.out; omega) (.int .i64 yq))
    have RB_21 := Lib.hid (off1 (g := w14.heap.size) (o := 3) (off1 (g := w14.heap.size) (o := 2) (off1 (g := w14.heap.size) (o := 1) (off1 (g := w14.heap.size) (o := 0) RB_20.out (by have := DBY.out; omega) (.string yk)) (by have := DBY.out; omega) (.string yv)) (by have := DBY.out; omega) (.bool yd)) (by have := DBY.out; omega) (.int .i64 yq))
    have RX_21 := Lib.hid (off4 (g := w14.heap.size) (o := 3) (off4 (g := w14.heap.size) (o := 2) (off4 (g := w14.heap.size) (o := 1) (off4 (g := w14.heap.size) (o := 0) RX_20.out (by have := DXY.out; omega) (.string yk)) (by have := DXY.out; omega) (.string yv)) (by have := DXY.out; omega) (.bool yd)) (by have := DXY.out; omega) (.int .i64 yq))
    have RY_21 := Lib.hid (RY_20.out.set (.string yk) (.string yv) (.bool yd) (.int .i64 yq))
    clear HB20 RU_20 RK_20 RA_20 RB_20 RX_20 RY_20
    have cB := RB_21.out.cell
    have fB := RB_21.out.frozen
    have HB22 := Lib.hid (HB21.out.setCell (p := ⟨w4.heap.size, 0, none⟩) (by show w.heap.size ≤ w4.heap.size; have := LB.out; omega) (.int .i64 p2))
    have RU_22 := Lib.hid (off2 (g := w4.heap.size) (o := 0) RU_21.out (by have := DUB.out; omega) (.int .i64 p2))
    have RK_22 := Lib.hid (off1 (g := w4.heap.size) (o := 0) RK_21.out (by have := DKB.out; omega) (.int .i64 p2))
    have RA_22 := Lib.hid (off1 (g := w4.heap.size) (o := 0) RA_21.out (by have := DAB.out; omega) (.int .i64 p2))
    have RB_22 := Lib.hid (Boxed.set (.int .i64 p2) RB_21.out)
    have RX_22 := Lib.hid (off4 (g := w4.heap.size) (o := 0) RX_21.out (by have := DBX.out; omega) (.int .i64 p2))
    have RY_22 := Lib.hid (off4 (g := w4.heap.size) (o := 0) RY_21.out (by have := DBY.out; omega) (.int .i64 p2))
    clear HB21 RU_21 RK_21 RA_21 RB_21 RX_21 RY_21
    have cU0 := RU_22.out.c0
    have cU1 := RU_22.out.c1
    have cK := RK_22.out.cell
    have fK := RK_22.out.frozen
    have cA := RA_22.out.cell
    have fA := RA_22.out.frozen
    have cB := RB_22.out.cell
    have fB := RB_22.out.frozen
    have cX0 := RX_22.out.c0
    have cX1 := RX_22.out.c1
    have cX2 := RX_22.out.c2
    have cX3 := RX_22.out.c3
    have cY0 := RY_22.out.c0
    have cY1 := RY_22.out.c1
    have cY2 := RY_22.out.c2
    have cY3 := RY_22.out.c3
    go_wp2_with fail
    clear cB fB cY0 cY1 cY2 cY3 fY0 fY1 fY2 fY3 cU0 cU1 cK fK cA fA cX0 cX1 cX2 cX3
    clear cB fB cY0 cY1 cY2 cY3
    clear cB fB
    refine (JW.out _).mono ?_
    rintro e w23 ⟨rfl, hb⟩
    have HB23 := Lib.hid (eb_of HB22.out hb (by first | exact Nat.le_refl _ | exact HB22.out.size))
    have RU_23 := Lib.hid (Row2.below RU_22.out hb (Nat.le_refl _))
    have RK_23 := Lib.hid (box_below RK_22.out hb (Nat.le_refl _))
    have RA_23 := Lib.hid (box_below RA_22.out hb (Nat.le_refl _))
    have RB_23 := Lib.hid (box_below RB_22.out hb (Nat.le_refl _))
    have RX_23 := Lib.hid (Row4.below RX_22.out hb (Nat.le_refl _))
    have RY_23 := Lib.hid (Row4.below RY_22.out hb (Nat.le_refl _))
    clear HB22 RU_22 RK_22 RA_22 RB_22 RX_22 RY_22
    clear hb
    go_wp2_with fail
    go_ret
    exact ⟨by first | rfl | (simp; done), HB23.out⟩
end Go.Proofs.Yticdechdgpfdfaa.KK
