/-
  WalkPlaces: the walk.
-/
import Derived.Test.YtndmmajhhjohhaaTp
namespace Go.Proofs.Ytndmmajhhjohhaa.KK
open Go.ChangeShapes Go.WideShapes Go.ChangeAt Go.RowKit Go.Proofs Go.Sort

def Row5 (W : World) (B : Nat) (t : TypeId) (v0 v1 v2 v3 v4 : Value) : Prop := W.heap[B]? = some (.cells #[v0, v1, v2, v3, v4] t (0, 0))
theorem Row5.lt {W : World} {B : Nat} {t : TypeId} {v0 v1 v2 v3 v4 : Value} (h : Row5 W B t v0 v1 v2 v3 v4) : B < W.heap.size := (Array.getElem?_eq_some_iff.1 h).1
theorem Row5.below {W W' : World} {B n : Nat} {t : TypeId} {v0 v1 v2 v3 v4 : Value} (h : Row5 W B t v0 v1 v2 v3 v4) (hb : Below n W W') (hn : W.heap.size ≤ n) : Row5 W' B t v0 v1 v2 v3 v4 := (hb.block B (Nat.lt_of_lt_of_le h.lt hn)).trans h
theorem Row5.c0 {W : World} {B : Nat} {t : TypeId} {v0 v1 v2 v3 v4 : Value} (h : Row5 W B t v0 v1 v2 v3 v4) : W.cell? ⟨B, 0, none⟩ = some v0 := by unfold Row5 at h; simp [World.cell?, h]
theorem Row5.c1 {W : World} {B : Nat} {t : TypeId} {v0 v1 v2 v3 v4 : Value} (h : Row5 W B t v0 v1 v2 v3 v4) : W.cell? ⟨B, 1, none⟩ = some v1 := by unfold Row5 at h; simp [World.cell?, h]
theorem Row5.c2 {W : World} {B : Nat} {t : TypeId} {v0 v1 v2 v3 v4 : Value} (h : Row5 W B t v0 v1 v2 v3 v4) : W.cell? ⟨B, 2, none⟩ = some v2 := by unfold Row5 at h; simp [World.cell?, h]
theorem Row5.c3 {W : World} {B : Nat} {t : TypeId} {v0 v1 v2 v3 v4 : Value} (h : Row5 W B t v0 v1 v2 v3 v4) : W.cell? ⟨B, 3, none⟩ = some v3 := by unfold Row5 at h; simp [World.cell?, h]
theorem Row5.c4 {W : World} {B : Nat} {t : TypeId} {v0 v1 v2 v3 v4 : Value} (h : Row5 W B t v0 v1 v2 v3 v4) : W.cell? ⟨B, 4, none⟩ = some v4 := by unfold Row5 at h; simp [World.cell?, h]
theorem boxUCQ (id : Int) (B : Option Addr) (n d : Nat) (k : Int) (v0 v1 v2 v3 v4 : Value) (t : TypeId) (w : World) : ∃ w1, ((w.alloc (.cells #[.int .i64 id, .slice B n d] 24)).alloc (.cells #[.int .i64 k] 26)).alloc (.cells #[v0, v1, v2, v3, v4] t) = w1 ∧
    Row2 w1 w.heap.size 24 (.int .i64 id) (.slice B n d) ∧ Boxed w1 (w.heap.size + 1) 26 (.int .i64 k) ∧ Row5 w1 (w.heap.size + 2) t v0 v1 v2 v3 v4 ∧ Below w.heap.size w w1 := by
  obtain ⟨wa, ea, r0, r1, hs, hb⟩ := boxUC id B n d k w
  rw [ea]
  have c : Row5 (wa.alloc (.cells #[v0, v1, v2, v3, v4] t)) wa.heap.size t v0 v1 v2 v3 v4 := heap_alloc_new _ _
  have hc := alloc_below wa (.cells #[v0, v1, v2, v3, v4] t)
  exact ⟨_, rfl, r0.below hc (Nat.le_refl _), box_below r1 hc (Nat.le_refl _), by rw [show w.heap.size + 2 = wa.heap.size by omega]; exact c, eb_of hb hc (by omega)⟩
set_option maxRecDepth 100000 in
set_option maxHeartbeats 16000000 in
theorem Places9_any (id : Int) (A : Option Addr) (c : Nat) (xs : List El.En) (k : Int) (key : ByteArray) (past : Bool) (lo hi : ByteArray) (b : Bool) (w : World) (hf : EsAt w A xs) (hn : xs.length ≤ 9223372036854775807) (hs : Sized xs) (hcap : xs.length ≤ c) (hnil : A = none → c = 0) (hks : key.size ≤ 9223372036854775807) (hlo : lo.size ≤ 9223372036854775807) (hhi : hi.size ≤ 9223372036854775807) :
    Calls Try.prog 4 #[.agg #[.int .i64 id, .slice A xs.length c], .agg #[.int .i64 k], .agg #[.string key, .bool past, .string lo, .string hi, .bool b]] w fun e w' => e = .returned (.bool true) ∧ Below w.heap.size w w' := by
  have JF := Lib.hid (fun w1 (h : Below w.heap.size w w1) => far8_any id A c xs w1 (hf.below h (Nat.le_refl _)) hn hs)
  have JW := Lib.hid (fun w => awake9_any w)
  obtain ⟨w0, hw0, r0, b0, r5, hb⟩ := boxUCQ id A xs.length c k (.string key) (.bool past) (.string lo) (.string hi) (.bool b) 41 w
  have HB := Lib.hid hb
  have RU := Lib.hid r0
  have RK := Lib.hid b0
  have RQ := Lib.hid r5
  have x0 := r0.c0
  have x1 := r0.c1
  have x2 := b0.cell
  have x3 := r5.c0
  have x4 := r5.c1
  have x5 := r5.c2
  have x6 := r5.c3
  have x7 := r5.c4
  clear r0 b0 r5 hb
  cases hfar : farF xs with
  | true =>
    rw [hfar] at JF
    clear hfar hf hs hcap hnil
    generalize xs.length = n at *
    go_enter Try.func4, Try.ntmps4
    go_wp2_with fail
    clear x0 x1 x2 x3 x4 x5 x6 x7
    refine (JF.out _ HB.out).mono ?_
    rintro e w1 ⟨rfl, hb⟩
    have HB1 := Lib.hid (eb_of HB.out hb (by first | exact Nat.le_refl _ | exact HB.out.size))
    have RU_1 := Lib.hid (Row2.below RU.out hb (Nat.le_refl _))
    have RK_1 := Lib.hid (box_below RK.out hb (Nat.le_refl _))
    have RQ_1 := Lib.hid (Row5.below RQ.out hb (Nat.le_refl _))
    clear RU RK RQ
    clear hb
    have cU0 := RU_1.out.c0
    have cU1 := RU_1.out.c1
    have cK := RK_1.out.cell
    have fK := RK_1.out.frozen
    have cQ0 := RQ_1.out.c0
    have cQ1 := RQ_1.out.c1
    have cQ2 := RQ_1.out.c2
    have cQ3 := RQ_1.out.c3
    have cQ4 := RQ_1.out.c4
    go_wp2_with fail
    clear cU0 cU1 cK fK cQ0 cQ1 cQ2 cQ3 cQ4
    refine (JW.out _).mono ?_
    rintro e w2 ⟨rfl, hb⟩
    have HB2 := Lib.hid (eb_of HB1.out hb (by first | exact Nat.le_refl _ | exact HB1.out.size))
    have RU_2 := Lib.hid (Row2.below RU_1.out hb (Nat.le_refl _))
    have RK_2 := Lib.hid (box_below RK_1.out hb (Nat.le_refl _))
    have RQ_2 := Lib.hid (Row5.below RQ_1.out hb (Nat.le_refl _))
    clear HB1 RU_1 RK_1 RQ_1
    clear hb
    go_wp2_with fail
    go_ret
    exact ⟨by first | rfl | (simp; done), HB2.out⟩
  | false =>
    have hl5 := far_len hfar
    have hn5 : xs.length ≤ 4294967295 := by omega
    rw [hfar] at JF
    by_cases ht1 : 100 < key.size
    · have t1 : (100 : Int) < (key.size : Int) := by omega
      clear hfar hf hs hcap hnil hl5
      generalize xs.length = n at *
      go_enter Try.func4, Try.ntmps4
      go_wp2_with fail
      clear x0 x1 x2 x3 x4 x5 x6 x7
      refine (JF.out _ HB.out).mono ?_
      rintro e w1 ⟨rfl, hb⟩
      have HB1 := Lib.hid (eb_of HB.out hb (by first | exact Nat.le_refl _ | exact HB.out.size))
      have RU_1 := Lib.hid (Row2.below RU.out hb (Nat.le_refl _))
      have RK_1 := Lib.hid (box_below RK.out hb (Nat.le_refl _))
      have RQ_1 := Lib.hid (Row5.below RQ.out hb (Nat.le_refl _))
      clear RU RK RQ
      clear hb
      have cU0 := RU_1.out.c0
      have cU1 := RU_1.out.c1
      have cK := RK_1.out.cell
      have fK := RK_1.out.frozen
      have cQ0 := RQ_1.out.c0
      have cQ1 := RQ_1.out.c1
      have cQ2 := RQ_1.out.c2
      have cQ3 := RQ_1.out.c3
      have cQ4 := RQ_1.out.c4
      go_wp2_with fail
      clear cU0 cU1 cK fK cQ0 cQ1 cQ2 cQ3 cQ4
      refine (JW.out _).mono ?_
      rintro e w2 ⟨rfl, hb⟩
      have HB2 := Lib.hid (eb_of HB1.out hb (by first | exact Nat.le_refl _ | exact HB1.out.size))
      have RU_2 := Lib.hid (Row2.below RU_1.out hb (Nat.le_refl _))
      have RK_2 := Lib.hid (box_below RK_1.out hb (Nat.le_refl _))
      have RQ_2 := Lib.hid (Row5.below RQ_1.out hb (Nat.le_refl _))
      clear HB1 RU_1 RK_1 RQ_1
      clear hb
      go_wp2_with fail
      go_ret
      exact ⟨by first | rfl | (simp; done), HB2.out⟩
    have t1 : ¬ (100 : Int) < (key.size : Int) := by omega
    by_cases ht2 : 100 < lo.size
    · have t2 : (100 : Int) < (lo.size : Int) := by omega
      clear hfar hf hs hcap hnil hl5
      generalize xs.length = n at *
      go_enter Try.func4, Try.ntmps4
      go_wp2_with fail
      clear x0 x1 x2 x3 x4 x5 x6 x7
      refine (JF.out _ HB.out).mono ?_
      rintro e w1 ⟨rfl, hb⟩
      have HB1 := Lib.hid (eb_of HB.out hb (by first | exact Nat.le_refl _ | exact HB.out.size))
      have RU_1 := Lib.hid (Row2.below RU.out hb (Nat.le_refl _))
      have RK_1 := Lib.hid (box_below RK.out hb (Nat.le_refl _))
      have RQ_1 := Lib.hid (Row5.below RQ.out hb (Nat.le_refl _))
      clear RU RK RQ
      clear hb
      have cU0 := RU_1.out.c0
      have cU1 := RU_1.out.c1
      have cK := RK_1.out.cell
      have fK := RK_1.out.frozen
      have cQ0 := RQ_1.out.c0
      have cQ1 := RQ_1.out.c1
      have cQ2 := RQ_1.out.c2
      have cQ3 := RQ_1.out.c3
      have cQ4 := RQ_1.out.c4
      go_wp2_with fail
      clear cU0 cU1 cK fK cQ0 cQ1 cQ2 cQ3 cQ4
      refine (JW.out _).mono ?_
      rintro e w2 ⟨rfl, hb⟩
      have HB2 := Lib.hid (eb_of HB1.out hb (by first | exact Nat.le_refl _ | exact HB1.out.size))
      have RU_2 := Lib.hid (Row2.below RU_1.out hb (Nat.le_refl _))
      have RK_2 := Lib.hid (box_below RK_1.out hb (Nat.le_refl _))
      have RQ_2 := Lib.hid (Row5.below RQ_1.out hb (Nat.le_refl _))
      clear HB1 RU_1 RK_1 RQ_1
      clear hb
      go_wp2_with fail
      go_ret
      exact ⟨by first | rfl | (simp; done), HB2.out⟩
    have t2 : ¬ (100 : Int) < (lo.size : Int) := by omega
    by_cases ht3 : 100 < hi.size
    · have t3 : (100 : Int) < (hi.size : Int) := by omega
      clear hfar hf hs hcap hnil hl5
      generalize xs.length = n at *
      go_enter Try.func4, Try.ntmps4
      go_wp2_with fail
      clear x0 x1 x2 x3 x4 x5 x6 x7
      refine (JF.out _ HB.out).mono ?_
      rintro e w1 ⟨rfl, hb⟩
      have HB1 := Lib.hid (eb_of HB.out hb (by first | exact Nat.le_refl _ | exact HB.out.size))
      have RU_1 := Lib.hid (Row2.below RU.out hb (Nat.le_refl _))
      have RK_1 := Lib.hid (box_below RK.out hb (Nat.le_refl _))
      have RQ_1 := Lib.hid (Row5.below RQ.out hb (Nat.le_refl _))
      clear RU RK RQ
      clear hb
      have cU0 := RU_1.out.c0
      have cU1 := RU_1.out.c1
      have cK := RK_1.out.cell
      have fK := RK_1.out.frozen
      have cQ0 := RQ_1.out.c0
      have cQ1 := RQ_1.out.c1
      have cQ2 := RQ_1.out.c2
      have cQ3 := RQ_1.out.c3
      have cQ4 := RQ_1.out.c4
      go_wp2_with fail
      clear cU0 cU1 cK fK cQ0 cQ1 cQ2 cQ3 cQ4
      refine (JW.out _).mono ?_
      rintro e w2 ⟨rfl, hb⟩
      have HB2 := Lib.hid (eb_of HB1.out hb (by first | exact Nat.le_refl _ | exact HB1.out.size))
      have RU_2 := Lib.hid (Row2.below RU_1.out hb (Nat.le_refl _))
      have RK_2 := Lib.hid (box_below RK_1.out hb (Nat.le_refl _))
      have RQ_2 := Lib.hid (Row5.below RQ_1.out hb (Nat.le_refl _))
      clear HB1 RU_1 RK_1 RQ_1
      clear hb
      go_wp2_with fail
      go_ret
      exact ⟨by first | rfl | (simp; done), HB2.out⟩
    have t3 : ¬ (100 : Int) < (hi.size : Int) := by omega
    have J1 := Lib.hid (fun w1 (h : Below w.heap.size w w1) => pSeek9_any id A c xs key past w1 (hf.below h (Nat.le_refl _)) hn5 hs hcap hnil hks)
    have J2 := Lib.hid (fun w1 (h : Below w.heap.size w w1) => rSeek9_any id A c xs key past w1 (hf.below h (Nat.le_refl _)) hn5 hs hks)
    have J3 := Lib.hid (fun w1 (h : Below w.heap.size w w1) => pClip9_any id A c xs k lo hi b w1 (hf.below h (Nat.le_refl _)) hn5 hs hcap hnil hlo hhi)
    have J4 := Lib.hid (fun w1 (h : Below w.heap.size w w1) => rClip9_any id A c xs k lo hi b w1 (hf.below h (Nat.le_refl _)) hn5 hs hlo hhi)
    clear hfar hf hs hl5 hn5 hcap hnil
    generalize sekE id xs key past = g1 at *
    generalize clpE id xs k lo hi b = g2 at *
    obtain ⟨p1, e1⟩ := g1
    obtain ⟨p2, e2⟩ := g2
    simp only at J1 J2 J3 J4
    generalize xs.length = n at *
    go_enter Try.func4, Try.ntmps4
    go_wp2_with fail
    clear x0 x1 x2 x3 x4 x5 x6 x7
    refine (JF.out _ HB.out).mono ?_
    rintro e w1 ⟨rfl, hb⟩
    have HB1 := Lib.hid (eb_of HB.out hb (by first | exact Nat.le_refl _ | exact HB.out.size))
    have RU_1 := Lib.hid (Row2.below RU.out hb (Nat.le_refl _))
    have RK_1 := Lib.hid (box_below RK.out hb (Nat.le_refl _))
    have RQ_1 := Lib.hid (Row5.below RQ.out hb (Nat.le_refl _))
    clear RU RK RQ
    clear hb
    have cU0 := RU_1.out.c0
    have cU1 := RU_1.out.c1
    have cK := RK_1.out.cell
    have fK := RK_1.out.frozen
    have cQ0 := RQ_1.out.c0
    have cQ1 := RQ_1.out.c1
    have cQ2 := RQ_1.out.c2
    have cQ3 := RQ_1.out.c3
    have cQ4 := RQ_1.out.c4
    go_wp2_with fail
    clear cU0 cU1 cK fK cQ0 cQ1 cQ2 cQ3 cQ4
    refine (J1.out _ HB1.out).mono ?_
    rintro e w2 ⟨rfl, hb⟩
    have HB2 := Lib.hid (eb_of HB1.out hb (by first | exact Nat.le_refl _ | exact HB1.out.size))
    have RU_2 := Lib.hid (Row2.below RU_1.out hb (Nat.le_refl _))
    have RK_2 := Lib.hid (box_below RK_1.out hb (Nat.le_refl _))
    have RQ_2 := Lib.hid (Row5.below RQ_1.out hb (Nat.le_refl _))
    clear HB1 RU_1 RK_1 RQ_1
    clear hb
    have LA : Hid (w.heap.size + 1 ≤ w2.heap.size) := Lib.hid (by have := RU_2.out.lt; (try simp only [World.size_alloc] at this); omega)
    have hb := alloc_below w2 (.cells #[.int .i64 p1] 26)
    have HB3 := Lib.hid (eb_of HB2.out hb (by first | exact Nat.le_refl _ | exact HB2.out.size))
    have RU_3 := Lib.hid (Row2.below RU_2.out hb (Nat.le_refl _))
    have RK_3 := Lib.hid (box_below RK_2.out hb (Nat.le_refl _))
    have RQ_3 := Lib.hid (Row5.below RQ_2.out hb (Nat.le_refl _))
    clear HB2 RU_2 RK_2 RQ_2
    clear hb
    have RA_3 : Hid (Boxed (w2.alloc (.cells #[.int .i64 p1] 26)) (w2.heap.size) 26 (.int .i64 p1)) := Lib.hid (heap_alloc_new _ _)
    have cU0 := RU_3.out.c0
    have cU1 := RU_3.out.c1
    have cK := RK_3.out.cell
    have fK := RK_3.out.frozen
    have cQ0 := RQ_3.out.c0
    have cQ1 := RQ_3.out.c1
    have cQ2 := RQ_3.out.c2
    have cQ3 := RQ_3.out.c3
    have cQ4 := RQ_3.out.c4
    go_wp2_with fail
    clear cU0 cU1 cK fK cQ0 cQ1 cQ2 cQ3 cQ4
    refine (J2.out _ HB3.out).mono ?_
    rintro e w4 ⟨rfl, hb⟩
    have HB4 := Lib.hid (eb_of HB3.out hb (by first | exact Nat.le_refl _ | exact HB3.out.size))
    have RU_4 := Lib.hid (Row2.below RU_3.out hb (Nat.le_refl _))
    have RK_4 := Lib.hid (box_below RK_3.out hb (Nat.le_refl _))
    have RQ_4 := Lib.hid (Row5.below RQ_3.out hb (Nat.le_refl _))
    have RA_4 := Lib.hid (box_below RA_3.out hb (Nat.le_refl _))
    clear HB3 RU_3 RK_3 RQ_3 RA_3
    clear hb
    have LB : Hid (w.heap.size + 1 ≤ w4.heap.size) := Lib.hid (by have := RU_4.out.lt; (try simp only [World.size_alloc] at this); omega)
    have hb := alloc_below w4 (.cells #[.int .i64 p1] 26)
    have HB5 := Lib.hid (eb_of HB4.out hb (by first | exact Nat.le_refl _ | exact HB4.out.size))
    have RU_5 := Lib.hid (Row2.below RU_4.out hb (Nat.le_refl _))
    have RK_5 := Lib.hid (box_below RK_4.out hb (Nat.le_refl _))
    have RQ_5 := Lib.hid (Row5.below RQ_4.out hb (Nat.le_refl _))
    have RA_5 := Lib.hid (box_below RA_4.out hb (Nat.le_refl _))
    clear HB4 RU_4 RK_4 RQ_4 RA_4
    clear hb
    have RB_5 : Hid (Boxed (w4.alloc (.cells #[.int .i64 p1] 26)) (w4.heap.size) 26 (.int .i64 p1)) := Lib.hid (heap_alloc_new _ _)
    have cU0 := RU_5.out.c0
    have cU1 := RU_5.out.c1
    have cK := RK_5.out.cell
    have fK := RK_5.out.frozen
    have cQ0 := RQ_5.out.c0
    have cQ1 := RQ_5.out.c1
    have cQ2 := RQ_5.out.c2
    have cQ3 := RQ_5.out.c3
    have cQ4 := RQ_5.out.c4
    go_wp2_with fail
    clear cU0 cU1 cK fK cQ0 cQ1 cQ2 cQ3 cQ4
    refine (J3.out _ HB5.out).mono ?_
    rintro e w6 ⟨rfl, hb⟩
    have HB6 := Lib.hid (eb_of HB5.out hb (by first | exact Nat.le_refl _ | exact HB5.out.size))
    have RU_6 := Lib.hid (Row2.below RU_5.out hb (Nat.le_refl _))
    have RK_6 := Lib.hid (box_below RK_5.out hb (Nat.le_refl _))
    have RQ_6 := Lib.hid (Row5.below RQ_5.out hb (Nat.le_refl _))
    have RA_6 := Lib.hid (box_below RA_5.out hb (Nat.le_refl _))
    have RB_6 := Lib.hid (box_below RB_5.out hb (Nat.le_refl _))
    clear HB5 RU_5 RK_5 RQ_5 RA_5 RB_5
    clear hb
    have LC : Hid (w.heap.size + 1 ≤ w6.heap.size) := Lib.hid (by have := RU_6.out.lt; (try simp only [World.size_alloc] at this); omega)
    have hb := alloc_below w6 (.cells #[.int .i64 p2] 26)
    have HB7 := Lib.hid (eb_of HB6.out hb (by first | exact Nat.le_refl _ | exact HB6.out.size))
    have RU_7 := Lib.hid (Row2.below RU_6.out hb (Nat.le_refl _))
    have RK_7 := Lib.hid (box_below RK_6.out hb (Nat.le_refl _))
    have RQ_7 := Lib.hid (Row5.below RQ_6.out hb (Nat.le_refl _))
    have RA_7 := Lib.hid (box_below RA_6.out hb (Nat.le_refl _))
    have RB_7 := Lib.hid (box_below RB_6.out hb (Nat.le_refl _))
    clear HB6 RU_6 RK_6 RQ_6 RA_6 RB_6
    clear hb
    have RC_7 : Hid (Boxed (w6.alloc (.cells #[.int .i64 p2] 26)) (w6.heap.size) 26 (.int .i64 p2)) := Lib.hid (heap_alloc_new _ _)
    have cU0 := RU_7.out.c0
    have cU1 := RU_7.out.c1
    have cK := RK_7.out.cell
    have fK := RK_7.out.frozen
    have cQ0 := RQ_7.out.c0
    have cQ1 := RQ_7.out.c1
    have cQ2 := RQ_7.out.c2
    have cQ3 := RQ_7.out.c3
    have cQ4 := RQ_7.out.c4
    go_wp2_with fail
    clear cU0 cU1 cK fK cQ0 cQ1 cQ2 cQ3 cQ4
    refine (J4.out _ HB7.out).mono ?_
    rintro e w8 ⟨rfl, hb⟩
    have HB8 := Lib.hid (eb_of HB7.out hb (by first | exact Nat.le_refl _ | exact HB7.out.size))
    have RU_8 := Lib.hid (Row2.below RU_7.out hb (Nat.le_refl _))
    have RK_8 := Lib.hid (box_below RK_7.out hb (Nat.le_refl _))
    have RQ_8 := Lib.hid (Row5.below RQ_7.out hb (Nat.le_refl _))
    have RA_8 := Lib.hid (box_below RA_7.out hb (Nat.le_refl _))
    have RB_8 := Lib.hid (box_below RB_7.out hb (Nat.le_refl _))
    have RC_8 := Lib.hid (box_below RC_7.out hb (Nat.le_refl _))
    clear HB7 RU_7 RK_7 RQ_7 RA_7 RB_7 RC_7
    clear hb
    have LD : Hid (w.heap.size + 1 ≤ w8.heap.size) := Lib.hid (by have := RU_8.out.lt; (try simp only [World.size_alloc] at this); omega)
    have hb := alloc_below w8 (.cells #[.int .i64 p2] 26)
    have HB9 := Lib.hid (eb_of HB8.out hb (by first | exact Nat.le_refl _ | exact HB8.out.size))
    have RU_9 := Lib.hid (Row2.below RU_8.out hb (Nat.le_refl _))
    have RK_9 := Lib.hid (box_below RK_8.out hb (Nat.le_refl _))
    have RQ_9 := Lib.hid (Row5.below RQ_8.out hb (Nat.le_refl _))
    have RA_9 := Lib.hid (box_below RA_8.out hb (Nat.le_refl _))
    have RB_9 := Lib.hid (box_below RB_8.out hb (Nat.le_refl _))
    have RC_9 := Lib.hid (box_below RC_8.out hb (Nat.le_refl _))
    clear HB8 RU_8 RK_8 RQ_8 RA_8 RB_8 RC_8
    clear hb
    have RD_9 : Hid (Boxed (w8.alloc (.cells #[.int .i64 p2] 26)) (w8.heap.size) 26 (.int .i64 p2)) := Lib.hid (heap_alloc_new _ _)
    have cU0 := RU_9.out.c0
    have cU1 := RU_9.out.c1
    have cK := RK_9.out.cell
    have fK := RK_9.out.frozen
    have cQ0 := RQ_9.out.c0
    have cQ1 := RQ_9.out.c1
    have cQ2 := RQ_9.out.c2
    have cQ3 := RQ_9.out.c3
    have cQ4 := RQ_9.out.c4
    have cA := RA_9.out.cell
    have fA := RA_9.out.frozen
    have cB := RB_9.out.cell
    have fB := RB_9.out.frozen
    have cC := RC_9.out.cell
    have fC := RC_9.out.frozen
    have cD := RD_9.out.cell
    have fD := RD_9.out.frozen
    go_wp2_with fail
    clear cU0 cU1 cK fK cQ0 cQ1 cQ2 cQ3 cQ4 cA fA cB fB cC fC cD fD
    refine (JW.out _).mono ?_
    rintro e w10 ⟨rfl, hb⟩
    have HB10 := Lib.hid (eb_of HB9.out hb (by first | exact Nat.le_refl _ | exact HB9.out.size))
    have RU_10 := Lib.hid (Row2.below RU_9.out hb (Nat.le_refl _))
    have RK_10 := Lib.hid (box_below RK_9.out hb (Nat.le_refl _))
    have RQ_10 := Lib.hid (Row5.below RQ_9.out hb (Nat.le_refl _))
    have RA_10 := Lib.hid (box_below RA_9.out hb (Nat.le_refl _))
    have RB_10 := Lib.hid (box_below RB_9.out hb (Nat.le_refl _))
    have RC_10 := Lib.hid (box_below RC_9.out hb (Nat.le_refl _))
    have RD_10 := Lib.hid (box_below RD_9.out hb (Nat.le_refl _))
    clear HB9 RU_9 RK_9 RQ_9 RA_9 RB_9 RC_9 RD_9
    clear hb
    go_wp2_with fail
    go_ret
    exact ⟨by first | rfl | (simp; done), HB10.out⟩
end Go.Proofs.Ytndmmajhhjohhaa.KK
