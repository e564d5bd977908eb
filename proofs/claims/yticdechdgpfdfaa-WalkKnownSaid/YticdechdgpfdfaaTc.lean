/-
  Walk: Check, First, Last on both sides.
-/
import Derived.Test.YticdechdgpfdfaaTb
namespace Go.Proofs.Yticdechdgpfdfaa.KK
open Go.ChangeShapes Go.WideShapes Go.ChangeAt Go.RowKit Go.Proofs Go.Sort

theorem Row2.alloc {W : World} {B : Nat} {t : TypeId} {v0 v1 : Value} (h : Row2 W B t v0 v1) (o : Obj) : Row2 (W.alloc o) B t v0 v1 := h.below (alloc_below W o) (Nat.le_refl _)
theorem box_below {W W' : World} {B n : Nat} {t : TypeId} {v : Value} (h : Boxed W B t v) (hb : Below n W W') (hn : W.heap.size ≤ n) : Boxed W' B t v := (hb.block B (Nat.lt_of_lt_of_le h.lt hn)).trans h
/-- boxes: a run, a cursor -/
theorem boxUC (id : Int) (B : Option Addr) (n d : Nat) (k : Int) (w : World) : ∃ w1, (w.alloc (.cells #[.int .i64 id, .slice B n d] 24)).alloc (.cells #[.int .i64 k] 26) = w1 ∧ Row2 w1 w.heap.size 24 (.int .i64 id) (.slice B n d) ∧ Boxed w1 (w.heap.size + 1) 26 (.int .i64 k) ∧ w1.heap.size = w.heap.size + 2 ∧ Below w.heap.size w w1 := by
  refine ⟨_, rfl, (Row2.new w _ _ _).alloc _, ?_, by simp, eb_of (alloc_below w _) (alloc_below _ _) (Nat.le_refl _)⟩
  have := Boxed.new (w.alloc (.cells #[.int .i64 id, .slice B n d] 24)) 26 (.int .i64 k)
  rwa [World.size_alloc] at this
/-- boxes: a run, a cursor for the answer -/
theorem boxUC0 (id : Int) (B : Option Addr) (n d : Nat) (w : World) : ∃ w1, (w.alloc (.cells #[.int .i64 id, .slice B n d] 24)).alloc (.cells #[.int .i64 0] 26) = w1 ∧ Row2 w1 w.heap.size 24 (.int .i64 id) (.slice B n d) ∧ Boxed w1 (w.heap.size + 1) 26 (.int .i64 0) ∧ w1.heap.size = w.heap.size + 2 ∧ Below w.heap.size w w1 := boxUC id B n d 0 w
set_option maxRecDepth 100000 in
set_option maxHeartbeats 2000000 in
theorem pCur_any (id : Int) (B : Option Addr) (d : Nat) (xs : List El.En) (k : Int) (w : World) (hf : EsAt w B xs) (hn : xs.length ≤ 4294967295) (hs : Sized xs) :
    Calls Try.prog 17 #[.agg #[.int .i64 id, .slice B xs.length d], .agg #[.int .i64 k]] w fun e w' => e = .returned (.int .i64 (curE id xs k)) ∧ Below w.heap.size w w' := by
  obtain ⟨w1, hw1, r0, b0, hsz, hb⟩ := boxUC id B xs.length d k w
  have J := Lib.hid (fun w2 (h : Below w.heap.size w w2) => pCheck8_any id B d xs w2 (hf.below h (Nat.le_refl _)) hn hs)
  have HB := Lib.hid hb
  have HR := Lib.hid r0
  have HK := Lib.hid b0
  have x0 := r0.c0
  have x1 := r0.c1
  have x2 := b0.cell
  clear hf hs r0 b0 hb hsz
  by_cases h1 : (runE id xs).2 = 0
  rotate_left
  · obtain ⟨n1, n2⟩ := ne_b h1
    have HL := Lib.hid (curE_no (k := k) h1)
    clear h1
    generalize curE id xs k = res at *
    generalize (runE id xs).1 = r1 at *
    generalize (runE id xs).2 = r2 at *
    generalize xs.length = n at *
    go_enter Try.func17, Try.ntmps17
    go_wp2_with fail
    refine (J.out _ HB.out).mono ?_
    rintro e w2 ⟨rfl, hb⟩
    have HB2 := Lib.hid (eb_of HB.out hb (by first | exact Nat.le_refl _ | exact HB.out.size))
    have y0 := (HR.out.below hb (Nat.le_refl _)).c0
    have y1 := (HR.out.below hb (Nat.le_refl _)).c1
    have y2 := (box_below HK.out hb (Nat.le_refl _)).cell
    clear hb x0 x1 x2
    go_wp2_with fail
    go_ret
    exact ⟨by rw [HL.out]; rfl, HB2.out⟩
  rw [h1] at J
  by_cases h2 : k < 0
  · have HL := Lib.hid (curE_out h1 (.inl h2))
    clear h1
    generalize curE id xs k = res at *
    generalize (runE id xs).1 = r1 at *
    generalize (runE id xs).2 = r2 at *
    generalize xs.length = n at *
    go_enter Try.func17, Try.ntmps17
    go_wp2_with fail
    refine (J.out _ HB.out).mono ?_
    rintro e w2 ⟨rfl, hb⟩
    have HB2 := Lib.hid (eb_of HB.out hb (by first | exact Nat.le_refl _ | exact HB.out.size))
    have y0 := (HR.out.below hb (Nat.le_refl _)).c0
    have y1 := (HR.out.below hb (Nat.le_refl _)).c1
    have y2 := (box_below HK.out hb (Nat.le_refl _)).cell
    clear hb x0 x1 x2
    go_wp2_with fail
    go_ret
    exact ⟨by rw [HL.out]; rfl, HB2.out⟩
  have h2' : 0 ≤ k := by omega
  by_cases h3 : (xs.length : Int) < k
  · have HL := Lib.hid (curE_out h1 (.inr h3))
    clear h1
    generalize curE id xs k = res at *
    generalize (runE id xs).1 = r1 at *
    generalize (runE id xs).2 = r2 at *
    generalize xs.length = n at *
    go_enter Try.func17, Try.ntmps17
    go_wp2_with fail
    refine (J.out _ HB.out).mono ?_
    rintro e w2 ⟨rfl, hb⟩
    have HB2 := Lib.hid (eb_of HB.out hb (by first | exact Nat.le_refl _ | exact HB.out.size))
    have y0 := (HR.out.below hb (Nat.le_refl _)).c0
    have y1 := (HR.out.below hb (Nat.le_refl _)).c1
    have y2 := (box_below HK.out hb (Nat.le_refl _)).cell
    clear hb x0 x1 x2
    go_wp2_with fail
    go_ret
    exact ⟨by rw [HL.out]; rfl, HB2.out⟩
  have h3' : k ≤ (xs.length : Int) := by omega
  have HL := Lib.hid (curE_in (k := k) h1 (by omega))
  clear h1
  generalize curE id xs k = res at *
  generalize (runE id xs).1 = r1 at *
  generalize (runE id xs).2 = r2 at *
  generalize xs.length = n at *
  go_enter Try.func17, Try.ntmps17
  go_wp2_with fail
  refine (J.out _ HB.out).mono ?_
  rintro e w2 ⟨rfl, hb⟩
  have HB2 := Lib.hid (eb_of HB.out hb (by first | exact Nat.le_refl _ | exact HB.out.size))
  have y0 := (HR.out.below hb (Nat.le_refl _)).c0
  have y1 := (HR.out.below hb (Nat.le_refl _)).c1
  have y2 := (box_below HK.out hb (Nat.le_refl _)).cell
  clear hb x0 x1 x2
  go_wp2_with fail
  go_ret
  exact ⟨by rw [HL.out]; rfl, HB2.out⟩
set_option maxRecDepth 100000 in
set_option maxHeartbeats 2000000 in
theorem rCur_any (id : Int) (B : Option Addr) (d : Nat) (xs : List El.En) (k : Int) (w : World) (hf : EsAt w B xs) (hn : xs.length ≤ 4294967295) (hs : Sized xs) :
    Calls Try.prog 18 #[.agg #[.int .i64 id, .slice B xs.length d], .agg #[.int .i64 k]] w fun e w' => e = .returned (.int .i64 (curE id xs k)) ∧ Below w.heap.size w w' := by
  obtain ⟨w1, hw1, r0, b0, hsz, hb⟩ := boxUC id B xs.length d k w
  have J := Lib.hid (fun w2 (h : Below w.heap.size w w2) => rCheck8_any id B d xs w2 (hf.below h (Nat.le_refl _)) hn hs)
  have HB := Lib.hid hb
  have HR := Lib.hid r0
  have HK := Lib.hid b0
  have x0 := r0.c0
  have x1 := r0.c1
  have x2 := b0.cell
  clear hf hs r0 b0 hb hsz
  by_cases h1 : (runE id xs).2 = 0
  rotate_left
  · obtain ⟨n1, n2⟩ := ne_b h1
    have HL := Lib.hid (curE_no (k := k) h1)
    clear h1
    generalize curE id xs k = res at *
    generalize (runE id xs).1 = r1 at *
    generalize (runE id xs).2 = r2 at *
    generalize xs.length = n at *
    go_enter Try.func18, Try.ntmps18
    go_wp2_with fail
    refine (J.out _ HB.out).mono ?_
    rintro e w2 ⟨rfl, hb⟩
    have HB2 := Lib.hid (eb_of HB.out hb (by first | exact Nat.le_refl _ | exact HB.out.size))
    have y0 := (HR.out.below hb (Nat.le_refl _)).c0
    have y1 := (HR.out.below hb (Nat.le_refl _)).c1
    have y2 := (box_below HK.out hb (Nat.le_refl _)).cell
    clear hb x0 x1 x2
    go_wp2_with fail
    go_ret
    exact ⟨by rw [HL.out]; rfl, HB2.out⟩
  rw [h1] at J
  by_cases h2 : k < 0
  · have HL := Lib.hid (curE_out h1 (.inl h2))
    clear h1
    generalize curE id xs k = res at *
    generalize (runE id xs).1 = r1 at *
    generalize (runE id xs).2 = r2 at *
    generalize xs.length = n at *
    go_enter Try.func18, Try.ntmps18
    go_wp2_with fail
    refine (J.out _ HB.out).mono ?_
    rintro e w2 ⟨rfl, hb⟩
    have HB2 := Lib.hid (eb_of HB.out hb (by first | exact Nat.le_refl _ | exact HB.out.size))
    have y0 := (HR.out.below hb (Nat.le_refl _)).c0
    have y1 := (HR.out.below hb (Nat.le_refl _)).c1
    have y2 := (box_below HK.out hb (Nat.le_refl _)).cell
    clear hb x0 x1 x2
    go_wp2_with fail
    go_ret
    exact ⟨by rw [HL.out]; rfl, HB2.out⟩
  have h2' : 0 ≤ k := by omega
  by_cases h3 : (xs.length : Int) < k
  · have HL := Lib.hid (curE_out h1 (.inr h3))
    clear h1
    generalize curE id xs k = res at *
    generalize (runE id xs).1 = r1 at *
    generalize (runE id xs).2 = r2 at *
    generalize xs.length = n at *
    go_enter Try.func18, Try.ntmps18
    go_wp2_with fail
    refine (J.out _ HB.out).mono ?_
    rintro e w2 ⟨rfl, hb⟩
    have HB2 := Lib.hid (eb_of HB.out hb (by first | exact Nat.le_refl _ | exact HB.out.size))
    have y0 := (HR.out.below hb (Nat.le_refl _)).c0
    have y1 := (HR.out.below hb (Nat.le_refl _)).c1
    have y2 := (box_below HK.out hb (Nat.le_refl _)).cell
    clear hb x0 x1 x2
    go_wp2_with fail
    go_ret
    exact ⟨by rw [HL.out]; rfl, HB2.out⟩
  have h3' : k ≤ (xs.length : Int) := by omega
  have HL := Lib.hid (curE_in (k := k) h1 (by omega))
  clear h1
  generalize curE id xs k = res at *
  generalize (runE id xs).1 = r1 at *
  generalize (runE id xs).2 = r2 at *
  generalize xs.length = n at *
  go_enter Try.func18, Try.ntmps18
  go_wp2_with fail
  refine (J.out _ HB.out).mono ?_
  rintro e w2 ⟨rfl, hb⟩
  have HB2 := Lib.hid (eb_of HB.out hb (by first | exact Nat.le_refl _ | exact HB.out.size))
  have y0 := (HR.out.below hb (Nat.le_refl _)).c0
  have y1 := (HR.out.below hb (Nat.le_refl _)).c1
  have y2 := (box_below HK.out hb (Nat.le_refl _)).cell
  clear hb x0 x1 x2
  go_wp2_with fail
  go_ret
  exact ⟨by rw [HL.out]; rfl, HB2.out⟩
def firstW (_ : Int) (_ : List El.En) : Int := 0
theorem firstW_no {id : Int} {xs : List El.En} (_ : (runE id xs).2 ≠ 0) : firstW id xs = 0 := rfl
theorem firstW_ok {id : Int} {xs : List El.En} (_ : (runE id xs).2 = 0) : firstW id xs = 0 := rfl
def lastW (id : Int) (xs : List El.En) : Int := if (runE id xs).2 = 0 then (xs.length : Int) else 0
theorem lastW_no {id : Int} {xs : List El.En} (h : (runE id xs).2 ≠ 0) : lastW id xs = 0 := if_neg h
theorem lastW_ok {id : Int} {xs : List El.En} (h : (runE id xs).2 = 0) : lastW id xs = (xs.length : Int) := if_pos h
set_option maxRecDepth 100000 in
set_option maxHeartbeats 2000000 in
theorem pFirst9_any (id : Int) (B : Option Addr) (d : Nat) (xs : List El.En) (w : World) (hf : EsAt w B xs) (hn : xs.length ≤ 4294967295) (hs : Sized xs) :
    Calls Try.prog 13 #[.agg #[.int .i64 id, .slice B xs.length d]] w fun e w' => e = .returned (.tuple #[.agg #[.int .i64 (firstW id xs)], .int .i64 (runE id xs).2]) ∧ Below w.heap.size w w' := by
  obtain ⟨w1, hw1, r0, b0, hsz, hb⟩ := boxUC0 id B xs.length d w
  have J := Lib.hid (fun w2 (h : Below w.heap.size w w2) => pCheck8_any id B d xs w2 (hf.below h (Nat.le_refl _)) hn hs)
  have HB := Lib.hid hb
  have HR := Lib.hid r0
  have HK := Lib.hid b0
  have x0 := r0.c0
  have x1 := r0.c1
  have x2 := b0.cell
  clear hf hs r0 b0 hb hsz
  by_cases h1 : (runE id xs).2 = 0
  rotate_left
  · have HL : Hid (firstW id xs = 0) := Lib.hid (firstW_no h1)
    obtain ⟨n1, n2⟩ := ne_b h1
    clear h1
    generalize firstW id xs = res at *
    generalize (runE id xs).1 = r1 at *
    generalize (runE id xs).2 = r2 at *
    generalize xs.length = n at *
    go_enter Try.func13, Try.ntmps13
    go_wp2_with fail
    refine (J.out _ HB.out).mono ?_
    rintro e w2 ⟨rfl, hb⟩
    have hk := box_below HK.out hb (Nat.le_refl _)
    have HB2 := Lib.hid (eb_of HB.out hb (by first | exact Nat.le_refl _ | exact HB.out.size))
    have HB3 := Lib.hid (HB2.out.setCell (p := ⟨w.heap.size + 1, 0, none⟩) (by simp) (.int .i64 (0)))
    have HZ := Lib.hid (hk.set (.int .i64 (0)))
    have y0 := (HR.out.below hb (Nat.le_refl _)).c0
    have y1 := (HR.out.below hb (Nat.le_refl _)).c1
    have y2 := hk.cell
    have y3 := hk.frozen
    clear hb x0 x1 x2 hk
    go_wp2_with fail
    have z0 := HZ.out.cell
    refine bodyPost_ret (v := .tuple #[.agg #[.int .i64 (0)], .int .i64 r2]) (by simp [results, Try.f13, go_sem, z0]) rfl ?_
    exact ⟨by rw [HL.out], HB3.out⟩
  rw [h1] at J ⊢
  have HL : Hid (firstW id xs = 0) := Lib.hid (firstW_ok h1)
  clear h1
  generalize firstW id xs = res at *
  generalize (runE id xs).1 = r1 at *
  generalize (runE id xs).2 = r2 at *
  generalize xs.length = n at *
  go_enter Try.func13, Try.ntmps13
  go_wp2_with fail
  refine (J.out _ HB.out).mono ?_
  rintro e w2 ⟨rfl, hb⟩
  have hk := box_below HK.out hb (Nat.le_refl _)
  have HB2 := Lib.hid (eb_of HB.out hb (by first | exact Nat.le_refl _ | exact HB.out.size))
  have HB3 := Lib.hid (HB2.out.setCell (p := ⟨w.heap.size + 1, 0, none⟩) (by simp) (.int .i64 (0)))
  have HZ := Lib.hid (hk.set (.int .i64 (0)))
  have y0 := (HR.out.below hb (Nat.le_refl _)).c0
  have y1 := (HR.out.below hb (Nat.le_refl _)).c1
  have y2 := hk.cell
  have y3 := hk.frozen
  clear hb x0 x1 x2 hk
  go_wp2_with fail
  have z0 := HZ.out.cell
  refine bodyPost_ret (v := .tuple #[.agg #[.int .i64 (0)], .int .i64 0]) (by simp [results, Try.f13, go_sem, z0]) rfl ?_
  exact ⟨by rw [HL.out], HB3.out⟩
set_option maxRecDepth 100000 in
set_option maxHeartbeats 2000000 in
theorem pLast9_any (id : Int) (B : Option Addr) (d : Nat) (xs : List El.En) (w : World) (hf : EsAt w B xs) (hn : xs.length ≤ 4294967295) (hs : Sized xs) :
    Calls Try.prog 15 #[.agg #[.int .i64 id, .slice B xs.length d]] w fun e w' => e = .returned (.tuple #[.agg #[.int .i64 (lastW id xs)], .int .i64 (runE id xs).2]) ∧ Below w.heap.size w w' := by
  obtain ⟨w1, hw1, r0, b0, hsz, hb⟩ := boxUC0 id B xs.length d w
  have J := Lib.hid (fun w2 (h : Below w.heap.size w w2) => pCheck8_any id B d xs w2 (hf.below h (Nat.le_refl _)) hn hs)
  have HB := Lib.hid hb
  have HR := Lib.hid r0
  have HK := Lib.hid b0
  have x0 := r0.c0
  have x1 := r0.c1
  have x2 := b0.cell
  clear hf hs r0 b0 hb hsz
  by_cases h1 : (runE id xs).2 = 0
  rotate_left
  · have HL : Hid (lastW id xs = 0) := Lib.hid (lastW_no h1)
    obtain ⟨n1, n2⟩ := ne_b h1
    clear h1
    generalize lastW id xs = res at *
    generalize (runE id xs).1 = r1 at *
    generalize (runE id xs).2 = r2 at *
    generalize xs.length = n at *
    go_enter Try.func15, Try.ntmps15
    go_wp2_with fail
    refine (J.out _ HB.out).mono ?_
    rintro e w2 ⟨rfl, hb⟩
    have hk := box_below HK.out hb (Nat.le_refl _)
    have HB2 := Lib.hid (eb_of HB.out hb (by first | exact Nat.le_refl _ | exact HB.out.size))
    have HB3 := Lib.hid (HB2.out.setCell (p := ⟨w.heap.size + 1, 0, none⟩) (by simp) (.int .i64 (0)))
    have HZ := Lib.hid (hk.set (.int .i64 (0)))
    have y0 := (HR.out.below hb (Nat.le_refl _)).c0
    have y1 := (HR.out.below hb (Nat.le_refl _)).c1
    have y2 := hk.cell
    have y3 := hk.frozen
    clear hb x0 x1 x2 hk
    go_wp2_with fail
    have z0 := HZ.out.cell
    refine bodyPost_ret (v := .tuple #[.agg #[.int .i64 (0)], .int .i64 r2]) (by simp [results, Try.f15, go_sem, z0]) rfl ?_
    exact ⟨by rw [HL.out], HB3.out⟩
  rw [h1] at J ⊢
  have HL : Hid (lastW id xs = (xs.length : Int)) := Lib.hid (lastW_ok h1)
  clear h1
  generalize lastW id xs = res at *
  generalize (runE id xs).1 = r1 at *
  generalize (runE id xs).2 = r2 at *
  generalize xs.length = n at *
  go_enter Try.func15, Try.ntmps15
  go_wp2_with fail
  refine (J.out _ HB.out).mono ?_
  rintro e w2 ⟨rfl, hb⟩
  have hk := box_below HK.out hb (Nat.le_refl _)
  have HB2 := Lib.hid (eb_of HB.out hb (by first | exact Nat.le_refl _ | exact HB.out.size))
  have HB3 := Lib.hid (HB2.out.setCell (p := ⟨w.heap.size + 1, 0, none⟩) (by simp) (.int .i64 (n)))
  have HZ := Lib.hid (hk.set (.int .i64 (n)))
  have y0 := (HR.out.below hb (Nat.le_refl _)).c0
  have y1 := (HR.out.below hb (Nat.le_refl _)).c1
  have y2 := hk.cell
  have y3 := hk.frozen
  clear hb x0 x1 x2 hk
  go_wp2_with fail
  have z0 := HZ.out.cell
  refine bodyPost_ret (v := .tuple #[.agg #[.int .i64 (n)], .int .i64 0]) (by simp [results, Try.f15, go_sem, z0]) rfl ?_
  exact ⟨by rw [HL.out], HB3.out⟩
set_option maxRecDepth 100000 in
set_option maxHeartbeats 2000000 in
theorem rFirst9_any (id : Int) (B : Option Addr) (d : Nat) (xs : List El.En) (w : World) (hf : EsAt w B xs) (hn : xs.length ≤ 4294967295) (hs : Sized xs) :
    Calls Try.prog 14 #[.agg #[.int .i64 id, .slice B xs.length d]] w fun e w' => e = .returned (.tuple #[.agg #[.int .i64 (firstW id xs)], .int .i64 (runE id xs).2]) ∧ Below w.heap.size w w' := by
  obtain ⟨w1, hw1, r0, b0, hsz, hb⟩ := boxUC0 id B xs.length d w
  have J := Lib.hid (fun w2 (h : Below w.heap.size w w2) => rCheck8_any id B d xs w2 (hf.below h (Nat.le_refl _)) hn hs)
  have HB := Lib.hid hb
  have HR := Lib.hid r0
  have HK := Lib.hid b0
  have x0 := r0.c0
  have x1 := r0.c1
  have x2 := b0.cell
  clear hf hs r0 b0 hb hsz
  have HL : Hid (firstW id xs = 0) := Lib.hid (rfl)
  generalize firstW id xs = res at *
  generalize (runE id xs).1 = r1 at *
  generalize (runE id xs).2 = r2 at *
  generalize xs.length = n at *
  go_enter Try.func14, Try.ntmps14
  go_wp2_with fail
  refine (J.out _ HB.out).mono ?_
  rintro e w2 ⟨rfl, hb⟩
  have hk := box_below HK.out hb (Nat.le_refl _)
  have HB2 := Lib.hid (eb_of HB.out hb (by first | exact Nat.le_refl _ | exact HB.out.size))
  have HB3 := Lib.hid (HB2.out.setCell (p := ⟨w.heap.size + 1, 0, none⟩) (by simp) (.int .i64 (0)))
  have HZ := Lib.hid (hk.set (.int .i64 (0)))
  have y0 := (HR.out.below hb (Nat.le_refl _)).c0
  have y1 := (HR.out.below hb (Nat.le_refl _)).c1
  have y2 := hk.cell
  have y3 := hk.frozen
  clear hb x0 x1 x2 hk
  go_wp2_with fail
  have z0 := HZ.out.cell
  refine bodyPost_ret (v := .tuple #[.agg #[.int .i64 (0)], .int .i64 r2]) (by simp [results, Try.f14, go_sem, z0]) rfl ?_
  exact ⟨by rw [HL.out], HB3.out⟩
set_option maxRecDepth 100000 in
set_option maxHeartbeats 2000000 in
theorem rLast9_any (id : Int) (B : Option Addr) (d : Nat) (xs : List El.En) (w : World) (hf : EsAt w B xs) (hn : xs.length ≤ 4294967295) (hs : Sized xs) :
    Calls Try.prog 16 #[.agg #[.int .i64 id, .slice B xs.length d]] w fun e w' => e = .returned (.tuple #[.agg #[.int .i64 (lastW id xs)], .int .i64 (runE id xs).2]) ∧ Below w.heap.size w w' := by
  obtain ⟨w1, hw1, r0, b0, hsz, hb⟩ := boxUC0 id B xs.length d w
  have J := Lib.hid (fun w2 (h : Below w.heap.size w w2) => rCheck8_any id B d xs w2 (hf.below h (Nat.le_refl _)) hn hs)
  have HB := Lib.hid hb
  have HR := Lib.hid r0
  have HK := Lib.hid b0
  have x0 := r0.c0
  have x1 := r0.c1
  have x2 := b0.cell
  clear hf hs r0 b0 hb hsz
  by_cases h1 : (runE id xs).2 = 0
  rotate_left
  · have HL : Hid (lastW id xs = 0) := Lib.hid (lastW_no h1)
    obtain ⟨n1, n2⟩ := ne_b h1
    clear h1
    generalize lastW id xs = res at *
    generalize (runE id xs).1 = r1 at *
    generalize (runE id xs).2 = r2 at *
    generalize xs.length = n at *
    go_enter Try.func16, Try.ntmps16
    go_wp2_with fail
    refine (J.out _ HB.out).mono ?_
    rintro e w2 ⟨rfl, hb⟩
    have hk := box_below HK.out hb (Nat.le_refl _)
    have HB2 := Lib.hid (eb_of HB.out hb (by first | exact Nat.le_refl _ | exact HB.out.size))
    have HB3 := Lib.hid (HB2.out.setCell (p := ⟨w.heap.size + 1, 0, none⟩) (by simp) (.int .i64 (0)))
    have HZ := Lib.hid (hk.set (.int .i64 (0)))
    have y0 := (HR.out.below hb (Nat.le_refl _)).c0
    have y1 := (HR.out.below hb (Nat.le_refl _)).c1
    have y2 := hk.cell
    have y3 := hk.frozen
    clear hb x0 x1 x2 hk
    go_wp2_with fail
    have z0 := HZ.out.cell
    refine bodyPost_ret (v := .tuple #[.agg #[.int .i64 (0)], .int .i64 r2]) (by simp [results, Try.f16, go_sem, z0]) rfl ?_
    exact ⟨by rw [HL.out], HB3.out⟩
  rw [h1] at J ⊢
  have HL : Hid (lastW id xs = (xs.length : Int)) := Lib.hid (lastW_ok h1)
  clear h1
  generalize lastW id xs = res at *
  generalize (runE id xs).1 = r1 at *
  generalize (runE id xs).2 = r2 at *
  generalize xs.length = n at *
  go_enter Try.func16, Try.ntmps16
  go_wp2_with fail
  refine (J.out _ HB.out).mono ?_
  rintro e w2 ⟨rfl, hb⟩
  have hk := box_below HK.out hb (Nat.le_refl _)
  have HB2 := Lib.hid (eb_of HB.out hb (by first | exact Nat.le_refl _ | exact HB.out.size))
  have HB3 := Lib.hid (HB2.out.setCell (p := ⟨w.heap.size + 1, 0, none⟩) (by simp) (.int .i64 (n)))
  have HZ := Lib.hid (hk.set (.int .i64 (n)))
  have y0 := (HR.out.below hb (Nat.le_refl _)).c0
  have y1 := (HR.out.below hb (Nat.le_refl _)).c1
  have y2 := hk.cell
  have y3 := hk.frozen
  clear hb x0 x1 x2 hk
  go_wp2_with fail
  have z0 := HZ.out.cell
  refine bodyPost_ret (v := .tuple #[.agg #[.int .i64 (n)], .int .i64 0]) (by simp [results, Try.f16, go_sem, z0]) rfl ?_
  exact ⟨by rw [HL.out], HB3.out⟩
end Go.Proofs.Yticdechdgpfdfaa.KK
