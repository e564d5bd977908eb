/-
  Walk: Clip on both sides, the reference's Seek.
-/
import Derived.Test.YticdechdgpfdfaaTm
namespace Go.Proofs.Yticdechdgpfdfaa.KK
open Go.ChangeShapes Go.WideShapes Go.ChangeAt Go.RowKit Go.Proofs Go.Sort

theorem boxCl (id : Int) (B : Option Addr) (n d : Nat) (k : Int) (lo hi : ByteArray) (b : Bool) (w : World) : ∃ w1, (((w.alloc (.cells #[.int .i64 id, .slice B n d] 24)).alloc (.cells #[.int .i64 k] 26)).alloc (.cells #[.string lo, .string hi, .bool b] 39)).alloc (.cells #[.int .i64 0] 26) = w1 ∧
    Row2 w1 w.heap.size 24 (.int .i64 id) (.slice B n d) ∧ Boxed w1 (w.heap.size + 1) 26 (.int .i64 k) ∧ Row3 w1 (w.heap.size + 2) 39 (.string lo) (.string hi) (.bool b) ∧ Boxed w1 (w.heap.size + 3) 26 (.int .i64 0) ∧ Below w.heap.size w w1 := by
  obtain ⟨wa, ea, r0, r1, hs, hb⟩ := boxUC id B n d k w
  rw [ea]
  have b0 : Row3 (wa.alloc (.cells #[.string lo, .string hi, .bool b] 39)) wa.heap.size 39 (.string lo) (.string hi) (.bool b) := heap_alloc_new _ _
  have hbb := alloc_below wa (.cells #[.string lo, .string hi, .bool b] 39)
  obtain ⟨wc, ec⟩ : ∃ wc, wa.alloc (.cells #[.string lo, .string hi, .bool b] 39) = wc := ⟨_, rfl⟩
  have hsc : wc.heap.size = wa.heap.size + 1 := by rw [← ec]; simp
  rw [ec] at b0 hbb ⊢
  have c := Boxed.new wc 26 (.int .i64 0)
  have hc := alloc_below wc (.cells #[.int .i64 0] 26)
  refine ⟨_, rfl, ?_, ?_, ?_, ?_, ?_⟩
  · exact (r0.below hbb (Nat.le_refl _)).below hc (Nat.le_refl _)
  · exact box_below (box_below r1 hbb (Nat.le_refl _)) hc (Nat.le_refl _)
  · rw [show w.heap.size + 2 = wa.heap.size by omega]; exact Row3.below b0 hc (Nat.le_refl _)
  · rw [show w.heap.size + 3 = wc.heap.size by omega]; exact c
  · exact eb_of (eb_of hb hbb (by omega)) hc (by omega)
set_option maxRecDepth 100000 in
set_option maxHeartbeats 4000000 in
theorem pClip9_any (id : Int) (B : Option Addr) (d : Nat) (xs : List El.En) (k : Int) (lo hi : ByteArray) (b : Bool) (w : World) (hf : EsAt w B xs) (hn : xs.length ≤ 4294967295) (hs : Sized xs) (hcap : xs.length ≤ d) (hnil : B = none → d = 0) (hlo : lo.size ≤ 9223372036854775807) (hhi : hi.size ≤ 9223372036854775807) :
    Calls Try.prog 25 #[.agg #[.int .i64 id, .slice B xs.length d], .agg #[.int .i64 k], .agg #[.string lo, .string hi, .bool b]] w fun e w' => e = .returned (.tuple #[.agg #[.int .i64 (clpE id xs k lo hi b).1], .int .i64 (clpE id xs k lo hi b).2]) ∧ Below w.heap.size w w' := by
  obtain ⟨w0, hw0, r0, b0, r3, b2, hb⟩ := boxCl id B xs.length d k lo hi b w
  have J1 := Lib.hid (fun w2 (h : Below w.heap.size w w2) => pCur_any id B d xs k w2 (hf.below h (Nat.le_refl _)) hn hs)
  have J2 := Lib.hid (fun w2 (h : Below w.heap.size w w2) => pPart8_any id B d xs lo hi b w2 (hf.below h (Nat.le_refl _)) hn hs hcap hnil hlo hhi)
  have J3 := Lib.hid (fun w2 => rCheckRange_any lo hi b w2 hlo hhi)
  have HB := Lib.hid hb
  have RU := Lib.hid r0
  have RK := Lib.hid b0
  have RX := Lib.hid r3
  have RZ := Lib.hid b2
  have LZ : Hid (w.heap.size + 1 ≤ w.heap.size + 3) := Lib.hid (by omega)
  have x0 := r0.c0
  have x1 := r0.c1
  have x2 := b0.cell
  have x3 := r3.c0
  have x4 := r3.c1
  have x5 := r3.c2
  clear hf hs r0 b0 r3 b2 hb hcap hnil
  by_cases h1 : curE id xs k = 0
  rotate_left
  · have HL := Lib.hid (clpE_no (lo := lo) (hi := hi) (b := b) h1)
    obtain ⟨n1, n2⟩ := ne_b h1
    clear h1 J2 J3
    generalize clpE id xs k lo hi b = res at *
    generalize curE id xs k = r2 at *
    generalize xs.length = n at *
    go_enter Try.func25, Try.ntmps25
    go_wp2_with fail
    clear x0 x1 x2 x3 x4 x5
    refine (J1.out _ HB.out).mono ?_
    rintro e w1 ⟨rfl, hb⟩
    have HB1 := Lib.hid (eb_of HB.out hb (by first | exact Nat.le_refl _ | exact HB.out.size))
    have RU_1 := Lib.hid (Row2.below RU.out hb (Nat.le_refl _))
    have RK_1 := Lib.hid (box_below RK.out hb (Nat.le_refl _))
    have RX_1 := Lib.hid (Row3.below RX.out hb (Nat.le_refl _))
    have RZ_1 := Lib.hid (box_below RZ.out hb (Nat.le_refl _))
    clear RU RK RX RZ
    clear hb
    have cU0 := RU_1.out.c0
    have cU1 := RU_1.out.c1
    have cK := RK_1.out.cell
    have fK := RK_1.out.frozen
    have cX0 := RX_1.out.c0
    have cX1 := RX_1.out.c1
    have cX2 := RX_1.out.c2
    have cZ := RZ_1.out.cell
    have fZ := RZ_1.out.frozen
    have HB2 := Lib.hid (HB1.out.setCell (p := ⟨(w.heap.size + 3), 0, none⟩) (by show w.heap.size ≤ (w.heap.size + 3); have := LZ.out; omega) (.int .i64 (0)))
    have RZ_2 := Lib.hid (Boxed.set (.int .i64 (0)) RZ_1.out)
    clear HB1 RZ_1
    go_wp2_with fail
    have z0 := RZ_2.out.cell
    refine bodyPost_ret (v := .tuple #[.agg #[.int .i64 (0)], .int .i64 r2]) (by simp [results, Try.f25, go_sem, z0]) rfl ?_
    exact ⟨by rw [HL.out], HB2.out⟩
  obtain ⟨hr, m, rfl, hm⟩ := curE_zero h1
  rw [h1] at J1
  by_cases h2 : chkR lo hi b = 0
  rotate_left
  · have HL := Lib.hid (clpE_form h1 h2)
    rw [partR_form hr h2] at J2
    obtain ⟨n1, n2⟩ := ne_b h2
    clear h1 h2 hr
    generalize clpE id xs m lo hi b = res at *
    generalize chkR lo hi b = r2 at *
    generalize xs.length = n at *
    go_enter Try.func25, Try.ntmps25
    go_wp2_with fail
    clear x0 x1 x2 x3 x4 x5
    refine (J1.out _ HB.out).mono ?_
    rintro e w1 ⟨rfl, hb⟩
    have HB1 := Lib.hid (eb_of HB.out hb (by first | exact Nat.le_refl _ | exact HB.out.size))
    have RU_1 := Lib.hid (Row2.below RU.out hb (Nat.le_refl _))
    have RK_1 := Lib.hid (box_below RK.out hb (Nat.le_refl _))
    have RX_1 := Lib.hid (Row3.below RX.out hb (Nat.le_refl _))
    have RZ_1 := Lib.hid (box_below RZ.out hb (Nat.le_refl _))
    clear RU RK RX RZ
    clear hb
    have cU0 := RU_1.out.c0
    have cU1 := RU_1.out.c1
    have cK := RK_1.out.cell
    have fK := RK_1.out.frozen
    have cX0 := RX_1.out.c0
    have cX1 := RX_1.out.c1
    have cX2 := RX_1.out.c2
    go_wp2_with fail
    clear cU0 cU1 cK fK cX0 cX1 cX2
    refine (J2.out _ HB1.out).mono ?_
    rintro e w2 ⟨rfl, hb⟩
    have HB2 := Lib.hid (eb_of HB1.out hb (by first | exact Nat.le_refl _ | exact HB1.out.size))
    have RU_2 := Lib.hid (Row2.below RU_1.out hb (Nat.le_refl _))
    have RK_2 := Lib.hid (box_below RK_1.out hb (Nat.le_refl _))
    have RX_2 := Lib.hid (Row3.below RX_1.out hb (Nat.le_refl _))
    have RZ_2 := Lib.hid (box_below RZ_1.out hb (Nat.le_refl _))
    clear HB1 RU_1 RK_1 RX_1 RZ_1
    clear hb
    have cU0 := RU_2.out.c0
    have cU1 := RU_2.out.c1
    have cK := RK_2.out.cell
    have fK := RK_2.out.frozen
    have cX0 := RX_2.out.c0
    have cX1 := RX_2.out.c1
    have cX2 := RX_2.out.c2
    have cZ := RZ_2.out.cell
    have fZ := RZ_2.out.frozen
    have HB3 := Lib.hid (HB2.out.setCell (p := ⟨(w.heap.size + 3), 0, none⟩) (by show w.heap.size ≤ (w.heap.size + 3); have := LZ.out; omega) (.int .i64 (0)))
    have RZ_3 := Lib.hid (Boxed.set (.int .i64 (0)) RZ_2.out)
    clear HB2 RZ_2
    go_wp2_with fail
    have z0 := RZ_3.out.cell
    refine bodyPost_ret (v := .tuple #[.agg #[.int .i64 (0)], .int .i64 r2]) (by simp [results, Try.f25, go_sem, z0]) rfl ?_
    exact ⟨by rw [HL.out], HB3.out⟩
  have HL := Lib.hid (clpE_ok h1 h2)
  rw [partR_ok hr h2] at J2
  rw [h2] at J3
  clear h1 h2 hr
  generalize clpE id xs m lo hi b = res at *
  generalize ((inN xs lo : Nat) : Int) = fr at *
  generalize ((toN xs lo hi b : Nat) : Int) = tt at *
  generalize xs.length = n at *
  go_enter Try.func25, Try.ntmps25
  go_wp2_with fail
  clear x0 x1 x2 x3 x4 x5
  refine (J1.out _ HB.out).mono ?_
  rintro e w1 ⟨rfl, hb⟩
  have HB1 := Lib.hid (eb_of HB.out hb (by first | exact Nat.le_refl _ | exact HB.out.size))
  have RU_1 := Lib.hid (Row2.below RU.out hb (Nat.le_refl _))
  have RK_1 := Lib.hid (box_below RK.out hb (Nat.le_refl _))
  have RX_1 := Lib.hid (Row3.below RX.out hb (Nat.le_refl _))
  have RZ_1 := Lib.hid (box_below RZ.out hb (Nat.le_refl _))
  clear RU RK RX RZ
  clear hb
  have cU0 := RU_1.out.c0
  have cU1 := RU_1.out.c1
  have cK := RK_1.out.cell
  have fK := RK_1.out.frozen
  have cX0 := RX_1.out.c0
  have cX1 := RX_1.out.c1
  have cX2 := RX_1.out.c2
  go_wp2_with fail
  clear cU0 cU1 cK fK cX0 cX1 cX2
  refine (J2.out _ HB1.out).mono ?_
  rintro e w2 ⟨rfl, hb⟩
  have HB2 := Lib.hid (eb_of HB1.out hb (by first | exact Nat.le_refl _ | exact HB1.out.size))
  have RU_2 := Lib.hid (Row2.below RU_1.out hb (Nat.le_refl _))
  have RK_2 := Lib.hid (box_below RK_1.out hb (Nat.le_refl _))
  have RX_2 := Lib.hid (Row3.below RX_1.out hb (Nat.le_refl _))
  have RZ_2 := Lib.hid (box_below RZ_1.out hb (Nat.le_refl _))
  clear HB1 RU_1 RK_1 RX_1 RZ_1
  clear hb
  have cU0 := RU_2.out.c0
  have cU1 := RU_2.out.c1
  have cK := RK_2.out.cell
  have fK := RK_2.out.frozen
  have cX0 := RX_2.out.c0
  have cX1 := RX_2.out.c1
  have cX2 := RX_2.out.c2
  have cZ := RZ_2.out.cell
  have fZ := RZ_2.out.frozen
  have HB3 := Lib.hid (HB2.out.setCell (p := ⟨(w.heap.size + 3), 0, none⟩) (by show w.heap.size ≤ (w.heap.size + 3); have := LZ.out; omega) (.int .i64 (min (max (m : Int) fr) tt)))
  have RZ_3 := Lib.hid (Boxed.set (.int .i64 (min (max (m : Int) fr) tt)) RZ_2.out)
  clear HB2 RZ_2
  go_wp2_with fail
  have z0 := RZ_3.out.cell
  refine bodyPost_ret (v := .tuple #[.agg #[.int .i64 (min (max (m : Int) fr) tt)], .int .i64 0]) (by simp [results, Try.f25, go_sem, z0]) rfl ?_
  exact ⟨by rw [HL.out], HB3.out⟩
set_option maxRecDepth 100000 in
set_option maxHeartbeats 4000000 in
theorem rClip9_any (id : Int) (B : Option Addr) (d : Nat) (xs : List El.En) (k : Int) (lo hi : ByteArray) (b : Bool) (w : World) (hf : EsAt w B xs) (hn : xs.length ≤ 4294967295) (hs : Sized xs) (hlo : lo.size ≤ 9223372036854775807) (hhi : hi.size ≤ 9223372036854775807) :
    Calls Try.prog 26 #[.agg #[.int .i64 id, .slice B xs.length d], .agg #[.int .i64 k], .agg #[.string lo, .string hi, .bool b]] w fun e w' => e = .returned (.tuple #[.agg #[.int .i64 (clpE id xs k lo hi b).1], .int .i64 (clpE id xs k lo hi b).2]) ∧ Below w.heap.size w w' := by
  obtain ⟨w0, hw0, r0, b0, r3, b2, hb⟩ := boxCl id B xs.length d k lo hi b w
  have J1 := Lib.hid (fun w2 (h : Below w.heap.size w w2) => rCur_any id B d xs k w2 (hf.below h (Nat.le_refl _)) hn hs)
  have J2 := Lib.hid (fun w2 (h : Below w.heap.size w w2) => rPart8_any id B d xs lo hi b w2 (hf.below h (Nat.le_refl _)) hn hs hlo hhi)
  have J3 := Lib.hid (fun w2 => rCheckRange_any lo hi b w2 hlo hhi)
  have HB := Lib.hid hb
  have RU := Lib.hid r0
  have RK := Lib.hid b0
  have RX := Lib.hid r3
  have RZ := Lib.hid b2
  have LZ : Hid (w.heap.size + 1 ≤ w.heap.size + 3) := Lib.hid (by omega)
  have x0 := r0.c0
  have x1 := r0.c1
  have x2 := b0.cell
  have x3 := r3.c0
  have x4 := r3.c1
  have x5 := r3.c2
  clear hf hs r0 b0 r3 b2 hb
  by_cases h1 : curE id xs k = 0
  rotate_left
  · have HL := Lib.hid (clpE_no (lo := lo) (hi := hi) (b := b) h1)
    obtain ⟨n1, n2⟩ := ne_b h1
    clear h1 J2 J3
    generalize clpE id xs k lo hi b = res at *
    generalize curE id xs k = r2 at *
    generalize xs.length = n at *
    go_enter Try.func26, Try.ntmps26
    go_wp2_with fail
    clear x0 x1 x2 x3 x4 x5
    refine (J1.out _ HB.out).mono ?_
    rintro e w1 ⟨rfl, hb⟩
    have HB1 := Lib.hid (eb_of HB.out hb (by first | exact Nat.le_refl _ | exact HB.out.size))
    have RU_1 := Lib.hid (Row2.below RU.out hb (Nat.le_refl _))
    have RK_1 := Lib.hid (box_below RK.out hb (Nat.le_refl _))
    have RX_1 := Lib.hid (Row3.below RX.out hb (Nat.le_refl _))
    have RZ_1 := Lib.hid (box_below RZ.out hb (Nat.le_refl _))
    clear RU RK RX RZ
    clear hb
    have cU0 := RU_1.out.c0
    have cU1 := RU_1.out.c1
    have cK := RK_1.out.cell
    have fK := RK_1.out.frozen
    have cX0 := RX_1.out.c0
    have cX1 := RX_1.out.c1
    have cX2 := RX_1.out.c2
    have cZ := RZ_1.out.cell
    have fZ := RZ_1.out.frozen
    have HB2 := Lib.hid (HB1.out.setCell (p := ⟨(w.heap.size + 3), 0, none⟩) (by show w.heap.size ≤ (w.heap.size + 3); have := LZ.out; omega) (.int .i64 (0)))
    have RZ_2 := Lib.hid (Boxed.set (.int .i64 (0)) RZ_1.out)
    clear HB1 RZ_1
    go_wp2_with fail
    have z0 := RZ_2.out.cell
    refine bodyPost_ret (v := .tuple #[.agg #[.int .i64 (0)], .int .i64 r2]) (by simp [results, Try.f26, go_sem, z0]) rfl ?_
    exact ⟨by rw [HL.out], HB2.out⟩
  obtain ⟨hr, m, rfl, hm⟩ := curE_zero h1
  rw [h1] at J1
  by_cases h2 : chkR lo hi b = 0
  rotate_left
  · have HL := Lib.hid (clpE_form h1 h2)
    rw [partR_form hr h2] at J2
    obtain ⟨n1, n2⟩ := ne_b h2
    clear h1 h2 hr
    generalize clpE id xs m lo hi b = res at *
    generalize chkR lo hi b = r2 at *
    generalize xs.length = n at *
    go_enter Try.func26, Try.ntmps26
    go_wp2_with fail
    clear x0 x1 x2 x3 x4 x5
    refine (J1.out _ HB.out).mono ?_
    rintro e w1 ⟨rfl, hb⟩
    have HB1 := Lib.hid (eb_of HB.out hb (by first | exact Nat.le_refl _ | exact HB.out.size))
    have RU_1 := Lib.hid (Row2.below RU.out hb (Nat.le_refl _))
    have RK_1 := Lib.hid (box_below RK.out hb (Nat.le_refl _))
    have RX_1 := Lib.hid (Row3.below RX.out hb (Nat.le_refl _))
    have RZ_1 := Lib.hid (box_below RZ.out hb (Nat.le_refl _))
    clear RU RK RX RZ
    clear hb
    have cU0 := RU_1.out.c0
    have cU1 := RU_1.out.c1
    have cK := RK_1.out.cell
    have fK := RK_1.out.frozen
    have cX0 := RX_1.out.c0
    have cX1 := RX_1.out.c1
    have cX2 := RX_1.out.c2
    go_wp2_with fail
    clear cU0 cU1 cK fK cX0 cX1 cX2
    refine (J3.out _).mono ?_
    rintro e w2 ⟨rfl, hb⟩
    have HB2 := Lib.hid (eb_of HB1.out hb (by first | exact Nat.le_refl _ | exact HB1.out.size))
    have RU_2 := Lib.hid (Row2.below RU_1.out hb (Nat.le_refl _))
    have RK_2 := Lib.hid (box_below RK_1.out hb (Nat.le_refl _))
    have RX_2 := Lib.hid (Row3.below RX_1.out hb (Nat.le_refl _))
    have RZ_2 := Lib.hid (box_below RZ_1.out hb (Nat.le_refl _))
    clear HB1 RU_1 RK_1 RX_1 RZ_1
    clear hb
    have cU0 := RU_2.out.c0
    have cU1 := RU_2.out.c1
    have cK := RK_2.out.cell
    have fK := RK_2.out.frozen
    have cX0 := RX_2.out.c0
    have cX1 := RX_2.out.c1
    have cX2 := RX_2.out.c2
    have cZ := RZ_2.out.cell
    have fZ := RZ_2.out.frozen
    have HB3 := Lib.hid (HB2.out.setCell (p := ⟨(w.heap.size + 3), 0, none⟩) (by show w.heap.size ≤ (w.heap.size + 3); have := LZ.out; omega) (.int .i64 (0)))
    have RZ_3 := Lib.hid (Boxed.set (.int .i64 (0)) RZ_2.out)
    clear HB2 RZ_2
    go_wp2_with fail
    have z0 := RZ_3.out.cell
    refine bodyPost_ret (v := .tuple #[.agg #[.int .i64 (0)], .int .i64 r2]) (by simp [results, Try.f26, go_sem, z0]) rfl ?_
    exact ⟨by rw [HL.out], HB3.out⟩
  have HL := Lib.hid (clpE_ok h1 h2)
  rw [partR_ok hr h2] at J2
  rw [h2] at J3
  clear h1 h2 hr
  generalize clpE id xs m lo hi b = res at *
  generalize ((inN xs lo : Nat) : Int) = fr at *
  generalize ((toN xs lo hi b : Nat) : Int) = tt at *
  generalize xs.length = n at *
  go_enter Try.func26, Try.ntmps26
  go_wp2_with fail
  clear x0 x1 x2 x3 x4 x5
  refine (J1.out _ HB.out).mono ?_
  rintro e w1 ⟨rfl, hb⟩
  have HB1 := Lib.hid (eb_of HB.out hb (by first | exact Nat.le_refl _ | exact HB.out.size))
  have RU_1 := Lib.hid (Row2.below RU.out hb (Nat.le_refl _))
  have RK_1 := Lib.hid (box_below RK.out hb (Nat.le_refl _))
  have RX_1 := Lib.hid (Row3.below RX.out hb (Nat.le_refl _))
  have RZ_1 := Lib.hid (box_below RZ.out hb (Nat.le_refl _))
  clear RU RK RX RZ
  clear hb
  have cU0 := RU_1.out.c0
  have cU1 := RU_1.out.c1
  have cK := RK_1.out.cell
  have fK := RK_1.out.frozen
  have cX0 := RX_1.out.c0
  have cX1 := RX_1.out.c1
  have cX2 := RX_1.out.c2
  go_wp2_with fail
  clear cU0 cU1 cK fK cX0 cX1 cX2
  refine (J3.out _).mono ?_
  rintro e w2 ⟨rfl, hb⟩
  have HB2 := Lib.hid (eb_of HB1.out hb (by first | exact Nat.le_refl _ | exact HB1.out.size))
  have RU_2 := Lib.hid (Row2.below RU_1.out hb (Nat.le_refl _))
  have RK_2 := Lib.hid (box_below RK_1.out hb (Nat.le_refl _))
  have RX_2 := Lib.hid (Row3.below RX_1.out hb (Nat.le_refl _))
  have RZ_2 := Lib.hid (box_below RZ_1.out hb (Nat.le_refl _))
  clear HB1 RU_1 RK_1 RX_1 RZ_1
  clear hb
  have cU0 := RU_2.out.c0
  have cU1 := RU_2.out.c1
  have cK := RK_2.out.cell
  have fK := RK_2.out.frozen
  have cX0 := RX_2.out.c0
  have cX1 := RX_2.out.c1
  have cX2 := RX_2.out.c2
  go_wp2_with fail
  clear cU0 cU1 cK fK cX0 cX1 cX2
  refine (J2.out _ HB2.out).mono ?_
  rintro e w3 ⟨rfl, hb⟩
  have HB3 := Lib.hid (eb_of HB2.out hb (by first | exact Nat.le_refl _ | exact HB2.out.size))
  have RU_3 := Lib.hid (Row2.below RU_2.out hb (Nat.le_refl _))
  have RK_3 := Lib.hid (box_below RK_2.out hb (Nat.le_refl _))
  have RX_3 := Lib.hid (Row3.below RX_2.out hb (Nat.le_refl _))
  have RZ_3 := Lib.hid (box_below RZ_2.out hb (Nat.le_refl _))
  clear HB2 RU_2 RK_2 RX_2 RZ_2
  clear hb
  have cU0 := RU_3.out.c0
  have cU1 := RU_3.out.c1
  have cK := RK_3.out.cell
  have fK := RK_3.out.frozen
  have cX0 := RX_3.out.c0
  have cX1 := RX_3.out.c1
  have cX2 := RX_3.out.c2
  have cZ := RZ_3.out.cell
  have fZ := RZ_3.out.frozen
  have HB4 := Lib.hid (HB3.out.setCell (p := ⟨(w.heap.size + 3), 0, none⟩) (by show w.heap.size ≤ (w.heap.size + 3); have := LZ.out; omega) (.int .i64 (min (max (m : Int) fr) tt)))
  have RZ_4 := Lib.hid (Boxed.set (.int .i64 (min (max (m : Int) fr) tt)) RZ_3.out)
  clear HB3 RZ_3
  go_wp2_with fail
  have z0 := RZ_4.out.cell
  refine bodyPost_ret (v := .tuple #[.agg #[.int .i64 (min (max (m : Int) fr) tt)], .int .i64 0]) (by simp [results, Try.f26, go_sem, z0]) rfl ?_
  exact ⟨by rw [HL.out], HB4.out⟩
end Go.Proofs.Yticdechdgpfdfaa.KK
