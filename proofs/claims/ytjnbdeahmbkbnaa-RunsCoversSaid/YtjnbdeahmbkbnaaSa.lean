/-
  RunsParts: the walk.
-/
import Derived.Test.YtjnbdeahmbkbnaaRx
namespace Go.Proofs.Ytjnbdeahmbkbnaa.KK
open Go.ChangeShapes Go.WideShapes Go.ChangeAt Go.RowKit Go.Proofs

/-- two runs and a range in boxes -/
theorem boxUUR (ia : Int) (A : Option Addr) (na c : Nat) (ib : Int) (B : Option Addr) (nb d : Nat) (lo hi : ByteArray) (bd : Bool) (w : World) : Hid (∀ w', Below (((w.alloc (.cells #[.int .i64 ia, .slice A na c] 24)).alloc (.cells #[.int .i64 ib, .slice B nb d] 24)).alloc (.cells #[.string lo, .string hi, .bool bd] 37)).heap.size (((w.alloc (.cells #[.int .i64 ia, .slice A na c] 24)).alloc (.cells #[.int .i64 ib, .slice B nb d] 24)).alloc (.cells #[.string lo, .string hi, .bool bd] 37)) w' → w'.cell? ⟨w.heap.size, 0, none⟩ = some (.int .i64 ia) ∧ w'.cell? ⟨w.heap.size, 1, none⟩ = some (.slice A na c) ∧ w'.cell? ⟨w.heap.size + 1, 0, none⟩ = some (.int .i64 ib) ∧ w'.cell? ⟨w.heap.size + 1, 1, none⟩ = some (.slice B nb d) ∧ w'.cell? ⟨w.heap.size + 2, 0, none⟩ = some (.string lo) ∧ w'.cell? ⟨w.heap.size + 2, 1, none⟩ = some (.string hi) ∧ w'.cell? ⟨w.heap.size + 2, 2, none⟩ = some (.bool bd) ∧ w.heap.size + 3 ≤ w'.heap.size ∧ Below w.heap.size w w') := Lib.hid (fun w' h => by
  have hb0 := alloc_below ((w.alloc (.cells #[.int .i64 ia, .slice A na c] 24)).alloc (.cells #[.int .i64 ib, .slice B nb d] 24)) (.cells #[.string lo, .string hi, .bool bd] 37)
  obtain ⟨x0, x1, x2, x3, x4, x5⟩ := (boxUU ia A na c ib B nb d w).out _ (hb0.trans (h.mono (by simp)))
  have r1 := (Row3.new ((w.alloc (.cells #[.int .i64 ia, .slice A na c] 24)).alloc (.cells #[.int .i64 ib, .slice B nb d] 24)) 37 (.string lo) (.string hi) (.bool bd)).below h (Nat.le_refl _)
  rw [show ((w.alloc (.cells #[.int .i64 ia, .slice A na c] 24)).alloc (.cells #[.int .i64 ib, .slice B nb d] 24)).heap.size = w.heap.size + 2 by simp] at r1
  exact ⟨x0, x1, x2, x3, r1.c0, r1.c1, r1.c2, by have := h.size; simp at this; omega, x5⟩)
set_option maxRecDepth 100000 in
set_option maxHeartbeats 8000000 in
theorem Parts8_any (ia : Int) (A : Option Addr) (c : Nat) (xs : List El.En) (ib : Int) (B : Option Addr) (d : Nat) (ys : List El.En) (lo hi : ByteArray) (bd : Bool) (w : World) (hf : EsAt w A xs) (hn : xs.length ≤ 9223372036854775807) (hs : Sized xs) (hcap : xs.length ≤ c) (hnil : A = none → c = 0) (hg : EsAt w B ys) (hm : ys.length ≤ 9223372036854775807) (ht : Sized ys) (hcap2 : ys.length ≤ d) (hnil2 : B = none → d = 0) (hlo : lo.size ≤ 9223372036854775807) (hhi : hi.size ≤ 9223372036854775807) :
    Calls Try.prog 4 #[.agg #[.int .i64 ia, .slice A xs.length c], .agg #[.int .i64 ib, .slice B ys.length d], .agg #[.string lo, .string hi, .bool bd]] w fun e w' => e = .returned (.bool true) ∧ Below w.heap.size w w' := by
  have HX := boxUUR ia A xs.length c ib B ys.length d lo hi bd w
  obtain ⟨x0, x1, x2, x3, x4, x5, x6, x7, x8⟩ := HX.out _ (Below.refl _ _)
  have HB := Lib.hid x8
  have JA := Lib.hid (fun w1 (h : Below w.heap.size w w1) => far8_any ia A c xs w1 (hf.below h (Nat.le_refl _)) hn hs)
  have JB := Lib.hid (fun w1 (h : Below w.heap.size w w1) => far8_any ib B d ys w1 (hg.below h (Nat.le_refl _)) hm ht)
  have JW := Lib.hid (fun w => awake8_any w)
  clear x7 x8
  cases hfa : farF xs with
  | true =>
    rw [hfa] at JA
    clear hfa hf hs hcap hnil hg ht hcap2 hnil2
    generalize xs.length = n at *
    generalize ys.length = m at *
    go_enter Try.func4, Try.ntmps4
    go_wp2_with fail
    refine (JA.out _ HB.out).mono ?_
    rintro e w0 ⟨rfl, hb⟩
    have HC0 := Lib.hid hb
    clear hb x0 x1 x2 x3 x4 x5 x6
    obtain ⟨y0, y1, y2, y3, y4, y5, y6, y7, y8⟩ := HX.out _ HC0.out
    have HB0 := Lib.hid y8
    clear y8
    go_wp2_with fail
    refine (JW.out _).mono ?_
    rintro e w99 ⟨rfl, hb⟩
    have HB99 := Lib.hid (eb_of HB0.out hb (Nat.le_refl _))
    clear hb
    go_wp2_with fail
    go_ret
    exact ⟨by first | rfl | (simp; done), HB99.out⟩
  | false =>
  have hl5 := far_len hfa
  rw [hfa] at JA
  clear hfa
  cases hfb : farF ys with
  | true =>
    rw [hfb] at JB
    clear hfb hf hs hcap hnil hg ht hcap2 hnil2 hl5
    generalize xs.length = n at *
    generalize ys.length = m at *
    go_enter Try.func4, Try.ntmps4
    go_wp2_with fail
    refine (JA.out _ HB.out).mono ?_
    rintro e w0 ⟨rfl, hb⟩
    have HC0 := Lib.hid hb
    clear hb x0 x1 x2 x3 x4 x5 x6
    obtain ⟨y0, y1, y2, y3, y4, y5, y6, y7, y8⟩ := HX.out _ HC0.out
    have HB0 := Lib.hid y8
    clear y8
    go_wp2_with fail
    refine (JB.out _ HB0.out).mono ?_
    rintro e w1 ⟨rfl, hb⟩
    have HC1 := Lib.hid (eb_of HC0.out hb (Nat.le_refl _))
    clear hb y0 y1 y2 y3 y4 y5 y6 y7
    obtain ⟨y0, y1, y2, y3, y4, y5, y6, y7, y8⟩ := HX.out _ HC1.out
    have HB1 := Lib.hid y8
    clear y8
    go_wp2_with fail
    refine (JW.out _).mono ?_
    rintro e w99 ⟨rfl, hb⟩
    have HB99 := Lib.hid (eb_of HB1.out hb (Nat.le_refl _))
    clear hb
    go_wp2_with fail
    go_ret
    exact ⟨by first | rfl | (simp; done), HB99.out⟩
  | false =>
  have hm5 := far_len hfb
  rw [hfb] at JB
  clear hfb
  by_cases hk1 : 100 < lo.size
  · have hk1' : (100 : Int) < (lo.size : Int) := by omega
    clear hk1 hf hs hcap hnil hg ht hcap2 hnil2 hl5 hm5
    generalize xs.length = n at *
    generalize ys.length = m at *
    go_enter Try.func4, Try.ntmps4
    go_wp2_with fail
    refine (JA.out _ HB.out).mono ?_
    rintro e w0 ⟨rfl, hb⟩
    have HC0 := Lib.hid hb
    clear hb x0 x1 x2 x3 x4 x5 x6
    obtain ⟨y0, y1, y2, y3, y4, y5, y6, y7, y8⟩ := HX.out _ HC0.out
    have HB0 := Lib.hid y8
    clear y8
    go_wp2_with fail
    refine (JB.out _ HB0.out).mono ?_
    rintro e w1 ⟨rfl, hb⟩
    have HC1 := Lib.hid (eb_of HC0.out hb (Nat.le_refl _))
    clear hb y0 y1 y2 y3 y4 y5 y6 y7
    obtain ⟨y0, y1, y2, y3, y4, y5, y6, y7, y8⟩ := HX.out _ HC1.out
    have HB1 := Lib.hid y8
    clear y8
    go_wp2_with fail
    refine (JW.out _).mono ?_
    rintro e w99 ⟨rfl, hb⟩
    have HB99 := Lib.hid (eb_of HB1.out hb (Nat.le_refl _))
    clear hb
    go_wp2_with fail
    go_ret
    exact ⟨by first | rfl | (simp; done), HB99.out⟩
  by_cases hk2 : 100 < hi.size
  · have hk1' : ¬ (100 : Int) < (lo.size : Int) := by omega
    have hk2' : (100 : Int) < (hi.size : Int) := by omega
    clear hk1 hk2 hf hs hcap hnil hg ht hcap2 hnil2 hl5 hm5
    generalize xs.length = n at *
    generalize ys.length = m at *
    go_enter Try.func4, Try.ntmps4
    go_wp2_with fail
    refine (JA.out _ HB.out).mono ?_
    rintro e w0 ⟨rfl, hb⟩
    have HC0 := Lib.hid hb
    clear hb x0 x1 x2 x3 x4 x5 x6
    obtain ⟨y0, y1, y2, y3, y4, y5, y6, y7, y8⟩ := HX.out _ HC0.out
    have HB0 := Lib.hid y8
    clear y8
    go_wp2_with fail
    refine (JB.out _ HB0.out).mono ?_
    rintro e w1 ⟨rfl, hb⟩
    have HC1 := Lib.hid (eb_of HC0.out hb (Nat.le_refl _))
    clear hb y0 y1 y2 y3 y4 y5 y6 y7
    obtain ⟨y0, y1, y2, y3, y4, y5, y6, y7, y8⟩ := HX.out _ HC1.out
    have HB1 := Lib.hid y8
    clear y8
    go_wp2_with fail
    refine (JW.out _).mono ?_
    rintro e w99 ⟨rfl, hb⟩
    have HB99 := Lib.hid (eb_of HB1.out hb (Nat.le_refl _))
    clear hb
    go_wp2_with fail
    go_ret
    exact ⟨by first | rfl | (simp; done), HB99.out⟩
  have hk1' : ¬ (100 : Int) < (lo.size : Int) := by omega
  have hk2' : ¬ (100 : Int) < (hi.size : Int) := by omega
  have hn5 : xs.length ≤ 4294967295 := by omega
  have hm5' : ys.length ≤ 4294967295 := by omega
  have J1 := Lib.hid (fun w1 (h : Below w.heap.size w w1) => pPart8_any ia A c xs lo hi bd w1 (hf.below h (Nat.le_refl _)) hn5 hs hcap hnil hlo hhi)
  have J2 := Lib.hid (fun w1 (h : Below w.heap.size w w1) => rPart8_any ia A c xs lo hi bd w1 (hf.below h (Nat.le_refl _)) hn5 hs hlo hhi)
  have J3 := Lib.hid (fun w1 (h : Below w.heap.size w w1) => pCount8_any ia A c xs lo hi bd w1 (hf.below h (Nat.le_refl _)) hn5 hs hcap hnil hlo hhi)
  have J4 := Lib.hid (fun w1 (h : Below w.heap.size w w1) => rCount8_any ia A c xs lo hi bd w1 (hf.below h (Nat.le_refl _)) hn5 hs hlo hhi)
  have J5 := Lib.hid (fun w1 (h : Below w.heap.size w w1) => pCover8_any ia A c xs w1 (hf.below h (Nat.le_refl _)) hn5 hs)
  have J6 := Lib.hid (fun w1 (h : Below w.heap.size w w1) => rCover8_any ia A c xs w1 (hf.below h (Nat.le_refl _)) hn5 hs)
  have J7 := Lib.hid (fun w1 (h : Below w.heap.size w w1) => pOver8_any ia A c xs ib B d ys w1 (hf.below h (Nat.le_refl _)) hn5 hs (hg.below h (Nat.le_refl _)) hm5' ht)
  have J8 := Lib.hid (fun w1 (h : Below w.heap.size w w1) => rOver8_any ia A c xs ib B d ys w1 (hf.below h (Nat.le_refl _)) hn5 hs (hg.below h (Nat.le_refl _)) hm5' ht)
  unfold rngV at J5 J6
  clear hf hs hcap hnil hg ht hcap2 hnil2 hl5 hm5 hm5' hn5 hk1 hk2
  generalize partR ia xs lo hi bd = r1 at *
  generalize countR ia xs lo hi bd = r3 at *
  generalize covA ia xs = r5 at *
  generalize ovA ia xs ib ys = r7 at *
  generalize xs.length = n at *
  generalize ys.length = m at *
  obtain ⟨a1, b1, e1⟩ := r1
  obtain ⟨a3, b3, e3⟩ := r3
  obtain ⟨⟨l5, h5, d5⟩, e5⟩ := r5
  obtain ⟨v7, e7⟩ := r7
  dsimp only at J1 J2 J3 J4 J5 J6 J7 J8
  go_enter Try.func4, Try.ntmps4
  go_wp2_with fail
  refine (JA.out _ HB.out).mono ?_
  rintro e w0 ⟨rfl, hb⟩
  have HC0 := Lib.hid hb
  clear hb x0 x1 x2 x3 x4 x5 x6
  obtain ⟨y0, y1, y2, y3, y4, y5, y6, y7, y8⟩ := HX.out _ HC0.out
  have HB0 := Lib.hid y8
  clear y8
  go_wp2_with fail
  refine (JB.out _ HB0.out).mono ?_
  rintro e w1 ⟨rfl, hb⟩
  have HC1 := Lib.hid (eb_of HC0.out hb (Nat.le_refl _))
  clear hb y0 y1 y2 y3 y4 y5 y6 y7
  obtain ⟨y0, y1, y2, y3, y4, y5, y6, y7, y8⟩ := HX.out _ HC1.out
  have HB1 := Lib.hid y8
  clear y8
  go_wp2_with fail
  refine (J1.out _ HB1.out).mono ?_
  rintro e w2 ⟨rfl, hb⟩
  have HC2 := Lib.hid (eb_of HC1.out hb (Nat.le_refl _))
  clear hb y0 y1 y2 y3 y4 y5 y6 y7
  obtain ⟨y0, y1, y2, y3, y4, y5, y6, y7, y8⟩ := HX.out _ HC2.out
  have HB2 := Lib.hid y8
  clear y8
  go_wp2_with fail
  refine (J2.out _ HB2.out).mono ?_
  rintro e w3 ⟨rfl, hb⟩
  have HC3 := Lib.hid (eb_of HC2.out hb (Nat.le_refl _))
  clear hb y0 y1 y2 y3 y4 y5 y6 y7
  obtain ⟨y0, y1, y2, y3, y4, y5, y6, y7, y8⟩ := HX.out _ HC3.out
  have HB3 := Lib.hid y8
  clear y8
  go_wp2_with fail
  refine (J3.out _ HB3.out).mono ?_
  rintro e w4 ⟨rfl, hb⟩
  have HC4 := Lib.hid (eb_of HC3.out hb (Nat.le_refl _))
  clear hb y0 y1 y2 y3 y4 y5 y6 y7
  obtain ⟨y0, y1, y2, y3, y4, y5, y6, y7, y8⟩ := HX.out _ HC4.out
  have HB4 := Lib.hid y8
  clear y8
  go_wp2_with fail
  refine (J4.out _ HB4.out).mono ?_
  rintro e w5 ⟨rfl, hb⟩
  have HC5 := Lib.hid (eb_of HC4.out hb (Nat.le_refl _))
  clear hb y0 y1 y2 y3 y4 y5 y6 y7
  obtain ⟨y0, y1, y2, y3, y4, y5, y6, y7, y8⟩ := HX.out _ HC5.out
  have HB5 := Lib.hid y8
  clear y8
  go_wp2_with fail
  refine (J5.out _ HB5.out).mono ?_
  rintro e w6 ⟨rfl, hb⟩
  have HC6 := Lib.hid (eb_of HC5.out hb (Nat.le_refl _))
  clear hb y0 y1 y2 y3 y4 y5 y6 y7
  have hbx := alloc_below w6 (.cells #[.string l5, .string h5, .bool d5] 37)
  have HC7 := Lib.hid (eb_of HC6.out hbx (Nat.le_refl _))
  have RX7 := Lib.hid (Row3.new w6 37 (.string l5) (.string h5) (.bool d5))
  clear hbx
  obtain ⟨y0, y1, y2, y3, y4, y5, y6, y7, y8⟩ := HX.out _ HC7.out
  have HB7 := Lib.hid y8
  clear y8
  go_wp2_with fail
  refine (J6.out _ HB7.out).mono ?_
  rintro e w8 ⟨rfl, hb⟩
  have HC8 := Lib.hid (eb_of HC7.out hb (Nat.le_refl _))
  have RX8 := Lib.hid (RX7.out.below hb (Nat.le_refl _))
  clear hb y0 y1 y2 y3 y4 y5 y6 y7
  have hbx := alloc_below w8 (.cells #[.string l5, .string h5, .bool d5] 37)
  have HC9 := Lib.hid (eb_of HC8.out hbx (Nat.le_refl _))
  have RX9 := Lib.hid (RX8.out.below hbx (Nat.le_refl _))
  have RY9 := Lib.hid (Row3.new w8 37 (.string l5) (.string h5) (.bool d5))
  clear hbx
  obtain ⟨y0, y1, y2, y3, y4, y5, y6, y7, y8⟩ := HX.out _ HC9.out
  have HB9 := Lib.hid y8
  clear y8
  go_wp2_with fail
  refine (J7.out _ HB9.out).mono ?_
  rintro e w10 ⟨rfl, hb⟩
  have HC10 := Lib.hid (eb_of HC9.out hb (Nat.le_refl _))
  have RX10 := Lib.hid (RX9.out.below hb (Nat.le_refl _))
  have RY10 := Lib.hid (RY9.out.below hb (Nat.le_refl _))
  clear hb y0 y1 y2 y3 y4 y5 y6 y7
  obtain ⟨y0, y1, y2, y3, y4, y5, y6, y7, y8⟩ := HX.out _ HC10.out
  have HB10 := Lib.hid y8
  clear y8
  go_wp2_with fail
  refine (J8.out _ HB10.out).mono ?_
  rintro e w11 ⟨rfl, hb⟩
  have HC11 := Lib.hid (eb_of HC10.out hb (Nat.le_refl _))
  have RX11 := Lib.hid (RX10.out.below hb (Nat.le_refl _))
  have RY11 := Lib.hid (RY10.out.below hb (Nat.le_refl _))
  clear hb y0 y1 y2 y3 y4 y5 y6 y7
  obtain ⟨y0, y1, y2, y3, y4, y5, y6, y7, y8⟩ := HX.out _ HC11.out
  have HB11 := Lib.hid y8
  clear y8
  have rx0 := RX11.out.c0
  have rx1 := RX11.out.c1
  have rx2 := RX11.out.c2
  have ry0 := RY11.out.c0
  have ry1 := RY11.out.c1
  have ry2 := RY11.out.c2
  go_wp2_with fail
  refine (JW.out _).mono ?_
  rintro e w99 ⟨rfl, hb⟩
  have HB99 := Lib.hid (eb_of HB11.out hb (Nat.le_refl _))
  clear hb
  go_wp2_with fail
  go_ret
  exact ⟨by first | rfl | (simp; done), HB99.out⟩
end Go.Proofs.Ytjnbdeahmbkbnaa.KK
