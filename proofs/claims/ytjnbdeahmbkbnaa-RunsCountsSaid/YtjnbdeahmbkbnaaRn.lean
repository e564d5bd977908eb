/-
  RunsFinds: the walk.
-/
import Derived.Test.YtjnbdeahmbkbnaaRm
namespace Go.Proofs.Ytjnbdeahmbkbnaa.KK
open Go.ChangeShapes Go.WideShapes Go.ChangeAt Go.RowKit Go.Proofs

theorem Row4.other {W : World} {B g : Nat} {t : TypeId} {v0 v1 v2 v3 : Value} (h : Row4 W B t v0 v1 v2 v3) (hne : g ≠ B) (a b c d : Value) : Row4 ((((W.setCell ⟨g, 0, none⟩ a).setCell ⟨g, 1, none⟩ b).setCell ⟨g, 2, none⟩ c).setCell ⟨g, 3, none⟩ d) B t v0 v1 v2 v3 := by
  unfold Row4 at h ⊢; simp [World.setCell, Array.getElem?_modify, h, hne]
theorem Row4.new (w : World) (t : TypeId) (v0 v1 v2 v3 : Value) : Row4 (w.alloc (.cells #[v0, v1, v2, v3] t)) w.heap.size t v0 v1 v2 v3 := heap_alloc_new w _
set_option maxRecDepth 100000 in
set_option maxHeartbeats 8000000 in
theorem Finds8_any (id : Int) (A : Option Addr) (c : Nat) (xs : List El.En) (key : ByteArray) (strict : Bool) (w : World) (hf : EsAt w A xs) (hn : xs.length ≤ 9223372036854775807) (hs : Sized xs) (hcap : xs.length ≤ c) (hnil : A = none → c = 0) (hz : key.size ≤ 9223372036854775807) :
    Calls Try.prog 3 #[.agg #[.int .i64 id, .slice A xs.length c], .string key, .bool strict] w fun e w' => e = .returned (.bool true) ∧ Below w.heap.size w w' := by
  have HX := boxU id A xs.length c w
  obtain ⟨x0, x1, x2, x3⟩ := HX.out _ (Below.refl _ _)
  have HB := Lib.hid x3
  have JF := Lib.hid (fun w1 (h : Below w.heap.size w w1) => far8_any id A c xs w1 (hf.below h (Nat.le_refl _)) hn hs)
  have JW := Lib.hid (fun w => awake8_any w)
  clear x2 x3
  cases hfar : farF xs with
  | true =>
    rw [hfar] at JF
    clear hfar hf hs hcap hnil
    generalize xs.length = n at *
    go_enter Try.func3, Try.ntmps3
    go_wp2_with fail
    refine (JF.out _ HB.out).mono ?_
    rintro e w0 ⟨rfl, hb⟩
    have HC0 := Lib.hid hb
    obtain ⟨y0, y1, y2, y3⟩ := HX.out _ hb
    have HB0 := Lib.hid y3
    clear hb x0 x1 y3
    go_wp2_with fail
    refine (JW.out _).mono ?_
    rintro e w9 ⟨rfl, hb⟩
    have HB9 := Lib.hid (eb_of HB0.out hb (Nat.le_refl _))
    clear hb
    go_wp2_with fail
    go_ret
    exact ⟨by first | rfl | simp, HB9.out⟩
  | false =>
    have hl5 := far_len hfar
    rw [hfar] at JF
    clear hfar
    by_cases hk : 100 < key.size
    · have hk' : (100 : Int) < (key.size : Int) := by omega
      clear hk hf hs hcap hnil hl5
      generalize xs.length = n at *
      go_enter Try.func3, Try.ntmps3
      go_wp2_with fail
      refine (JF.out _ HB.out).mono ?_
      rintro e w0 ⟨rfl, hb⟩
      have HC0 := Lib.hid hb
      obtain ⟨y0, y1, y2, y3⟩ := HX.out _ hb
      have HB0 := Lib.hid y3
      clear hb x0 x1 y3
      go_wp2_with fail
      refine (JW.out _).mono ?_
      rintro e w9 ⟨rfl, hb⟩
      have HB9 := Lib.hid (eb_of HB0.out hb (Nat.le_refl _))
      clear hb
      go_wp2_with fail
      go_ret
      exact ⟨by first | rfl | simp, HB9.out⟩
    have hk' : ¬ (100 : Int) < (key.size : Int) := by omega
    have hn5 : xs.length ≤ 4294967295 := by omega
    have J1 := Lib.hid (fun w1 (h : Below w.heap.size w w1) => pCheck8_any id A c xs w1 (hf.below h (Nat.le_refl _)) hn5 hs)
    have J2 := Lib.hid (fun w1 (h : Below w.heap.size w w1) => rCheck8_any id A c xs w1 (hf.below h (Nat.le_refl _)) hn5 hs)
    have J3 := Lib.hid (fun w1 (h : Below w.heap.size w w1) => pGet8_any id A c xs key w1 (hf.below h (Nat.le_refl _)) hn5 hs hcap hnil hz)
    have J4 := Lib.hid (fun w1 (h : Below w.heap.size w w1) => by
      have K := rGet8_any id A c xs key w1 (hf.below h (Nat.le_refl _)) hn5 hs hz
      rw [← get_same] at K; exact K)
    have J5 := Lib.hid (fun w1 (h : Below w.heap.size w w1) => pFloor8_any id A c xs key strict w1 (hf.below h (Nat.le_refl _)) hn5 hs hcap hnil hz)
    have J6 := Lib.hid (fun w1 (h : Below w.heap.size w w1) => rFloor8_any id A c xs key strict w1 (hf.below h (Nat.le_refl _)) hn5 hs hz)
    have J7 := Lib.hid (fun w1 (h : Below w.heap.size w w1) => pCeil8_any id A c xs key strict w1 (hf.below h (Nat.le_refl _)) hn5 hs hcap hnil hz)
    have J8 := Lib.hid (fun w1 (h : Below w.heap.size w w1) => rCeil8_any id A c xs key strict w1 (hf.below h (Nat.le_refl _)) hn5 hs hz)
    clear hf hs hcap hnil hl5 hn5
    generalize runE id xs = r1 at *
    generalize getR id xs key = r3 at *
    generalize floorR id xs key strict = r5 at *
    generalize ceilR id xs key strict = r7 at *
    generalize xs.length = n at *
    obtain ⟨i1, e1⟩ := r1
    obtain ⟨⟨k3, v3, d3, q3⟩, e3⟩ := r3
    obtain ⟨⟨k5, v5, d5, q5⟩, e5⟩ := r5
    obtain ⟨⟨k7, v7, d7, q7⟩, e7⟩ := r7
    unfold entV at J3 J4 J5 J6 J7 J8
    dsimp only at J1 J2 J3 J4 J5 J6 J7 J8
    go_enter Try.func3, Try.ntmps3
    go_wp2_with fail
    refine (JF.out _ HB.out).mono ?_
    rintro e w0 ⟨rfl, hb⟩
    have HC0 := Lib.hid hb
    obtain ⟨y0, y1, y2, y3⟩ := HX.out _ hb
    have HB0 := Lib.hid y3
    clear hb x0 x1 y3
    go_wp2_with fail
    refine (J1.out _ HB0.out).mono ?_
    rintro e w1 ⟨rfl, hb⟩
    have HC1 := Lib.hid (eb_of HC0.out hb (Nat.le_refl _))
    clear hb y0 y1 y2
    obtain ⟨y0, y1, y2, y3⟩ := HX.out _ HC1.out
    have HB1 := Lib.hid y3
    clear y3
    go_wp2_with fail
    refine (J2.out _ HB1.out).mono ?_
    rintro e w2 ⟨rfl, hb⟩
    have HC2 := Lib.hid (eb_of HC1.out hb (Nat.le_refl _))
    clear hb y0 y1 y2
    obtain ⟨y0, y1, y2, y3⟩ := HX.out _ HC2.out
    have HB2 := Lib.hid y3
    clear y3
    go_wp2_with fail
    refine (J3.out _ HB2.out).mono ?_
    rintro e w3 ⟨rfl, hb⟩
    have HC3 := Lib.hid (eb_of HC2.out hb (Nat.le_refl _))
    clear hb y0 y1 y2
    have hbx := alloc_below w3 (.cells #[.string k3, .string v3, .bool d3, .int .i64 q3] 31)
    have HC4 := Lib.hid (eb_of HC3.out hbx (Nat.le_refl _))
    have RX4 := Lib.hid (Row4.new w3 31 (.string k3) (.string v3) (.bool d3) (.int .i64 q3))
    have BRX : Hid ((w.alloc (.cells #[.int .i64 id, .slice A n c] 24)).heap.size ≤ w3.heap.size) := Lib.hid (HC3.out.size)
    clear hbx
    obtain ⟨y0, y1, y2, y3⟩ := HX.out _ HC4.out
    have HB4 := Lib.hid y3
    clear y3
    go_wp2_with fail
    refine (J4.out _ HB4.out).mono ?_
    rintro e w5 ⟨rfl, hb⟩
    have HC5 := Lib.hid (eb_of HC4.out hb (Nat.le_refl _))
    have RX5 := Lib.hid (RX4.out.below hb (Nat.le_refl _))
    clear hb y0 y1 y2
    have hbx := alloc_below w5 (.cells #[.string k3, .string v3, .bool d3, .int .i64 q3] 31)
    have HC6 := Lib.hid (eb_of HC5.out hbx (Nat.le_refl _))
    have RX6 := Lib.hid (RX5.out.below hbx (Nat.le_refl _))
    have RY6 := Lib.hid (Row4.new w5 31 (.string k3) (.string v3) (.bool d3) (.int .i64 q3))
    have BRY : Hid ((w.alloc (.cells #[.int .i64 id, .slice A n c] 24)).heap.size ≤ w5.heap.size) := Lib.hid (HC5.out.size)
    clear hbx
    obtain ⟨y0, y1, y2, y3⟩ := HX.out _ HC6.out
    have HB6 := Lib.hid y3
    clear y3
    have HNERXRY : Hid (w3.heap.size ≠ w5.heap.size) := Lib.hid (by have := RX5.out.lt; omega)
    have HNERYRX : Hid (w5.heap.size ≠ w3.heap.size) := Lib.hid (fun h => HNERXRY.out h.symm)
    have rxc0 := RX6.out.c0
    have rxc1 := RX6.out.c1
    have rxc2 := RX6.out.c2
    have rxc3 := RX6.out.c3
    have rxf := RX6.out.fz
    have ryc0 := RY6.out.c0
    have ryc1 := RY6.out.c1
    have ryc2 := RY6.out.c2
    have ryc3 := RY6.out.c3
    have ryf := RY6.out.fz
    go_wp2_with fail
    clear rxc0 rxc1 rxc2 rxc3 rxf ryc0 ryc1 ryc2 ryc3 ryf
    refine (J5.out _ HB6.out).mono ?_
    rintro e w7 ⟨rfl, hb⟩
    have HC7 := Lib.hid (eb_of HC6.out hb (Nat.le_refl _))
    have RX7 := Lib.hid (RX6.out.below hb (Nat.le_refl _))
    have RY7 := Lib.hid (RY6.out.below hb (Nat.le_refl _))
    clear hb y0 y1 y2
    have rxc0 := RX7.out.c0
    have rxc1 := RX7.out.c1
    have rxc2 := RX7.out.c2
    have rxc3 := RX7.out.c3
    have rxf := RX7.out.fz
    have HC8 := Lib.hid (set4 HC7.out BRX.out (.string k5) (.string v5) (.bool d5) (.int .i64 q5))
    have RX8 := Lib.hid (RX7.out.set (.string k5) (.string v5) (.bool d5) (.int .i64 q5))
    have RY8 := Lib.hid (RY7.out.other HNERXRY.out (.string k5) (.string v5) (.bool d5) (.int .i64 q5))
    obtain ⟨y0, y1, y2, y3⟩ := HX.out _ HC8.out
    have HB8 := Lib.hid y3
    clear y3
    go_wp2_with fail
    clear rxc0 rxc1 rxc2 rxc3 rxf
    refine (J6.out _ HB8.out).mono ?_
    rintro e w9 ⟨rfl, hb⟩
    have HC9 := Lib.hid (eb_of HC8.out hb (Nat.le_refl _))
    have RX9 := Lib.hid (RX8.out.below hb (Nat.le_refl _))
    have RY9 := Lib.hid (RY8.out.below hb (Nat.le_refl _))
    clear hb y0 y1 y2
    have ryc0 := RY9.out.c0
    have ryc1 := RY9.out.c1
    have ryc2 := RY9.out.c2
    have ryc3 := RY9.out.c3
    have ryf := RY9.out.fz
    have HC10 := Lib.hid (set4 HC9.out BRY.out (.string k5) (.string v5) (.bool d5) (.int .i64 q5))
    have RY10 := Lib.hid (RY9.out.set (.string k5) (.string v5) (.bool d5) (.int .i64 q5))
    have RX10 := Lib.hid (RX9.out.other HNERYRX.out (.string k5) (.string v5) (.bool d5) (.int .i64 q5))
    obtain ⟨y0, y1, y2, y3⟩ := HX.out _ HC10.out
    have HB10 := Lib.hid y3
    clear y3
    have rxd0 := RX10.out.c0
    have rxd1 := RX10.out.c1
    have rxd2 := RX10.out.c2
    have rxd3 := RX10.out.c3
    have ryd0 := RY10.out.c0
    have ryd1 := RY10.out.c1
    have ryd2 := RY10.out.c2
    have ryd3 := RY10.out.c3
    go_wp2_with fail
    clear ryc0 ryc1 ryc2 ryc3 ryf rxd0 rxd1 rxd2 rxd3 ryd0 ryd1 ryd2 ryd3
    refine (J7.out _ HB10.out).mono ?_
    rintro e w11 ⟨rfl, hb⟩
    have HC11 := Lib.hid (eb_of HC10.out hb (Nat.le_refl _))
    have RX11 := Lib.hid (RX10.out.below hb (Nat.le_refl _))
    have RY11 := Lib.hid (RY10.out.below hb (Nat.le_refl _))
    clear hb y0 y1 y2
    have rxc0 := RX11.out.c0
    have rxc1 := RX11.out.c1
    have rxc2 := RX11.out.c2
    have rxc3 := RX11.out.c3
    have rxf := RX11.out.fz
    have HC12 := Lib.hid (set4 HC11.out BRX.out (.string k7) (.string v7) (.bool d7) (.int .i64 q7))
    have RX12 := Lib.hid (RX11.out.set (.string k7) (.string v7) (.bool d7) (.int .i64 q7))
    have RY12 := Lib.hid (RY11.out.other HNERXRY.out (.string k7) (.string v7) (.bool d7) (.int .i64 q7))
    obtain ⟨y0, y1, y2, y3⟩ := HX.out _ HC12.out
    have HB12 := Lib.hid y3
    clear y3
    go_wp2_with fail
    clear rxc0 rxc1 rxc2 rxc3 rxf
    refine (J8.out _ HB12.out).mono ?_
    rintro e w13 ⟨rfl, hb⟩
    have HC13 := Lib.hid (eb_of HC12.out hb (Nat.le_refl _))
    have RX13 := Lib.hid (RX12.out.below hb (Nat.le_refl _))
    have RY13 := Lib.hid (RY12.out.below hb (Nat.le_refl _))
    clear hb y0 y1 y2
    have ryc0 := RY13.out.c0
    have ryc1 := RY13.out.c1
    have ryc2 := RY13.out.c2
    have ryc3 := RY13.out.c3
    have ryf := RY13.out.fz
    have HC14 := Lib.hid (set4 HC13.out BRY.out (.string k7) (.string v7) (.bool d7) (.int .i64 q7))
    have RY14 := Lib.hid (RY13.out.set (.string k7) (.string v7) (.bool d7) (.int .i64 q7))
    have RX14 := Lib.hid (RX13.out.other HNERYRX.out (.string k7) (.string v7) (.bool d7) (.int .i64 q7))
    obtain ⟨y0, y1, y2, y3⟩ := HX.out _ HC14.out
    have HB14 := Lib.hid y3
    clear y3
    have rxd0 := RX14.out.c0
    have rxd1 := RX14.out.c1
    have rxd2 := RX14.out.c2
    have rxd3 := RX14.out.c3
    have ryd0 := RY14.out.c0
    have ryd1 := RY14.out.c1
    have ryd2 := RY14.out.c2
    have ryd3 := RY14.out.c3
    go_wp2_with fail
    refine (JW.out _).mono ?_
    rintro e w99 ⟨rfl, hb⟩
    have HB9 := Lib.hid (eb_of HB14.out hb (Nat.le_refl _))
    clear hb
    go_wp2_with fail
    go_ret
    exact ⟨by first | rfl | simp, HB9.out⟩
end Go.Proofs.Ytjnbdeahmbkbnaa.KK
