/-
  The law's own awake.
-/
import Derived.Test.YtpgngiegpigfiaaFu
namespace Go.Proofs.Ytpgngiegpigfiaa.KK
open Go.ChangeShapes Go.WideShapes Go.ChangeAt Go.RowKit Go.Proofs

def exM : List ByteArray := [ex3, ex5]
theorem exL_sized : Sized exL := by
  intro x hx
  simp only [exL, List.mem_cons, List.not_mem_nil, or_false] at hx
  rcases hx with rfl | rfl | rfl | rfl | rfl <;> exact ⟨by decide, by decide⟩
theorem exM_sized : SizedS exM := by
  intro x hx
  simp only [exM, List.mem_cons, List.not_mem_nil, or_false] at hx
  rcases hx with rfl | rfl <;> decide
theorem exMake (A : Option Addr) (c : Nat) (w : World) (hf : EsAt w A exL) (hc : 5 ≤ c) :
    Calls Try.prog 13 #[.slice A 5 c, .int .i64 2] w fun e w' => (∃ A' c', e = .returned (.tuple #[.agg #[.int .i64 2, .slice A' 2 c'], .int .i64 0]) ∧ SsAt w' A' exM) ∧ Below w.heap.size w w' := by
  have K := pMake7_any A c exL 2 w hf (by decide) exL_sized hc
  have e1 : mkEr 2 exL = 0 := by decide +kernel
  have e2 : mkSt 2 exL = 2 := by decide +kernel
  have e3 : mkMs 2 exL = exM := by decide +kernel
  refine K.mono ?_
  rintro e w' ⟨A', c', h1, h2, h3⟩
  rw [e1, e2, e3] at h1
  rw [e3] at h2
  exact ⟨⟨A', c', h1, h2⟩, h3⟩
theorem exSize (A : Option Addr) (c : Nat) (w : World) (hf : SsAt w A exM) :
    Calls Try.prog 24 #[.agg #[.int .i64 2, .slice A 2 c]] w fun e w' => e = .returned (.tuple #[.int .i64 4, .int .i64 0]) ∧ Below w.heap.size w w' := by
  have K := pSize7_any 2 A c exM w hf (by decide) exM_sized
  rw [show sizeE 2 exM = (4, 0) by decide +kernel] at K
  exact K
theorem exBlock (key : ByteArray) (r : Int) (A : Option Addr) (c : Nat) (w : World) (hf : SsAt w A exM) (hk : key.size ≤ 9223372036854775807) (h : blockE 2 exM key = (r, 0)) :
    Calls Try.prog 20 #[.agg #[.int .i64 2, .slice A 2 c], .string key] w fun e w' => e = .returned (.tuple #[.int .i64 r, .int .i64 0]) ∧ Below w.heap.size w w' := by
  have K := pBlock7_any 2 A c exM key w hf (by decide) exM_sized hk
  rw [h] at K
  exact K
theorem exSpan (n : Int) (key : ByteArray) (a b r : Int) (A : Option Addr) (c : Nat) (w : World) (hf : SsAt w A exM) (hk : key.size ≤ 9223372036854775807) (h : spanE 2 exM n key = (a, b, r)) :
    Calls Try.prog 28 #[.agg #[.int .i64 2, .slice A 2 c], .int .i64 n, .string key] w fun e w' => e = .returned (.tuple #[.int .i64 a, .int .i64 b, .int .i64 r]) ∧ Below w.heap.size w w' := by
  have K := pSpan7_any 2 A c exM n key w hf (by decide) exM_sized hk
  rw [h] at K
  exact K
theorem exSame (A A' : Option Addr) (c c' : Nat) (w : World) (hf : SsAt w A exM) (hg : SsAt w A' exM) :
    Calls Try.prog 17 #[.agg #[.int .i64 2, .slice A 2 c], .agg #[.int .i64 2, .slice A' 2 c']] w fun e w' => e = .returned (.bool true) ∧ Below w.heap.size w w' := by
  have K := Same7_any 2 2 A A' c c' exM exM w hf hg (by decide) (by decide)
  rw [show (decide ((2 : Int) = 2) && decide (exM = exM)) = true by simp] at K
  exact K
theorem two_strs (w : World) (a b : ByteArray) : SsAt (w.alloc (.cells #[.string a, .string b] 9)) (some ⟨w.heap.size, 0, none⟩) [a, b] := by
  refine .inr ⟨w.heap.size, 0, rfl, by simp, fun i hi => ?_⟩
  have hk : i = 0 ∨ i = 1 := by simp at hi; omega
  rcases hk with rfl | rfl <;> exact cell_of_row _ w.heap.size _ _ _ _ (heap_alloc_new w _)
set_option maxRecDepth 100000 in
set_option maxHeartbeats 4000000 in
theorem awake7_any (w : World) : Calls Try.prog 12 #[] w fun e w' => e = .returned (.bool true) ∧ Below w.heap.size w w' := by
  have JB := Lib.hid (fun A c w hf => exBlock ⟨#[98, 99, 100]⟩ 1 A c w hf (by decide) (by decide +kernel))
  have JN := Lib.hid (fun A c w hf => exSpan 5 ⟨#[98]⟩ 2 4 0 A c w hf (by decide) (by decide +kernel))
  go_enter Try.func12, Try.ntmps12
  go_wp2_with fail
  refine (example_any _).mono ?_
  rintro e w1 ⟨A, c, rfl, hc5, _, hes, hb⟩
  have HB := Lib.hid hb
  have HE := Lib.hid hes
  clear hb hes
  go_wp2_with fail
  refine (exMake A c _ HE.out hc5).mono ?_
  rintro e w2 ⟨⟨A', c', rfl, hss⟩, hb⟩
  have HB2 := Lib.hid (eb_of HB.out hb (Nat.le_refl _))
  have HS := Lib.hid hss
  have HX := boxF 2 A' 2 c' w2
  obtain ⟨x0, x1, x2, x3⟩ := HX.out _ (Below.refl _ _)
  have HB3 := Lib.hid (eb_of HB2.out x3 (Nat.le_refl _))
  have HS3 := Lib.hid (HS.out.below x3 (Nat.le_refl _))
  clear hb hss x2 x3
  go_wp2_with fail
  refine (exSize A' c' _ HS3.out).mono ?_
  rintro e w3 ⟨rfl, hb⟩
  have HC := Lib.hid hb
  clear hb x0 x1
  obtain ⟨x0, x1, x2, x3⟩ := HX.out _ HC.out
  have HS4 := Lib.hid (HS.out.below x3 (Nat.le_refl _))
  clear x2 x3
  go_wp2_with fail
  refine (JB.out A' c' _ HS4.out).mono ?_
  rintro e w4 ⟨rfl, hb⟩
  have HC4 := Lib.hid (eb_of HC.out hb (Nat.le_refl _))
  clear hb x0 x1
  obtain ⟨x0, x1, x2, x3⟩ := HX.out _ HC4.out
  have HS5 := Lib.hid (HS.out.below x3 (Nat.le_refl _))
  clear x2 x3
  go_wp2_with fail
  refine (JN.out A' c' _ HS5.out).mono ?_
  rintro e w5 ⟨rfl, hb⟩
  have HC5 := Lib.hid (eb_of HC4.out hb (Nat.le_refl _))
  clear hb x0 x1
  obtain ⟨x0, x1, x2, x3⟩ := HX.out _ HC5.out
  have HB5 := Lib.hid (eb_of HB2.out x3 (Nat.le_refl _))
  have hb6 := alloc_below w5 (.cells #[.string ⟨#[98]⟩, .string ⟨#[98, 99, 101]⟩] 9)
  have HS6 := Lib.hid ((HS.out.below x3 (Nat.le_refl _)).below hb6 (Nat.le_refl _))
  have HT6 := Lib.hid (two_strs w5 ⟨#[98]⟩ ⟨#[98, 99, 101]⟩)
  have HB6 := Lib.hid (eb_of HB5.out hb6 (Nat.le_refl _))
  clear x2 x3 hb6
  go_wp2_with fail
  refine (exSame A' _ c' 2 _ HS6.out HT6.out).mono ?_
  rintro e w7 ⟨rfl, hb⟩
  have HB7 := Lib.hid (eb_of HB6.out hb (Nat.le_refl _))
  clear hb
  go_wp2_with fail
  go_ret
  exact ⟨by first | rfl | simp, HB7.out⟩
end Go.Proofs.Ytpgngiegpigfiaa.KK
