/-
  Contracts of the law's own a, c; of the reference's Same; of awake.
-/
import Derived.Test.YtkphadkmmjcmnaaBg
namespace Go.Proofs.Ytkphadkmmjcmnaa.KK
open Go.ChangeShapes Go.WideShapes Go.ChangeAt Go.RowKit Go.Proofs

def aE : El.En := (⟨#[97]⟩, ⟨#[49]⟩, false, 5)
def cE : El.En := (⟨#[98]⟩, ⟨#[50]⟩, false, 6)
set_option maxRecDepth 100000 in
theorem law_a (w : World) : Calls Try.prog 30 #[] w fun e w' => e = .returned (.agg #[.string ⟨#[97]⟩, .string ⟨#[49]⟩, .bool false, .int .i64 5]) ∧ Below w.heap.size w w' := by
  go_enter Try.func30, Try.ntmps30
  go_wp2_with fail
  refine bodyPost_ret (v := .agg #[.string ⟨#[97]⟩, .string ⟨#[49]⟩, .bool false, .int .i64 5]) (by simp [results, Try.f30, go_sem]) rfl ?_
  exact ⟨rfl, alloc_below _ _⟩
set_option maxRecDepth 100000 in
theorem law_c (w : World) : Calls Try.prog 31 #[] w fun e w' => e = .returned (.agg #[.string ⟨#[98]⟩, .string ⟨#[50]⟩, .bool false, .int .i64 6]) ∧ Below w.heap.size w w' := by
  go_enter Try.func31, Try.ntmps31
  go_wp2_with fail
  refine bodyPost_ret (v := .agg #[.string ⟨#[98]⟩, .string ⟨#[50]⟩, .bool false, .int .i64 6]) (by simp [results, Try.f31, go_sem]) rfl ?_
  exact ⟨rfl, alloc_below _ _⟩
set_option maxRecDepth 100000 in
theorem RSame_any (i j : Int) (A A' : Option Addr) (c c' : Nat) (xs ys : List El.En) (w : World) (hf : EsAt w A xs) (hg : EsAt w A' ys) (hn : xs.length ≤ 9223372036854775807) (hn' : ys.length ≤ 9223372036854775807) :
    Calls Try.prog 19 #[.agg #[.int .i64 i, .slice A xs.length c], .agg #[.int .i64 j, .slice A' ys.length c']] w fun e w' => e = .returned (.bool (decide (i = j ∧ xs = ys))) ∧ Below w.heap.size w w' := by
  have hb1 := alloc_below w (.cells #[.int .i64 i, .slice A xs.length c] 43)
  have hb2 := eb_of hb1 (alloc_below _ (.cells #[.int .i64 j, .slice A' ys.length c'] 43)) (Nat.le_refl _)
  have JS := Lib.hid (Same_any A A' c c' xs ys _ (hf.below hb2 (Nat.le_refl _)) (hg.below hb2 (Nat.le_refl _)) hn hn')
  have HB := Lib.hid hb2
  clear hf hg hb1 hb2
  by_cases h : i = j
  · subst h
    have e1 : (i == i) = true := by simp
    rw [show decide (i = i ∧ xs = ys) = decide (xs = ys) by simp]
    generalize decide (xs = ys) = r at *
    generalize xs.length = n at *
    generalize ys.length = m at *
    go_enter Try.func19, Try.ntmps19
    go_wp2_with fail
    refine JS.out.mono ?_
    rintro e w1 ⟨rfl, hb⟩
    have HB1 := Lib.hid (eb_of HB.out hb (Nat.le_refl _))
    clear hb
    go_wp2_with fail
    go_ret
    exact ⟨rfl, HB1.out⟩
  · have e1 : (i == j) = false := by simpa using h
    rw [show decide (i = j ∧ xs = ys) = false by simp [h]]
    clear h JS
    generalize xs.length = n at *
    generalize ys.length = m at *
    go_enter Try.func19, Try.ntmps19
    go_wp2_with fail
    go_ret
    exact ⟨rfl, HB.out⟩
end Go.Proofs.Ytkphadkmmjcmnaa.KK
