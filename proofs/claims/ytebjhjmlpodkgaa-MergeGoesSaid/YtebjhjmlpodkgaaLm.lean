/-
  Trees of losers: Order.
-/
import Derived.Test.YtebjhjmlpodkgaaLl
namespace Go.Proofs.Ytebjhjmlpodkgaa.KK
open Go.ChangeShapes Go.WideShapes Go.ChangeAt Go.RowKit Go.Proofs

theorem CR.new {w : World} {Z : Array Value} {t : TypeId} {vs : List Value} (h : Z.toList = vs) : CR (w.alloc (.cells Z t)) w.heap.size vs := by
  subst h
  refine ⟨by simp, fun i hi => ?_, fun i hi => ?_⟩
  · refine (cell_of_row _ w.heap.size i _ _ _ (heap_alloc_new w _)).trans ?_
    rw [← Array.getElem?_toList]; exact List.getElem?_eq_getElem hi
  · have := heap_alloc_new w (.cells Z t)
    unfold World.frozen?
    simp only
    rw [this]
    simp
end Go.Proofs.Ytebjhjmlpodkgaa.KK
