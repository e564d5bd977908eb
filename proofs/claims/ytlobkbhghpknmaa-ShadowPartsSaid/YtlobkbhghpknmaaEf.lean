/-
  Contracts of the reference of entries: two, order, Compare, Wins.
-/
import Derived.Test.YtlobkbhghpknmaaEd
namespace Go.Proofs.Ytlobkbhghpknmaa.KK
open Go.ChangeShapes Go.WideShapes Go.ChangeAt Go.RowKit Go.Proofs

theorem cmp3_lt {x y : Int} (h : x < y) : cmp3 x y = -1 := if_pos h
theorem cmp3_gt {x y : Int} (h : ¬ x < y) (g : y < x) : cmp3 x y = 1 := by unfold cmp3; rw [if_neg h, if_pos g]
theorem cmp3_eq {x y : Int} (h : ¬ x < y) (g : ¬ y < x) : cmp3 x y = 0 := by unfold cmp3; rw [if_neg h, if_neg g]
end Go.Proofs.Ytlobkbhghpknmaa.KK
