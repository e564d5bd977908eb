/-
  The walk of ModelMaps.
-/
import Derived.Test.YtbgpcmpbfenplaaUl
namespace Go.Proofs.Ytbgpcmpbfenplaa.KK
open Go.ChangeShapes Go.WideShapes Go.ChangeAt Go.RowKit Go.Proofs

theorem wide_len {ws : List Wr} (h : wideE ws = false) : ws.length ≤ 12 := by
  unfold wideE at h
  have h1 : decide (12 < ws.length) = false := by
    cases g : decide (12 < ws.length) with
    | false => rfl
    | true => rw [g] at h; simp at h
  have := of_decide_eq_false h1
  omega
end Go.Proofs.Ytbgpcmpbfenplaa.KK
