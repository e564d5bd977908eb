/-
  EntriesLists: the walk.
-/
import Derived.Test.YtmobjpmkenpckaaDoorFb
namespace Go.Proofs.YtmobjpmkenpckaaDoor.KK
open Go.ChangeShapes Go.WideShapes Go.ChangeAt Go.RowKit Go.Proofs Go.Sort

theorem farE_len {xs : List El.En} (h : farE xs = false) : xs.length ≤ 5010 := by
  unfold farE at h
  by_cases g : 60 < xs.length
  · rw [if_pos g] at h; simp at h; omega
  · omega
end Go.Proofs.YtmobjpmkenpckaaDoor.KK
