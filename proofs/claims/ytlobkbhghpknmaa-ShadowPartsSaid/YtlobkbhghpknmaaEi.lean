/-
  Contracts of the laws' own large, far; of the reference's Same.
-/
import Derived.Test.YtlobkbhghpknmaaEh
namespace Go.Proofs.Ytlobkbhghpknmaa.KK
open Go.ChangeShapes Go.WideShapes Go.ChangeAt Go.RowKit Go.Proofs

def largeE (x : El.En) : Bool := decide (100 < x.1.size) || decide (100 < x.2.1.size)
def farE (xs : List El.En) : Bool := if 60 < xs.length then (decide (xs.length ≤ 5000) || decide (5010 < xs.length)) else xs.any largeE
theorem any_at {xs : List El.En} {k : Nat} (h : k < xs.length) {p : El.En → Bool} (hp : p xs[k] = true) : xs.any p = true := List.any_eq_true.2 ⟨xs[k], List.getElem_mem h, hp⟩
theorem any_next {xs : List El.En} {k : Nat} (h : k < xs.length) {p : El.En → Bool} (h1 : (xs.take k).any p = false) (h2 : p xs[k] = false) : (xs.take (k + 1)).any p = false := by
  rw [List.take_succ_eq_append_getElem h, List.any_append, h1]; simp [h2]
theorem str_beq_ne {a b : ByteArray} (h : a ≠ b) : (a.toList == b.toList) = false := by rw [beq_eq_false_iff_ne]; exact str_ne h
end Go.Proofs.Ytlobkbhghpknmaa.KK
