/-
  Contracts of entries: checkBoth.
-/
import Derived.Test.YtlobkbhghpknmaaEa
namespace Go.Proofs.Ytlobkbhghpknmaa.KK
open Go.ChangeShapes Go.WideShapes Go.ChangeAt Go.RowKit Go.Proofs

theorem eb_of {B : Nat} {w w1 w2 : World} (hb : Below B w w1) (h : Below w1.heap.size w1 w2) (hB : B ≤ w.heap.size) : Below B w w2 := hb.trans (h.mono (Nat.le_trans hB hb.size))
theorem ne_b {a : Int} (h : a ≠ 0) : (a == 0) = false ∧ (a != 0) = true := ⟨by rw [beq_eq_false_iff_ne]; exact h, by rw [bne_iff_ne]; exact h⟩
end Go.Proofs.Ytlobkbhghpknmaa.KK
