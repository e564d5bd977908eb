/-
  The contract of the reference's Quote.
-/
import Derived.Test.YthifbihmogjjpaaDoorXb
namespace Go.Proofs.YthifbihmogjjpaaDoor
open Go.ChangeShapes Go.WideShapes Go.ChangeAt Go.RowKit Go.Proofs

theorem strCells_B8 (u : List UInt8) : Lib.strCells ⟨u.toArray⟩ = u.map B8 := by
  unfold Lib.strCells B8
  simp
theorem size_mk (u : List UInt8) : (⟨u.toArray⟩ : ByteArray).size = u.length := by
  show u.toArray.size = u.length
  simp
theorem own_str {w : World} {base : Nat} {v : Value} {t u : List UInt8} (h : w.ownsRow base 5 1 v (t.length + (⟨u.toArray⟩ : ByteArray).size) (t.map B8 ++ Lib.strCells ⟨u.toArray⟩)) : w.ownsRow base 5 1 v (t ++ u).length ((t ++ u).map B8) := by
  rw [strCells_B8] at h
  exact own_app rfl (size_mk u) rfl h

end Go.Proofs.YthifbihmogjjpaaDoor
