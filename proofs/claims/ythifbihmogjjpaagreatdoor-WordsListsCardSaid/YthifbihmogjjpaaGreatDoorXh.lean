/-
  The contract of Join.
-/
import Derived.Test.YthifbihmogjjpaaGreatDoorXg
import Derived.Test.YthifbihmogjjpaaGreatDoorXc
import Derived.Test.YthifbihmogjjpaaGreatDoorWk
namespace Go.Proofs.YthifbihmogjjpaaGreatDoor
open Go.ChangeShapes Go.WideShapes Go.ChangeAt Go.RowKit Go.Proofs

theorem L_mk (t : List UInt8) : Pl.L ⟨t.toArray⟩ = t := by unfold Pl.L; simp
theorem own_slice {w : World} {base n : Nat} {v : Value} {e : TypeId} {sz : Nat} {xs : List Value} (h : w.ownsRow base e sz v n xs) : ∃ A c, v = .slice A n c := by
  rcases h.2 with ⟨rfl, h0⟩ | ⟨g, cap, cur, rfl, _⟩
  · subst h0; exact ⟨_, _, rfl⟩
  · exact ⟨_, _, rfl⟩
end Go.Proofs.YthifbihmogjjpaaGreatDoor
