/-
  Contracts of isBare, bare and written.
-/
import Derived.Test.YthifbihmogjjpaaGreatDoorQa
import Derived.Test.YthifbihmogjjpaaGreatDoorXa
namespace Go.Proofs.YthifbihmogjjpaaGreatDoor
open Go.ChangeShapes Go.WideShapes Go.ChangeAt Go.RowKit Go.Proofs

theorem Pl.bareS_nil (s : ByteArray) (h : s.size = 0) : Pl.bareS (Pl.L s) = false := by
  have : (Pl.L s) = [] := List.eq_nil_of_length_eq_zero (by rw [Pl.L_length]; exact h)
  rw [this]; rfl
theorem Pl.bareS_pos (s : ByteArray) (h : 0 < s.size) : Pl.bareS (Pl.L s) = (Pl.L s).all Pl.bareC := by
  unfold Pl.bareS
  have : (Pl.L s).isEmpty = false := by
    cases hl : Pl.L s with
    | nil => have := Pl.L_length s; rw [hl] at this; simp at this; omega
    | cons c r => rfl
  rw [this]; rfl

theorem bareC_plain (c : UInt8) (h : Pl.plain c = false) : Pl.bareC c = false := by unfold Pl.bareC; rw [h]; rfl
theorem bareC_sp (c : UInt8) (h : ((c.toNat : Int) == 32) = true) : Pl.bareC c = false := by unfold Pl.bareC bne; rw [h]; simp
theorem bareC_yes (c : UInt8) (h : Pl.plain c = true) (h2 : ((c.toNat : Int) == 32) = false) : Pl.bareC c = true := by unfold Pl.bareC bne; rw [h, h2]; rfl

theorem EscAt.alloc {w : World} (h : EscAt w) (o : Obj) : EscAt (w.alloc o) := h.below ((Below.refl w.heap.size w).alloc (Nat.le_refl _) _) h.lt

end Go.Proofs.YthifbihmogjjpaaGreatDoor
