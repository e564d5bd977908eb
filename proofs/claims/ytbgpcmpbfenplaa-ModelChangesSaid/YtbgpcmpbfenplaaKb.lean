/-
  Contracts of the functions that compare keys.
-/
import Derived.Test.YtbgpcmpbfenplaaKa
import Derived.Test.YtbgpcmpbfenplaaProg
import Derived.Deep.Cut
namespace Go.Proofs.Ytbgpcmpbfenplaa.KK
open Go.ChangeShapes Go.WideShapes Go.ChangeAt Go.RowKit Go.Proofs

theorem beqT {x y : UInt8} (h : x = y) : ((x.toNat : Int) == (y.toNat : Int)) = true := by rw [h]; simp
theorem beqF {x y : UInt8} (h : x ≠ y) : ((x.toNat : Int) == (y.toNat : Int)) = false := by
  rw [beq_eq_false_iff_ne]; intro e; exact h (UInt8.toNat_inj.1 (by omega))
theorem kl_take (s : ByteArray) (k : Nat) (h : k < s.size) : (Kl.L s).take (k + 1) = (Kl.L s).take k ++ [s[k]] := by
  have h' : k < (Kl.L s).length := by rw [Kl.L_length]; exact h
  rw [List.take_succ_eq_append_getElem h']; rfl
theorem below_of {B : Nat} {w w1 w2 : World} (hb : Below B w w1) (h : Below w1.heap.size w1 w2) (hB : B ≤ w.heap.size) : Below B w w2 := hb.trans (h.mono (Nat.le_trans hB hb.size))

theorem below_drewN' {w : World} (n : Nat) : Below w.heap.size w (w.drewN n) := below_drewN (Below.refl _ _) n
/-- what Compare and Common answer -/
def cmpV (a b : ByteArray) : Int := if a.size ≤ 32 ∧ b.size ≤ 32 then Kl.ord (Kl.L a) (Kl.L b) else 0
def comV (a b : ByteArray) : Int := if a.size ≤ 32 ∧ b.size ≤ 32 then (Kl.cm (Kl.L a) (Kl.L b) : Nat) else 0

end Go.Proofs.Ytbgpcmpbfenplaa.KK
