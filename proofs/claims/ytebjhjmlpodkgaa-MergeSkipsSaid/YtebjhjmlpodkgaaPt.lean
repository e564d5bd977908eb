/-
  Merges: a variable in memory.
-/
import Derived.Test.YtebjhjmlpodkgaaPj
namespace Go.Proofs.Ytebjhjmlpodkgaa.KK
open Go.ChangeShapes Go.WideShapes Go.ChangeAt Go.RowKit Go.Proofs

def Rw1 (W : World) (B : Nat) (t : TypeId) (v0 : Value) : Prop := W.heap[B]? = some (.cells #[v0] t (0, 0))
section
variable {W W' : World} {B : Nat} {t : TypeId} {v0 : Value}
theorem Rw1.lt (h : Rw1 W B t v0) : B < W.heap.size := (Array.getElem?_eq_some_iff.1 h).1
theorem Rw1.c0 (h : Rw1 W B t v0) : W.cell? ⟨B, 0, none⟩ = some v0 := by unfold Rw1 at h; simp [World.cell?, h]
theorem Rw1.fz (h : Rw1 W B t v0) (i : Nat) : W.frozen? ⟨B, i, none⟩ = false := by unfold Rw1 at h; simp [World.frozen?, h]
theorem Rw1.set (h : Rw1 W B t v0) (u0 : Value) : Rw1 (W.setCell ⟨B, 0, none⟩ u0) B t u0 := by
  unfold Rw1 at h ⊢; simp [World.setCell, Array.getElem?_modify, h]
theorem Rw1.below {n : Nat} (h : Rw1 W B t v0) (hb : Below n W W') (hn : W.heap.size ≤ n) : Rw1 W' B t v0 := (hb.block B (Nat.lt_of_lt_of_le h.lt hn)).trans h
theorem Rw1.chg {S : Nat → Prop} (h : Rw1 W B t v0) (hg : Chg S W W') (hn : ¬ S B) : Rw1 W' B t v0 := (hg.block B h.lt hn).trans h
end
theorem cgr {A A' : World} {row : Option Nat} (hg : A.grownBy A' row) : Chg (fun k => some k = row) A A' := ⟨hg.os, hg.tape, hg.output, hg.size, fun k hk hn => hg.block k hk hn⟩
end Go.Proofs.Ytebjhjmlpodkgaa.KK
