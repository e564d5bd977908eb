/-
  The walk of ModelNone.
-/
import Derived.Test.YtbgpcmpbfenplaaUf
namespace Go.Proofs.Ytbgpcmpbfenplaa.KK
open Go.ChangeShapes Go.WideShapes Go.ChangeAt Go.RowKit Go.Proofs

/-- a row of three cells -/
def Row3 (W : World) (B : Nat) (t : TypeId) (v0 v1 v2 : Value) : Prop := W.heap[B]? = some (.cells #[v0, v1, v2] t (0, 0))
section
variable {W : World} {B : Nat} {t : TypeId} {v0 v1 v2 : Value}
theorem Row3.lt (h : Row3 W B t v0 v1 v2) : B < W.heap.size := (Array.getElem?_eq_some_iff.1 h).1
theorem Row3.c (h : Row3 W B t v0 v1 v2) : W.cell? ⟨B, 0, none⟩ = some v0 ∧ W.cell? ⟨B, 1, none⟩ = some v1 ∧ W.cell? ⟨B, 2, none⟩ = some v2 := ⟨cell_of_row W B 0 _ _ _ h, cell_of_row W B 1 _ _ _ h, cell_of_row W B 2 _ _ _ h⟩
theorem Row3.below {W' : World} {n : Nat} (h : Row3 W B t v0 v1 v2) (hb : Below n W W') (hn : W.heap.size ≤ n) : Row3 W' B t v0 v1 v2 := (hb.block B (Nat.lt_of_lt_of_le h.lt hn)).trans h
end
theorem keep_row3 {w : World} {B : Nat} {t : TypeId} {u0 u1 u2 : Value} (h : Row3 w B t u0 u1 u2) : Keep w (fun w' => Row3 w' B t u0 u1 u2) := fun _ b => h.below b (Nat.le_refl _)
theorem Row3.new (w : World) (t : TypeId) (v0 v1 v2 : Value) : Row3 (w.alloc (.cells #[v0, v1, v2] t)) w.heap.size t v0 v1 v2 := heap_alloc_new w _
end Go.Proofs.Ytbgpcmpbfenplaa.KK
