/-
  Contracts of entries: keyOrder, compare, Compare, Wins; the reference's order, Compare, Wins.
-/
import Derived.Test.YtlobkbhghpknmaaEc
import Derived.Test.YtlobkbhghpknmaaKc
namespace Go.Proofs.Ytlobkbhghpknmaa.KK
open Go.ChangeShapes Go.WideShapes Go.ChangeAt Go.RowKit Go.Proofs

/-- two structs boxed, one after the other: what their cells hold in whatever world comes of it -/
theorem box2 (k v : ByteArray) (d : Bool) (q : Int) (k2 v2 : ByteArray) (d2 : Bool) (q2 : Int) (w : World) : Hid (∀ w', Below ((w.alloc (.cells #[.string k, .string v, .bool d, .int .i64 q] 25)).alloc (.cells #[.string k2, .string v2, .bool d2, .int .i64 q2] 25)).heap.size ((w.alloc (.cells #[.string k, .string v, .bool d, .int .i64 q] 25)).alloc (.cells #[.string k2, .string v2, .bool d2, .int .i64 q2] 25)) w' →
    (w'.cell? ⟨w.heap.size, 0, none⟩ = some (.string k) ∧ w'.cell? ⟨w.heap.size, 1, none⟩ = some (.string v) ∧ w'.cell? ⟨w.heap.size, 2, none⟩ = some (.bool d) ∧ w'.cell? ⟨w.heap.size, 3, none⟩ = some (.int .i64 q)) ∧
    (w'.cell? ⟨w.heap.size + 1, 0, none⟩ = some (.string k2) ∧ w'.cell? ⟨w.heap.size + 1, 1, none⟩ = some (.string v2) ∧ w'.cell? ⟨w.heap.size + 1, 2, none⟩ = some (.bool d2) ∧ w'.cell? ⟨w.heap.size + 1, 3, none⟩ = some (.int .i64 q2))) := Lib.hid fun w' h => by
  have r1 := fun i => cell_of_row ((w.alloc (.cells #[.string k, .string v, .bool d, .int .i64 q] 25)).alloc (.cells #[.string k2, .string v2, .bool d2, .int .i64 q2] 25)) w.heap.size i _ _ _ (by have h := heap_alloc_new w (.cells #[.string k, .string v, .bool d, .int .i64 q] 25); have h2 := heap_alloc_old (w.alloc (.cells #[.string k, .string v, .bool d, .int .i64 q] 25)) (.cells #[.string k2, .string v2, .bool d2, .int .i64 q2] 25) (r := w.heap.size) (by simp); rw [h2]; exact h)
  have r2 := fun i => cell_of_row ((w.alloc (.cells #[.string k, .string v, .bool d, .int .i64 q] 25)).alloc (.cells #[.string k2, .string v2, .bool d2, .int .i64 q2] 25)) (w.heap.size + 1) i _ _ _ (by have h := heap_alloc_new (w.alloc (.cells #[.string k, .string v, .bool d, .int .i64 q] 25)) (.cells #[.string k2, .string v2, .bool d2, .int .i64 q2] 25); simpa using h)
  have e : ((w.alloc (.cells #[.string k, .string v, .bool d, .int .i64 q] 25)).alloc (.cells #[.string k2, .string v2, .bool d2, .int .i64 q2] 25)).heap.size = w.heap.size + 2 := by simp
  rw [e] at h
  have g1 : ∀ i, w'.cell? ⟨w.heap.size, i, none⟩ = ((w.alloc (.cells #[.string k, .string v, .bool d, .int .i64 q] 25)).alloc (.cells #[.string k2, .string v2, .bool d2, .int .i64 q2] 25)).cell? ⟨w.heap.size, i, none⟩ := fun i => h.cell (p := ⟨w.heap.size, i, none⟩) (by simp)
  have g2 : ∀ i, w'.cell? ⟨w.heap.size + 1, i, none⟩ = ((w.alloc (.cells #[.string k, .string v, .bool d, .int .i64 q] 25)).alloc (.cells #[.string k2, .string v2, .bool d2, .int .i64 q2] 25)).cell? ⟨w.heap.size + 1, i, none⟩ := fun i => h.cell (p := ⟨w.heap.size + 1, i, none⟩) (by simp)
  exact ⟨⟨(g1 0).trans (r1 0), (g1 1).trans (r1 1), (g1 2).trans (r1 2), (g1 3).trans (r1 3)⟩, ⟨(g2 0).trans (r2 0), (g2 1).trans (r2 1), (g2 2).trans (r2 2), (g2 3).trans (r2 3)⟩⟩
theorem box2_below (k v : ByteArray) (d : Bool) (q : Int) (k2 v2 : ByteArray) (d2 : Bool) (q2 : Int) (w : World) : Hid (Below w.heap.size w ((w.alloc (.cells #[.string k, .string v, .bool d, .int .i64 q] 25)).alloc (.cells #[.string k2, .string v2, .bool d2, .int .i64 q2] 25))) := Lib.hid (((Below.refl _ _).alloc (Nat.le_refl _) _).alloc (by simp) _)

theorem ord_key {a b : El.En} (h : Kl.ord (Kl.L a.1) (Kl.L b.1) ≠ 0) : El.ord a b = Kl.ord (Kl.L a.1) (Kl.L b.1) := if_neg h
theorem ord_seq {a b : El.En} (h : Kl.ord (Kl.L a.1) (Kl.L b.1) = 0) : El.ord a b = cmp3 b.2.2.2 a.2.2.2 := if_pos h

end Go.Proofs.Ytlobkbhghpknmaa.KK
