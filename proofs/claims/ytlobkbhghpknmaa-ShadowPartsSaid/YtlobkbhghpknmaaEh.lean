/-
  Contracts of CheckList, on both sides.
-/
import Derived.Test.YtlobkbhghpknmaaEg
namespace Go.Proofs.Ytlobkbhghpknmaa.KK
open Go.ChangeShapes Go.WideShapes Go.ChangeAt Go.RowKit Go.Proofs

/-- what is wrong with an entry behind another one -/
def wrong (p : Option El.En) (x : El.En) : Int :=
  if El.chk x = 0 then (match p with | none => 0 | some y => if 0 ≤ Kl.ord (Kl.L y.1) (Kl.L x.1) then 6 else 0) else El.chk x
def scan : Nat → Option El.En → List El.En → Int × Int
  | _, _, [] => (0, 0)
  | i, p, x :: t => if wrong p x = 0 then scan (i + 1) (some x) t else ((i : Int), wrong p x)
def listE (xs : List El.En) : Int × Int := if 5000 < xs.length then (-1, 3) else scan 0 none xs
def prev (xs : List El.En) : Nat → Option El.En
  | 0 => none
  | k + 1 => xs[k]?
theorem prev_succ {xs : List El.En} {k : Nat} (h : k < xs.length) : prev xs (k + 1) = some xs[k] := List.getElem?_eq_getElem h
theorem scan_ok {xs : List El.En} {k : Nat} (h : k < xs.length) (g : wrong (prev xs k) xs[k] = 0) : scan k (prev xs k) (xs.drop k) = scan (k + 1) (prev xs (k + 1)) (xs.drop (k + 1)) := by
  rw [List.drop_eq_getElem_cons h, prev_succ h]; exact if_pos g
theorem scan_no {xs : List El.En} {k : Nat} (h : k < xs.length) (g : wrong (prev xs k) xs[k] ≠ 0) : scan k (prev xs k) (xs.drop k) = ((k : Int), wrong (prev xs k) xs[k]) := by
  rw [List.drop_eq_getElem_cons h]; exact if_neg g
theorem scan_end {xs : List El.En} {k : Nat} {p : Option El.En} (h : ¬ k < xs.length) : scan k p (xs.drop k) = (0, 0) := by
  rw [List.drop_eq_nil_of_le (by omega)]; rfl
theorem wrong_chk {p : Option El.En} {x : El.En} (h : El.chk x ≠ 0) : wrong p x = El.chk x := if_neg h
theorem wrong_none {x : El.En} (h : El.chk x = 0) : wrong none x = 0 := if_pos h
theorem wrong_up {y x : El.En} (h : El.chk x = 0) (g : ¬ 0 ≤ Kl.ord (Kl.L y.1) (Kl.L x.1)) : wrong (some y) x = 0 := by unfold wrong; rw [if_pos h]; exact if_neg g
theorem wrong_down {y x : El.En} (h : El.chk x = 0) (g : 0 ≤ Kl.ord (Kl.L y.1) (Kl.L x.1)) : wrong (some y) x = 6 := by unfold wrong; rw [if_pos h]; exact if_pos g
theorem retP {a b c d : Int} {p : Int × Int} (h : p = (a, b)) (g : a = c) (k : b = d) : Ending.returned (.tuple #[.int .i64 c, .int .i64 d]) = .returned (.tuple #[.int .i64 p.1, .int .i64 p.2]) := by rw [h, g, k]
theorem cell_alloc_old {w : World} {o : Obj} {b i : Nat} (h : b < w.heap.size) : (w.alloc o).cell? ⟨b, i, none⟩ = w.cell? ⟨b, i, none⟩ := by
  unfold World.cell?; rw [heap_alloc_old w o h]
theorem abv_cell {w1 : World} {b o : Nat} {v : Value} (hb : b < w1.heap.size) (h : w1.cell? ⟨b, o, none⟩ = some v) : ∀ p : Abv w1, p.world.cell? ⟨b, o, none⟩ = some v :=
  fun p => (p.h.cell (p := ⟨b, o, none⟩) hb).trans h
theorem box1 (k v : ByteArray) (d : Bool) (q : Int) (w : World) : Hid (∀ w', Below (w.alloc (.cells #[.string k, .string v, .bool d, .int .i64 q] 25)).heap.size (w.alloc (.cells #[.string k, .string v, .bool d, .int .i64 q] 25)) w' →
    w'.cell? ⟨w.heap.size, 0, none⟩ = some (.string k) ∧ w'.cell? ⟨w.heap.size, 1, none⟩ = some (.string v) ∧ w'.cell? ⟨w.heap.size, 2, none⟩ = some (.bool d) ∧ w'.cell? ⟨w.heap.size, 3, none⟩ = some (.int .i64 q) ∧ w.heap.size < w'.heap.size) := Lib.hid fun w' h => by
  have r1 := fun i => cell_of_row (w.alloc (.cells #[.string k, .string v, .bool d, .int .i64 q] 25)) w.heap.size i _ _ _ (heap_alloc_new w (.cells #[.string k, .string v, .bool d, .int .i64 q] 25))
  have g1 : ∀ i, w'.cell? ⟨w.heap.size, i, none⟩ = (w.alloc (.cells #[.string k, .string v, .bool d, .int .i64 q] 25)).cell? ⟨w.heap.size, i, none⟩ := fun i => h.cell (p := ⟨w.heap.size, i, none⟩) (by simp)
  exact ⟨(g1 0).trans (r1 0), (g1 1).trans (r1 1), (g1 2).trans (r1 2), (g1 3).trans (r1 3), by have := h.size; simp at this; omega⟩
theorem fst_of {p : Int × Int} {a b : Int} (h : p = (a, b)) : p.1 = a ∧ p.2 = b := by rw [h]; exact ⟨rfl, rfl⟩

end Go.Proofs.Ytlobkbhghpknmaa.KK
