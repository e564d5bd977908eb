/-
  Boxes of two structs.
-/
import Derived.Test.YtpgngiegpigfiaaFv
namespace Go.Proofs.Ytpgngiegpigfiaa.KK
open Go.ChangeShapes Go.WideShapes Go.ChangeAt Go.RowKit Go.Proofs

theorem boxFR (s : Int) (A : Option Addr) (m c : Nat) (lo hi : ByteArray) (b : Bool) (w : World) : Hid (∀ w', Below ((w.alloc (.cells #[.int .i64 s, .slice A m c] 25)).alloc (.cells #[.string lo, .string hi, .bool b] 37)).heap.size ((w.alloc (.cells #[.int .i64 s, .slice A m c] 25)).alloc (.cells #[.string lo, .string hi, .bool b] 37)) w' →
    w'.cell? ⟨w.heap.size, 0, none⟩ = some (.int .i64 s) ∧ w'.cell? ⟨w.heap.size, 1, none⟩ = some (.slice A m c) ∧ w'.cell? ⟨w.heap.size + 1, 0, none⟩ = some (.string lo) ∧ w'.cell? ⟨w.heap.size + 1, 1, none⟩ = some (.string hi) ∧ w'.cell? ⟨w.heap.size + 1, 2, none⟩ = some (.bool b) ∧ w.heap.size + 1 < w'.heap.size ∧ Below w.heap.size w w') := Lib.hid fun w' h => by
  obtain ⟨y0, y1, y2, y3, y4⟩ := (boxR lo hi b (w.alloc (.cells #[.int .i64 s, .slice A m c] 25)) (w.heap.size + 1) (by simp)).out _ h
  obtain ⟨x0, x1, x2, x3⟩ := (boxF s A m c w).out _ y4
  exact ⟨x0, x1, y0, y1, y2, y3, x3⟩
theorem boxFA (s : Int) (A : Option Addr) (m c : Nat) (key : ByteArray) (n : Int) (w : World) : Hid (∀ w', Below ((w.alloc (.cells #[.int .i64 s, .slice A m c] 25)).alloc (.cells #[.string key, .int .i64 n] 45)).heap.size ((w.alloc (.cells #[.int .i64 s, .slice A m c] 25)).alloc (.cells #[.string key, .int .i64 n] 45)) w' →
    w'.cell? ⟨w.heap.size, 0, none⟩ = some (.int .i64 s) ∧ w'.cell? ⟨w.heap.size, 1, none⟩ = some (.slice A m c) ∧ w'.cell? ⟨w.heap.size + 1, 0, none⟩ = some (.string key) ∧ w'.cell? ⟨w.heap.size + 1, 1, none⟩ = some (.int .i64 n) ∧ w.heap.size + 1 < w'.heap.size ∧ Below w.heap.size w w') := Lib.hid fun w' h => by
  have hb : Below (w.alloc (.cells #[.int .i64 s, .slice A m c] 25)).heap.size (w.alloc (.cells #[.int .i64 s, .slice A m c] 25)) w' := (alloc_below _ (.cells #[.string key, .int .i64 n] 45)).trans (h.mono (by simp))
  obtain ⟨x0, x1, x2, x3⟩ := (boxF s A m c w).out _ hb
  have HR := (Row2.new (w.alloc (.cells #[.int .i64 s, .slice A m c] 25)) 45 (.string key) (.int .i64 n)).below h (Nat.le_refl _)
  rw [show (w.alloc (.cells #[.int .i64 s, .slice A m c] 25)).heap.size = w.heap.size + 1 by simp] at HR
  exact ⟨x0, x1, HR.c0, HR.c1, HR.lt, x3⟩
end Go.Proofs.Ytpgngiegpigfiaa.KK
