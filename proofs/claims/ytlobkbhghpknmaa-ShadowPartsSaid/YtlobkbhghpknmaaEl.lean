/-
  slices.Clone over entries, and the stable sort of fewer than 20.
-/
import Derived.Test.YtlobkbhghpknmaaEi
namespace Go.Proofs.Ytlobkbhghpknmaa.KK
open Go.ChangeShapes Go.WideShapes Go.ChangeAt Go.RowKit Go.Proofs

theorem add_at' (b off j : Nat) : (⟨b, off, none⟩ : Addr).add j = ⟨b, off + j, none⟩ := by unfold Addr.add; split <;> simp_all
theorem infoE : (Try.prog.info? 25).map (fun i => (i.zero, i.size, i.bytes)) = some (some (.agg #[.string ⟨#[]⟩, .string ⟨#[]⟩, .bool false, .int .i64 0]), 4, 48) := by kernel_rfl
def cellsE (xs : List El.En) : List Value := xs.flatMap fun x => [.string x.1, .string x.2.1, .bool x.2.2.1, .int .i64 x.2.2.2]
theorem cellsE_snoc (xs : List El.En) (x : El.En) : cellsE (xs ++ [x]) = cellsE xs ++ [.string x.1, .string x.2.1, .bool x.2.2.1, .int .i64 x.2.2.2] := by simp [cellsE]
theorem cellsE_app (xs ys : List El.En) : cellsE (xs ++ ys) = cellsE xs ++ cellsE ys := by simp [cellsE]
theorem cellsE_len (xs : List El.En) : (cellsE xs).length = xs.length * 4 := by
  induction xs with
  | nil => rfl
  | cons f fs ih => simp only [cellsE, List.flatMap_cons, List.length_append, List.length_cons, List.length_nil] at ih ⊢; omega
theorem cellsE_one (xs : List El.En) : ∀ u ∈ cellsE xs, u.oneCell' = true := by
  intro u hu
  simp only [cellsE, List.mem_flatMap] at hu
  obtain ⟨x, _, hx⟩ := hu
  simp only [List.mem_cons, List.not_mem_nil, or_false] at hx
  rcases hx with rfl | rfl | rfl | rfl <;> rfl
theorem cellsE_get : ∀ (xs : List El.En) (i c : Nat) (h : i < xs.length) (_ : c < 4), (cellsE xs)[i * 4 + c]? = [Value.string xs[i].1, .string xs[i].2.1, .bool xs[i].2.2.1, .int .i64 xs[i].2.2.2][c]?
  | x :: xs, 0, c, _, hc => by
    rw [cellsE, List.flatMap_cons, List.getElem?_append_left (by simp; omega)]; simp
  | x :: xs, i + 1, c, h, hc => by
    have := cellsE_get xs i c (by simpa using h) hc
    have e : ∀ j, (cellsE (x :: xs))[j + 4]? = (cellsE xs)[j]? := fun j => by simp [cellsE]
    rw [show (i + 1) * 4 + c = (i * 4 + c) + 4 by omega, e, this]
    rfl
theorem EsAt.cells {w : World} {A : Option Addr} {xs : List El.En} (h : EsAt w A xs) (hne : xs ≠ []) : ∃ b off, A = some ⟨b, off, none⟩ ∧ b < w.heap.size ∧ ∀ j u, (cellsE xs)[j]? = some u → w.cell? ⟨b, off + j, none⟩ = some u := by
  rcases h with h | ⟨b, off, hA, hb, hc⟩
  · exact absurd h hne
  · refine ⟨b, off, hA, hb, fun j u hj => ?_⟩
    have hl : j < xs.length * 4 := by rw [← cellsE_len]; exact (List.getElem?_eq_some_iff.1 hj).1
    have e : j = j / 4 * 4 + j % 4 := by omega
    have hi : j / 4 < xs.length := by omega
    have hm : j % 4 < 4 := by omega
    rw [e, cellsE_get xs _ _ hi hm] at hj
    obtain ⟨c0, c1, c2, c3⟩ := hc _ hi
    rw [e, ← Nat.add_assoc]
    generalize j % 4 = m at *
    match m, hm with
    | 0, _ => simp at hj; rw [← hj]; exact c0
    | 1, _ => simp at hj; rw [← hj]; exact c1
    | 2, _ => simp at hj; rw [← hj]; exact c2
    | 3, _ => simp at hj; rw [← hj]; exact c3
end Go.Proofs.Ytlobkbhghpknmaa.KK
