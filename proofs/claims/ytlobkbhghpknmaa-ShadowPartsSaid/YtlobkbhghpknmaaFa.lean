/-
  Live, on both sides: the entries of a list that are no tombstones.
-/
import Derived.Test.YtlobkbhghpknmaaEl
import Derived.Deep.AppendLies
namespace Go.Proofs.Ytlobkbhghpknmaa.KK
open Go.ChangeShapes Go.WideShapes Go.ChangeAt Go.RowKit Go.Proofs

theorem new4 (w : World) (x : El.En) : ∀ (j : Nat) (u : Value), ([.string x.1, .string x.2.1, .bool x.2.2.1, .int .i64 x.2.2.2] : List Value)[j]? = some u → (w.alloc (.cells #[.string x.1, .string x.2.1, .bool x.2.2.1, .int .i64 x.2.2.2] 25)).cell? ((⟨w.heap.size, 0, none⟩ : Addr).add j) = some u :=
  World.news_of_block (cs := #[.string x.1, .string x.2.1, .bool x.2.2.1, .int .i64 x.2.2.2]) (t := 25) (fr := (0, 0)) (heap_alloc_new w _)
theorem own_snoc {w : World} {base n : Nat} {v : Value} {ys : List El.En} {x : El.En} (h : w.ownsRow base 25 4 v (n + 1) (cellsE ys ++ [.string x.1, .string x.2.1, .bool x.2.2.1, .int .i64 x.2.2.2])) : w.ownsRow base 25 4 v (n + 1) (cellsE (ys ++ [x])) := by
  rw [cellsE_snoc]; exact h
theorem EsAt.of_own {w : World} {base n : Nat} {A : Option Addr} {c : Nat} {ys : List El.En} (h : w.ownsRow base 25 4 (.slice A n c) n (cellsE ys)) : EsAt w A ys := by
  have hn : n = ys.length := by have := h.1; rw [cellsE_len] at this; omega
  by_cases h0 : ys = []
  · exact .inl h0
  · have hpos : 0 < ys.length := List.length_pos_iff.2 h0
    have hform : ∃ g cap, Value.slice A n c = .slice (some ⟨g, 0, none⟩) n cap ∧ g < w.heap.size := by
      rcases h.2 with ⟨_, h1⟩ | ⟨g, cap, cur, hv, _, hh, _⟩
      · omega
      · exact ⟨g, cap, hv, (Array.getElem?_eq_some_iff.1 hh).1⟩
    obtain ⟨g, cap, hv, hlt⟩ := hform
    have hA : A = some ⟨g, 0, none⟩ := by injection hv
    refine .inr ⟨g, 0, hA, hlt, fun i hi => ?_⟩
    have hcell := h.cells (g := g) (by rw [hv]; rfl)
    have hc := fun c (hc : c < 4) => cellsE_get ys i c hi hc
    have b0 := hcell _ _ ((hc 0 (by omega)).trans rfl)
    have b1 := hcell _ _ ((hc 1 (by omega)).trans rfl)
    have b2 := hcell _ _ ((hc 2 (by omega)).trans rfl)
    have b3 := hcell _ _ ((hc 3 (by omega)).trans rfl)
    rw [add_at'] at b0 b1 b2 b3
    exact ⟨b0, by rw [Nat.add_assoc]; exact b1, by rw [Nat.add_assoc]; exact b2, by rw [Nat.add_assoc]; exact b3⟩
/-- what is no tombstone -/
def aliveE (xs : List El.En) : List El.En := xs.filter fun x => !x.2.2.1
def liveE (xs : List El.En) : List El.En := if (listE xs).2 = 0 then aliveE xs else []
theorem alive_next {xs : List El.En} {k : Nat} (h : k < xs.length) : aliveE (xs.take (k + 1)) = if xs[k].2.2.1 = true then aliveE (xs.take k) else aliveE (xs.take k) ++ [xs[k]] := by
  unfold aliveE
  rw [List.take_succ_eq_append_getElem h, List.filter_append]
  cases hd : xs[k].2.2.1 <;> simp [hd]
theorem alive_le (xs : List El.En) (k : Nat) : (aliveE (xs.take k)).length ≤ k := by
  unfold aliveE
  exact Nat.le_trans (List.length_filter_le _ _) (by rw [List.length_take]; omega)

end Go.Proofs.Ytlobkbhghpknmaa.KK
