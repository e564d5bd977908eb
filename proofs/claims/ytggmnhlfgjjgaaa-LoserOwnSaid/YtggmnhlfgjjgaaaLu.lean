/-
  Trees of losers: the law LoserLeast.
-/
import Derived.Test.YtggmnhlfgjjgaaaLt
import Derived.BigQuiet
namespace Go.Proofs.Ytggmnhlfgjjgaaa.KK
open Go.ChangeShapes Go.WideShapes Go.ChangeAt Go.RowKit Go.Proofs

theorem infoBo : (Try.prog.info? 4).map (fun i => (i.zero, i.size, i.bytes)) = some (some (.bool false), 1, 1) := by kernel_rfl
/-- which players were met among the first i of L -/
def metV (n : Nat) (L : List Nat) (i : Nat) : List Value := (List.range n).map fun q => .bool (decide (q ∈ L.take i))
theorem metV_zero (n : Nat) (L : List Nat) : metV n L 0 = List.replicate n (.bool false) := by
  unfold metV
  apply List.ext_getElem
  · simp
  · intro i h1 h2; simp
theorem metV_len (n : Nat) (L : List Nat) (i : Nat) : (metV n L i).length = n := by simp [metV]
theorem metV_at {n : Nat} {L : List Nat} {i q : Nat} (hq : q < n) : (metV n L i)[q]'(by rw [metV_len]; exact hq) = .bool (decide (q ∈ L.take i)) := by simp [metV]
theorem metV_set {n : Nat} {L : List Nat} {i : Nat} (hi : i < L.length) : (metV n L i).set L[i] (.bool true) = metV n L (i + 1) := by
  apply List.ext_getElem
  · simp [metV]
  · intro q h1 h2
    rw [List.getElem_set]
    have hq : q < n := by rw [metV_len] at h2; exact h2
    rw [metV_at (i := i + 1) hq, List.take_succ_eq_append_getElem hi]
    by_cases e : L[i] = q
    · rw [if_pos e, e]; simp
    · rw [if_neg e, metV_at (i := i) hq]
      have : (q ∈ L.take i ++ [L[i]]) = (q ∈ L.take i) := by
        rw [List.mem_append, List.mem_singleton]
        exact propext ⟨fun h => h.elim id (fun g => absurd g.symm e), .inl⟩
      simp only [this]
theorem Ord.fresh {ks : List LK} {L : List Nat} (h : Ord ks L) {i : Nat} (hi : i < L.length) : L[i] ∉ L.take i := fun hm => by
  obtain ⟨j, hj, e⟩ := List.getElem_of_mem hm
  have hj' : j < i := by simp at hj; omega
  rw [List.getElem_take] at e
  exact List.pairwise_iff_getElem.1 h.nodup j i (by omega) hi hj' e
theorem natsV_at {L : List Nat} {i : Nat} (h : i < L.length) : (natsV L)[i]'(by simp [natsV]; exact h) = (L[i] : Int) := by simp [natsV]
theorem natsV_len (L : List Nat) : (natsV L).length = L.length := by simp [natsV]
theorem CR.nat {w : World} {b i : Nat} {L : List Nat} (h : CR w b (intsV (natsV L))) (hi : i < L.length) : w.cell? ⟨b, i, none⟩ = some (.int .i64 (L[i] : Int)) := by
  rw [(h.int (i := i) (by rw [natsV_len]; exact hi)).1]
  simp [natsV, hi]

end Go.Proofs.Ytggmnhlfgjjgaaa.KK
