/-
  Trees of losers: the law LoserGames.
-/
import Derived.Test.YtggmnhlfgjjgaaaLu
namespace Go.Proofs.Ytggmnhlfgjjgaaa.KK
open Go.ChangeShapes Go.WideShapes Go.ChangeAt Go.RowKit Go.Proofs

/-- how many of the first i losers differ -/
def cntD (A B : List Int) (i : Nat) : Nat := Lo.ham i A B
theorem cntD_succ (A B : List Int) (i : Nat) : cntD A B (i + 1) = cntD A B i + (if A.getD i 0 = B.getD i 0 then 0 else 1) := by
  unfold cntD Lo.ham
  rw [List.range_succ, List.countP_append, List.countP_cons, List.countP_nil]
  by_cases h : A.getD i 0 = B.getD i 0 <;> simp [h]
theorem cntD_le (A B : List Int) : ∀ i, cntD A B i ≤ i
  | 0 => by simp [cntD, Lo.ham]
  | i + 1 => by rw [cntD_succ]; have := cntD_le A B i; split <;> omega
theorem ham_games {ks : List LK} (h : keysE ks = 0) (k : LK) : cntD (loL ks) (loL (ks.set (wnr ks) k)) ks.length ≤ Lo.gm ((ks.length + wnr ks) / 2) := by
  obtain ⟨L', hE, hr, hh⟩ := Lo.climb_again' (wn_tot (ks.set (wnr ks) k)) (wnr_lt h) (wn_set (ks := ks) (k := k)) rfl (loL_row ks) 0
  have hr2 := loL_row (ks.set (wnr ks) k)
  rw [List.length_set] at hr2
  rw [Row_eq hr hr2] at hh
  exact hh
theorem gm_facts {n p : Nat} (hp : p < n) (hn : n ≤ 32) : Lo.gm ((n + p) / 2) ≤ 5 ∧ (1 ≤ Lo.gm ((n + p) / 2) → 2 ^ (Lo.gm ((n + p) / 2) - 1) < n) := by
  refine ⟨Lo.gm_five (by omega), fun h => ?_⟩
  rcases Nat.eq_zero_or_pos ((n + p) / 2) with e | e
  · rw [e, Lo.gm_zero] at h; omega
  · have := Lo.gm_pow _ e; omega
end Go.Proofs.Ytggmnhlfgjjgaaa.KK
