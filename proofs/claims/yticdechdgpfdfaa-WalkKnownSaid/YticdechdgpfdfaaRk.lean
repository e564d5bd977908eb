/-
  Runs: Count on both sides.
-/
import Derived.Test.YticdechdgpfdfaaRj
namespace Go.Proofs.Yticdechdgpfdfaa.KK
open Go.ChangeShapes Go.WideShapes Go.ChangeAt Go.RowKit Go.Proofs

theorem sub_next {xs : List El.En} {a k : Nat} (h : a + k < xs.length) : subR xs a (a + (k + 1)) = subR xs a (a + k) ++ [xs[a + k]] := by
  unfold subR
  rw [show a + (k + 1) - a = k + 1 by omega, show a + k - a = k by omega]
  have hk : k < (xs.drop a).length := by rw [List.length_drop]; omega
  rw [List.take_succ_eq_append_getElem hk, List.getElem_drop]
theorem sub_none (xs : List El.En) (a : Nat) : subR xs a (a + 0) = [] := by unfold subR; simp
theorem live_next {xs : List El.En} {a k : Nat} (h : a + k < xs.length) : liveN (subR xs a (a + (k + 1))) = liveN (subR xs a (a + k)) + (if xs[a + k].2.2.1 = true then 0 else 1) := by
  unfold liveN; rw [sub_next h, List.countP_append]; congr 1; cases hd : xs[a + k].2.2.1 <;> simp [List.countP_cons, hd]
theorem dead_next {xs : List El.En} {a k : Nat} (h : a + k < xs.length) : deadN (subR xs a (a + (k + 1))) = deadN (subR xs a (a + k)) + (if xs[a + k].2.2.1 = true then 1 else 0) := by
  unfold deadN; rw [sub_next h, List.countP_append]; congr 1; cases hd : xs[a + k].2.2.1 <;> simp [List.countP_cons, hd]
theorem sub_len_le (xs : List El.En) (a k : Nat) : (subR xs a (a + k)).length ≤ k := by unfold subR; rw [List.length_take]; omega
theorem live_le (xs : List El.En) (a k : Nat) : liveN (subR xs a (a + k)) ≤ k := Nat.le_trans List.countP_le_length (sub_len_le xs a k)
theorem dead_le (xs : List El.En) (a k : Nat) : deadN (subR xs a (a + k)) ≤ k := Nat.le_trans List.countP_le_length (sub_len_le xs a k)
theorem countR_no {id : Int} {xs : List El.En} {lo hi : ByteArray} {b : Bool} (h : (partR id xs lo hi b).2.2 ≠ 0) : countR id xs lo hi b = (0, 0, (partR id xs lo hi b).2.2) := if_pos h
theorem countR_ok {id : Int} {xs : List El.En} {lo hi : ByteArray} {b : Bool} (h : (partR id xs lo hi b).2.2 = 0) : countR id xs lo hi b = (((liveN (subR xs (inN xs lo) (toN xs lo hi b)) : Nat) : Int), ((deadN (subR xs (inN xs lo) (toN xs lo hi b)) : Nat) : Int), 0) := if_neg (by rw [h]; simp)
theorem part_err {id : Int} {xs : List El.En} {lo hi : ByteArray} {b : Bool} (h : (partR id xs lo hi b).2.2 ≠ 0) : (partR id xs lo hi b).1 = 0 ∧ (partR id xs lo hi b).2.1 = 0 := by
  by_cases h1 : (runE id xs).2 = 0
  · by_cases h2 : chkR lo hi b = 0
    · rw [partR_ok h1 h2] at h; exact absurd rfl h
    · rw [partR_form h1 h2]; exact ⟨rfl, rfl⟩
  · rw [partR_no h1]; exact ⟨rfl, rfl⟩
theorem part_good {id : Int} {xs : List El.En} {lo hi : ByteArray} {b : Bool} (h : (partR id xs lo hi b).2.2 = 0) : partR id xs lo hi b = (((inN xs lo : Nat) : Int), ((toN xs lo hi b : Nat) : Int), 0) ∧ (runE id xs).2 = 0 ∧ chkR lo hi b = 0 := by
  by_cases h1 : (runE id xs).2 = 0
  · by_cases h2 : chkR lo hi b = 0
    · exact ⟨partR_ok h1 h2, h1, h2⟩
    · rw [partR_form h1 h2] at h; exact absurd h h2
  · rw [partR_no h1] at h; exact absurd h h1
theorem Row2.set0 {W : World} {B : Nat} {t : TypeId} {v0 v1 : Value} (h : Row2 W B t v0 v1) (u0 : Value) : Row2 (W.setCell ⟨B, 0, none⟩ u0) B t u0 v1 := by
  unfold Row2 at h ⊢; simp [World.setCell, Array.getElem?_modify, h]
end Go.Proofs.Yticdechdgpfdfaa.KK
