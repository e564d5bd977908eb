/-
  Plain functions: the lines of a text.
-/
import Derived.Test.YthifbihmogjjpaaDoorPs
namespace Go.Proofs.YthifbihmogjjpaaDoor.Pl
open Go.Lib

/-- Lines: the error, and the lines -/
def lns (l : List UInt8) : Int × List (List UInt8) :=
  if 1048576 < l.length then (3, []) else if l = [] then (0, []) else if l.getLast? = some 10 then (if 5000 < (segs 10 l.dropLast).length then (3, []) else (0, segs 10 l.dropLast)) else (6, [])
theorem lns_long {l : List UInt8} (h : 1048576 < l.length) : lns l = (3, []) := if_pos h
theorem lns_nil : lns [] = (0, []) := rfl
theorem lns_no {l : List UInt8} (h : ¬ 1048576 < l.length) (h0 : l ≠ []) (h1 : ¬ l.getLast? = some 10) : lns l = (6, []) := by
  unfold lns; rw [if_neg h, if_neg h0, if_neg h1]
theorem lns_many {b : List UInt8} (h : ¬ 1048576 < (b ++ [10]).length) (h1 : 5000 < (segs 10 b).length) : lns (b ++ [10]) = (3, []) := by
  unfold lns; rw [if_neg h, if_neg (by simp), if_pos (by simp), List.dropLast_concat, if_pos h1]
theorem lns_ok {b : List UInt8} (h : ¬ 1048576 < (b ++ [10]).length) (h1 : ¬ 5000 < (segs 10 b).length) : lns (b ++ [10]) = (0, segs 10 b) := by
  unfold lns; rw [if_neg h, if_neg (by simp), if_pos (by simp), List.dropLast_concat, if_neg h1]
theorem suf_yes (b : List UInt8) : hasSuffix (b ++ [10]) [10] = true ∧ trimSuffix (b ++ [10]) [10] = b := by
  have h : hasSuffix (b ++ [10]) [10] = true := by
    unfold hasSuffix; rw [List.isSuffixOf_iff_suffix]; exact List.suffix_append _ _
  refine ⟨h, ?_⟩
  unfold trimSuffix
  rw [if_pos h]; simp
theorem suf_no {l : List UInt8} (h : ¬ l.getLast? = some 10) : hasSuffix l [10] = false := by
  rw [Bool.eq_false_iff]
  intro e
  unfold hasSuffix at e
  rw [List.isSuffixOf_iff_suffix] at e
  obtain ⟨t, rfl⟩ := e
  exact h (by simp)
theorem last_split {l : List UInt8} (h : l.getLast? = some 10) : ∃ b, l = b ++ [10] := by
  obtain ⟨h0, h1⟩ := List.getLast?_eq_some_iff.1 h
  exact ⟨h0, h1⟩
theorem lns_few (l : List UInt8) : (lns l).2.length ≤ 5000 := by
  unfold lns
  split
  · exact Nat.zero_le _
  split
  · exact Nat.zero_le _
  split
  · split
    · exact Nat.zero_le _
    · simp only; omega
  · exact Nat.zero_le _
/-- what the reference has found so far, and where the part at hand begins -/
def SoFar (c : UInt8) (s : ByteArray) (from_ i : Nat) (done : List (List UInt8)) : Prop :=
  from_ ≤ i ∧ segs c (L s) = done ++ segs c ((L s).drop from_) ∧ ∀ (j : Nat) (h : j < s.size), from_ ≤ j → j < i → ¬ s[j] = c
theorem SoFar.start (c : UInt8) (s : ByteArray) : SoFar c s 0 0 [] := ⟨Nat.le_refl _, rfl, fun j _ _ h => absurd h (Nat.not_lt_zero _)⟩
theorem SoFar.pass {c : UInt8} {s : ByteArray} {f i : Nat} {d : List (List UInt8)} (h : SoFar c s f i d) (hi : i < s.size) (hc : ¬ s[i] = c) : SoFar c s f (i + 1) d :=
  ⟨by have := h.1; omega, h.2.1, fun j hj h1 h2 => by
    rcases Nat.lt_or_ge j i with g | g
    · exact h.2.2 j hj h1 g
    · obtain rfl : j = i := by omega
      exact hc⟩
theorem SoFar.cut {c : UInt8} {s : ByteArray} {f i : Nat} {d : List (List UInt8)} (h : SoFar c s f i d) (hi : i < s.size) (hc : s[i] = c) : SoFar c s (i + 1) (i + 1) (d ++ [((L s).drop f).take (i - f)]) := by
  obtain ⟨h1, h2, h3⟩ := h
  refine ⟨Nat.le_refl _, ?_, fun j _ g1 g2 => by omega⟩
  have hl : i - f < ((L s).drop f).length := by rw [List.length_drop, L_length]; omega
  rw [h2, segs_hit c ((L s).drop f) (i - f) (fun x hx e => by
    subst e
    obtain ⟨j, hj, he⟩ := List.getElem_of_mem hx
    rw [List.length_take] at hj
    rw [List.getElem_take, List.getElem_drop] at he
    exact h3 (f + j) (by omega) (by omega) (by omega) he) (by
    rw [List.getElem?_eq_getElem hl, List.getElem_drop]
    have : f + (i - f) = i := by omega
    simp only [this]
    exact congrArg some hc)]
  rw [List.drop_drop, show f + (i - f + 1) = i + 1 by omega]
  simp
theorem SoFar.end_ {c : UInt8} {s : ByteArray} {f i : Nat} {d : List (List UInt8)} (h : SoFar c s f i d) (hi : s.size ≤ i) : segs c (L s) = d ++ [(L s).drop f] := by
  obtain ⟨h1, h2, h3⟩ := h
  rw [h2, segs_miss c ((L s).drop f) (fun x hx e => by
    subst e
    obtain ⟨j, hj, he⟩ := List.getElem_of_mem hx
    have hj' := hj
    rw [List.length_drop, L_length] at hj'
    rw [List.getElem_drop] at he
    exact h3 (f + j) (by omega) (by omega) (by omega) he)]
theorem SoFar.lines {s : ByteArray} {f i : Nat} {d : List (List UInt8)} {b : List UInt8} (h : SoFar 10 s f i d) (hi : s.size ≤ i) (hb : L s = b ++ [10]) : segs 10 b = d := by
  have h1 := h.end_ hi
  rw [hb, segs_snoc] at h1
  exact List.append_inj_left' h1 rfl
end Go.Proofs.YthifbihmogjjpaaDoor.Pl
