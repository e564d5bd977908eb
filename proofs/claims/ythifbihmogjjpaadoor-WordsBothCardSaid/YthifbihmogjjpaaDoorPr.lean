/-
  Plain functions: the line of two lists of fields, one behind the other.
-/
import Derived.Test.YthifbihmogjjpaaDoorPp
namespace Go.Proofs.YthifbihmogjjpaaDoor.Pl
open Go.Lib

theorem jn_true : ∀ (m : List (List UInt8 × Bool)) (acc : List UInt8), (m.foldl jstep (acc, true)).1 = acc ++ (m.map fun f => 32 :: wrt f).flatten
  | [], acc => by simp
  | f :: r, acc => by
    rw [List.foldl_cons]
    show (r.foldl jstep (acc ++ 32 :: wrt f, true)).1 = _
    rw [jn_true r]; simp
theorem jn_cons (f : List UInt8 × Bool) (r : List (List UInt8 × Bool)) : jn (f :: r) = wrt f ++ (r.map fun f => 32 :: wrt f).flatten := by
  unfold jn
  rw [List.foldl_cons]
  show (r.foldl jstep (wrt f, true)).1 = _
  rw [jn_true r]
theorem jn_app {l m : List (List UInt8 × Bool)} (hl : l ≠ []) (hm : m ≠ []) : jn (l ++ m) = jn l ++ 32 :: jn m := by
  cases l with
  | nil => exact absurd rfl hl
  | cons f r =>
    cases m with
    | nil => exact absurd rfl hm
    | cons g q =>
      rw [List.cons_append, jn_cons, jn_cons, jn_cons]
      simp
theorem join_ok {fs : List (List UInt8 × Bool)} (h : (join fs).1 = 0) : tooF fs = false ∧ fs.all okF = true ∧ (jn fs).length ≤ 8192 ∧ join fs = (0, jn fs) := by
  unfold join at h ⊢
  cases ht : tooF fs with
  | true => rw [ht] at h; cases h
  | false =>
    rw [ht] at h
    cases ha : fs.all okF with
    | false => rw [ha] at h; cases h
    | true =>
      rw [ha] at h
      by_cases hl : 8192 < (jn fs).length
      · rw [if_neg (by simp), if_pos rfl, if_pos hl] at h; cases h
      · exact ⟨rfl, rfl, by omega, by rw [if_neg (by simp), if_pos rfl, if_neg hl]⟩
theorem tooF_app {l m : List (List UInt8 × Bool)} (h : tooF (l ++ m) = false) : tooF l = false ∧ tooF m = false := by
  unfold tooF at h ⊢
  simp only [Bool.or_eq_false_iff, List.length_append, List.any_append, decide_eq_false_iff_not, Nat.not_lt] at h ⊢
  exact ⟨⟨by omega, h.2.1⟩, ⟨by omega, h.2.2⟩⟩
/-- if both together have a line, each has one -/
theorem join_app {l m : List (List UInt8 × Bool)} (hl : l ≠ []) (hm : m ≠ []) (h : (join (l ++ m)).1 = 0) : (join l).1 = 0 ∧ (join m).1 = 0 ∧ l.length + m.length ≤ 64 ∧ (jn l).length + 1 + (jn m).length ≤ 8192 ∧ (join (l ++ m)).2 = jn l ++ 32 :: jn m := by
  obtain ⟨h1, h2, h3, h4⟩ := join_ok h
  obtain ⟨t1, t2⟩ := tooF_app h1
  rw [List.all_append, Bool.and_eq_true] at h2
  have h64 := (tooF_no h1).1
  rw [List.length_append] at h64
  rw [jn_app hl hm] at h3 h4
  simp only [List.length_append, List.length_cons] at h3
  refine ⟨?_, ?_, h64, by omega, by rw [h4]⟩
  · unfold join; rw [t1, h2.1, if_neg (by simp), if_pos rfl, if_neg (by omega)]
  · unfold join; rw [t2, h2.2, if_neg (by simp), if_pos rfl, if_neg (by omega)]
/-- if each has a line, and they are not too many, both together have one -/
theorem join_both {l m : List (List UInt8 × Bool)} (hl : l ≠ []) (hm : m ≠ []) (h1 : (join l).1 = 0) (h2 : (join m).1 = 0) :
    join (l ++ m) = if 64 < l.length + m.length ∨ 8192 < (jn l).length + 1 + (jn m).length then (3, []) else (0, jn l ++ 32 :: jn m) := by
  obtain ⟨a1, a2, a3, a4⟩ := join_ok h1
  obtain ⟨b1, b2, b3, b4⟩ := join_ok h2
  have ea : (l ++ m).all okF = true := by rw [List.all_append, a2, b2]; rfl
  unfold tooF at a1 b1
  rw [Bool.or_eq_false_iff] at a1 b1
  have et : tooF (l ++ m) = decide (64 < l.length + m.length) := by
    unfold tooF
    rw [List.any_append, a1.2, b1.2, List.length_append]; simp
  unfold join
  rw [et, ea, jn_app hl hm]
  by_cases h64 : 64 < l.length + m.length
  · rw [if_pos (by simpa using h64), if_pos (.inl h64)]
  · rw [if_neg (by simpa using h64), if_pos rfl]
    by_cases h8 : 8192 < (jn l).length + 1 + (jn m).length
    · rw [if_pos (by simp; omega), if_pos (.inr h8)]
    · rw [if_neg (by simp; omega), if_neg (by omega)]
theorem joinf_len (fs : List (List UInt8 × Bool)) : (join fs).2.length ≤ 8192 := by
  unfold join
  split
  · exact Nat.zero_le _
  split
  · split
    · exact Nat.zero_le _
    · simp only; omega
  · exact Nat.zero_le _
end Go.Proofs.YthifbihmogjjpaaDoor.Pl
