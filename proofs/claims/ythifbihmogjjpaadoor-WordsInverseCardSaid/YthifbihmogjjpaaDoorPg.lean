/-
  Plain functions: the fields of a line.
-/
import Derived.Test.YthifbihmogjjpaaDoorPf
namespace Go.Proofs.YthifbihmogjjpaaDoor.Pl
open Go.Lib

def bareN (l : List UInt8) : Nat := (l.takeWhile bareC).length
theorem bareN_le (l : List UInt8) : bareN l ≤ l.length := (List.takeWhile_sublist _).length_le
theorem bareN_of : ∀ (l : List UInt8) (m : Nat), m ≤ l.length → (l.take m).all bareC = true → (l.drop m).head?.map bareC ≠ some true → bareN l = m
  | [], m, h, _, _ => by simp at h; subst h; rfl
  | c :: r, 0, _, _, h => by
    simp only [List.drop_zero, List.head?_cons, Option.map_some] at h
    unfold bareN
    rw [List.takeWhile_cons, if_neg (by simpa using h)]; rfl
  | c :: r, m + 1, hl, ha, h => by
    simp only [List.take_succ_cons, List.all_cons, Bool.and_eq_true] at ha
    have := bareN_of r m (by simpa using hl) ha.2 (by simpa using h)
    unfold bareN at this ⊢
    rw [List.takeWhile_cons, if_pos ha.1, List.length_cons, this]
/-- one field at the head: its string, whether it is quoted, and how many places it takes -/
def fld (l : List UInt8) : Option ((List UInt8 × Bool) × Nat) :=
  if l.head? = some 34 then (rq l).map (fun x => ((x.1, true), x.2)) else if bareN l = 0 then none else some ((l.take (bareN l), false), bareN l)
theorem fld_len {l : List UInt8} {x : List UInt8 × Bool} {n : Nat} (h : fld l = some (x, n)) : 1 ≤ n ∧ n ≤ l.length := by
  unfold fld at h
  split at h
  · cases hr : rq l with
    | none => rw [hr] at h; cases h
    | some y =>
      obtain ⟨t, m⟩ := y
      rw [hr] at h
      have := rq_len hr
      simp only [Option.map_some, Option.some.injEq, Prod.mk.injEq] at h
      omega
  · split at h
    · cases h
    · have := bareN_le l
      simp only [Option.some.injEq, Prod.mk.injEq] at h
      omega
/-- what is yielded from here on: the fields; none at the end where the form is broken -/
def its' : Nat → List UInt8 → List (Option (List UInt8 × Bool))
  | 0, _ => []
  | f + 1, l => match fld l with
    | none => [none]
    | some (x, n) => some x :: (match l.drop n with | [] => [] | c :: r => if c = 32 then its' f r else [none])
theorem its'_more : ∀ (f : Nat) (l : List UInt8), l.length < f → its' (f + 1) l = its' f l
  | 0, _, h => absurd h (Nat.not_lt_zero _)
  | f + 1, l, h => by
    rw [its', its']
    cases hf : fld l with
    | none => rfl
    | some y =>
      obtain ⟨x, n⟩ := y
      have hn := fld_len hf
      simp only
      cases hd : l.drop n with
      | nil => rfl
      | cons c r =>
        simp only
        have : r.length < f := by
          have e : (l.drop n).length = r.length + 1 := by rw [hd]; rfl
          rw [List.length_drop] at e; omega
        rw [its'_more f r this]
theorem its'_enough : ∀ (d f : Nat) (l : List UInt8), l.length < f → its' (f + d) l = its' f l
  | 0, _, _, _ => rfl
  | d + 1, f, l, h => by rw [← Nat.add_assoc, its'_more (f + d) l (by omega), its'_enough d f l h]
def its (l : List UInt8) : List (Option (List UInt8 × Bool)) := its' (l.length + 1) l
theorem its_of (f : Nat) (l : List UInt8) (h : l.length < f) : its' f l = its l := by
  have := its'_enough (f - (l.length + 1)) (l.length + 1) l (by omega)
  rw [show l.length + 1 + (f - (l.length + 1)) = f by omega] at this
  exact this
def tail (l : List UInt8) : List (Option (List UInt8 × Bool)) := match l with | [] => [] | c :: r => if c = 32 then its r else [none]
theorem its_none {l : List UInt8} (h : fld l = none) : its l = [none] := by rw [its, its', h]
theorem its_some {l : List UInt8} {x : List UInt8 × Bool} {n : Nat} (h : fld l = some (x, n)) : its l = some x :: tail (l.drop n) := by
  have hn := fld_len h
  rw [its, its', h]
  simp only
  congr 1
  cases hd : l.drop n with
  | nil => rfl
  | cons c r =>
    simp only [tail]
    rw [its_of _ r (by
      have e : (l.drop n).length = r.length + 1 := by rw [hd]; rfl
      rw [List.length_drop] at e; omega)]
theorem tail_end (s : ByteArray) (k : Nat) (h : s.size ≤ k) : tail ((L s).drop k) = [] := by rw [drop_end s k h]; rfl
theorem tail_sp (s : ByteArray) (k : Nat) (h : k < s.size) (hc : s[k] = 32) : tail ((L s).drop k) = its ((L s).drop (k + 1)) := by rw [drop_cons s k h, tail, if_pos hc]
theorem tail_no (s : ByteArray) (k : Nat) (h : k < s.size) (hc : ¬ s[k] = 32) : tail ((L s).drop k) = [none] := by rw [drop_cons s k h, tail, if_neg hc]
theorem fld_q (s : ByteArray) (k : Nat) (h : k < s.size) (hc : s[k] = 34) : fld ((L s).drop k) = (rq ((L s).drop k)).map (fun x => ((x.1, true), x.2)) := by
  unfold fld; rw [if_pos (by rw [drop_cons s k h, hc]; rfl)]
theorem fld_b (s : ByteArray) (k : Nat) (h : s.size ≤ k ∨ ∃ h : k < s.size, ¬ s[k] = 34) : fld ((L s).drop k) = if bareN ((L s).drop k) = 0 then none else some ((((L s).drop k).take (bareN ((L s).drop k)), false), bareN ((L s).drop k)) := by
  unfold fld
  rw [if_neg]
  rcases h with h | ⟨h, hc⟩
  · rw [drop_end s k h]; simp
  · rw [drop_cons s k h]; simpa using hc
theorem bare_step (s : ByteArray) (k0 k : Nat) (h0 : k0 ≤ k) (h : k < s.size) (ha : (((L s).drop k0).take (k - k0)).all bareC = true) (hk : bareC s[k] = true) : (((L s).drop k0).take (k + 1 - k0)).all bareC = true := by
  have hl : k - k0 < ((L s).drop k0).length := by rw [List.length_drop, L_length]; omega
  have e : ((L s).drop k0)[k - k0] = s[k] := by
    rw [List.getElem_drop]
    have : k0 + (k - k0) = k := by omega
    simp only [this]; rfl
  rw [show k + 1 - k0 = (k - k0) + 1 by omega, List.take_succ_eq_append_getElem hl, List.all_append, ha, e]
  simp [hk]
theorem bare_stop (s : ByteArray) (k0 k : Nat) (h0 : k0 ≤ k) (h : k < s.size) (ha : (((L s).drop k0).take (k - k0)).all bareC = true) (hk : bareC s[k] = false) : bareN ((L s).drop k0) = k - k0 := by
  apply bareN_of _ _ (by rw [List.length_drop, L_length]; omega) ha
  rw [List.drop_drop, show k0 + (k - k0) = k by omega, drop_cons s k h]
  simp [hk]
theorem bare_end (s : ByteArray) (k0 k : Nat) (h0 : k0 ≤ k) (h1 : k ≤ s.size) (h : s.size ≤ k) (ha : (((L s).drop k0).take (k - k0)).all bareC = true) : bareN ((L s).drop k0) = k - k0 := by
  apply bareN_of _ _ (by rw [List.length_drop, L_length]; omega) ha
  rw [List.drop_drop, show k0 + (k - k0) = k by omega, drop_end s k h]
  simp
theorem its'_len : ∀ (f : Nat) (l : List UInt8), (its' f l).length ≤ f + 1
  | 0, _ => Nat.zero_le _
  | f + 1, l => by
    rw [its']
    cases hf : fld l with
    | none => simp
    | some y =>
      obtain ⟨x, n⟩ := y
      simp only
      cases hd : l.drop n with
      | nil => simp
      | cons c r =>
        simp only
        have := its'_len f r
        split <;> simp only [List.length_cons, List.length_nil] <;> omega
theorem its_len (l : List UInt8) : (its l).length ≤ l.length + 2 := its'_len _ _
end Go.Proofs.YthifbihmogjjpaaDoor.Pl
