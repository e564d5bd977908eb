/-
  slices.stableCmpFunc over entries, however many.
-/
import Derived.Test.YtmobjpmkenpckaaDoorGe
namespace Go.Proofs.YtmobjpmkenpckaaDoor.KK
open Go.ChangeShapes Go.WideShapes Go.ChangeAt Go.RowKit Go.Proofs Go.Sort

theorem sm_any : ∀ N, MergeOk N
  | 0 => fun base bk o cap n P U W R w hN hU hW => absurd hN (by omega)
  | N + 1 => fun base bk o cap n P U W R w hN hU hW aU aW hr hb hbase hlen hn => by
    by_cases h1 : U.length = 1
    · obtain ⟨x, rfl⟩ : ∃ x, U = [x] := List.length_eq_one_iff.1 h1
      have K := sm_left base bk o cap n P W R x w (by simpa using hr) hb hbase (by simpa using hlen) hn aW
      simpa using K
    · by_cases h2 : W.length = 1
      · obtain ⟨y, rfl⟩ : ∃ y, W = [y] := List.length_eq_one_iff.1 h2
        have K := sm_right base bk o cap n P U R y w (by simpa using hr) hb hbase (by simpa using hlen) hn aU h1
        simpa using K
      · exact sm_gen N (sm_any N) base bk o cap n P U W R w hN (by omega) (by omega) aU aW hr hb hbase hlen hn
/-- the same entries in each class, in their order -/
def Kin (l l' : List V) : Prop := ∀ z, l'.filter (Stb.eqv leV z) = l.filter (Stb.eqv leV z)
theorem Kin.refl (l : List V) : Kin l l := fun _ => rfl
theorem Kin.trans {a b c : List V} (h : Kin a b) (k : Kin b c) : Kin a c := fun z => (k z).trans (h z)
theorem Kin.mid {P X X' R : List V} (h : Stb.Stab leV X X') : Kin (P ++ (X ++ R)) (P ++ (X' ++ R)) := fun z => by
  simp only [List.filter_append]; rw [h.2 z]
theorem Kin.len {P X X' R : List V} (h : Stb.Stab leV X X') : (P ++ (X' ++ R)).length = (P ++ (X ++ R)).length := by
  simp [Stb.stab_length preV h]
theorem Kin.len' {l l' : List V} (h : Kin l l') : l'.length = l.length := by
  -- a list that is sorted is not asked for: count by classes
  have H : ∀ (n : Nat) (l l' : List V), l.length ≤ n → Kin l l' → l'.length = l.length := by
    intro n
    induction n with
    | zero =>
      intro l l' hl h
      have : l = [] := List.eq_nil_of_length_eq_zero (by omega)
      subst this
      cases l' with
      | nil => rfl
      | cons y t => have := h y; simp [Stb.eqv_self preV] at this
    | succ n ih =>
      intro l l' hl h
      cases l with
      | nil =>
        cases l' with
        | nil => rfl
        | cons y t => have := h y; simp [Stb.eqv_self preV] at this
      | cons x t =>
        have part : ∀ m : List V, m.length = (m.filter (Stb.eqv leV x)).length + (m.filter (fun y => !Stb.eqv leV x y)).length := fun m => by
          induction m with
          | nil => rfl
          | cons y s ihs => by_cases g : Stb.eqv leV x y = true <;> simp [List.filter_cons, g] at * <;> omega
        have hlt : ((x :: t).filter (fun y => !Stb.eqv leV x y)).length ≤ n := by
          have := part (x :: t)
          rw [List.filter_cons, if_pos (Stb.eqv_self preV x), List.length_cons] at this
          rw [List.length_cons] at hl this
          omega
        have hk : Kin ((x :: t).filter (fun y => !Stb.eqv leV x y)) (l'.filter (fun y => !Stb.eqv leV x y)) := fun z => by
          have hz := h z
          have e : ∀ m : List V, (m.filter (fun y => !Stb.eqv leV x y)).filter (Stb.eqv leV z) = (m.filter (Stb.eqv leV z)).filter (fun y => !Stb.eqv leV x y) := fun m => by
            rw [List.filter_filter, List.filter_filter]; congr 1; funext y; rw [Bool.and_comm]
          rw [e, e, hz]
        have := ih _ _ hlt hk
        rw [part l', part (x :: t), h x, this]
  exact H l.length l l' (Nat.le_refl _) h
theorem Kin.stab {l l' : List V} (h : Kin l l') (a : Stb.Asc leV l') : Stb.Stab leV l l' := ⟨a, h⟩
/-- each stretch of m entries is ascending, as far as k; each one -/
def Runs (m k : Nat) (l : List V) : Prop := ∀ i, i * m < k → Stb.Asc leV ((l.drop (i * m)).take m)
def All (m : Nat) (l : List V) : Prop := ∀ i, Stb.Asc leV ((l.drop (i * m)).take m)
theorem asc_sub {l : List V} (h : Stb.Asc leV l) (k : Nat) : Stb.Asc leV (l.take k) := List.Pairwise.sublist (List.take_sublist k l) h
theorem mul_le' {q i m : Nat} (h : q < i) : q * m + m ≤ i * m := by
  have := Nat.mul_le_mul_right m (show q + 1 ≤ i from h); rw [Nat.add_mul, Nat.one_mul] at this; exact this
theorem head_eq {P : List V} {i m q : Nat} (hP : P.length = q * m) (h : i < q) (Z : List V) : ((P ++ Z).drop (i * m)).take m = (P.drop (i * m)).take m := by
  have h2 := mul_le' (m := m) h
  rw [List.drop_append_of_le_length (by omega), List.take_append_of_le_length (by rw [List.length_drop]; omega)]
theorem Runs.step {m q : Nat} {P X X' R : List V} (hm : 0 < m) (h : Runs m (q * m) (P ++ (X ++ R))) (hP : P.length = q * m) (hX : Stb.Stab leV X X') (hXm : X.length = m) : Runs m (q * m + m) (P ++ (X' ++ R)) := by
  intro i hi
  rcases Nat.lt_or_ge i q with h' | h'
  · rw [head_eq hP h']
    have h2 := mul_le' (m := m) h'
    have := h i (by omega)
    rw [head_eq hP h'] at this
    exact this
  · have : i = q := by
      rcases Nat.lt_or_ge q i with g | g
      · have := mul_le' (m := m) g; omega
      · omega
    subst this
    rw [← hP, List.drop_append_of_le_length (Nat.le_refl _), List.drop_of_length_le (Nat.le_refl _), List.nil_append, List.take_append_of_le_length (by rw [Stb.stab_length preV hX]; omega), List.take_of_length_le (by rw [Stb.stab_length preV hX]; omega)]
    exact hX.1
theorem Runs.last {m q : Nat} {P X X' : List V} (h : Runs m (q * m) (P ++ (X ++ []))) (hP : P.length = q * m) (hX : Stb.Stab leV X X') (hXm : X.length ≤ m) : All m (P ++ (X' ++ [])) := by
  intro i
  rw [List.append_nil]
  rw [List.append_nil] at h
  rcases Nat.lt_or_ge i q with h' | h'
  · rw [head_eq hP h']
    have h2 := mul_le' (m := m) h'
    by_cases hm : m = 0
    · subst hm; simp [Stb.Asc]
    · have := h i (by omega)
      rw [head_eq hP h'] at this
      exact this
  · rcases Nat.lt_or_ge q i with g | g
    · have := mul_le' (m := m) g
      rw [List.drop_of_length_le (by rw [List.length_append, Stb.stab_length preV hX, hP]; omega)]
      simp [Stb.Asc]
    · have : i = q := by omega
      subst this
      rw [← hP, List.drop_append_of_le_length (Nat.le_refl _), List.drop_of_length_le (Nat.le_refl _), List.nil_append]
      exact asc_sub hX.1 _
theorem rest_eq {P X X' R : List V} {k m : Nat} (hX : X'.length = X.length) (h : P.length + X.length ≤ k) : ((P ++ (X' ++ R)).drop k).take m = ((P ++ (X ++ R)).drop k).take m := by
  have e : ∀ Y : List V, Y.length = X.length → (P ++ (Y ++ R)).drop k = R.drop (k - (P.length + X.length)) := fun Y hY => by
    rw [← List.append_assoc, List.drop_append, List.drop_of_length_le (by rw [List.length_append]; omega), List.nil_append, List.length_append, hY]
  rw [e X' hX, e X rfl]
theorem split2 (l : List V) (a k : Nat) : l = l.take a ++ ((l.drop a).take k ++ l.drop (a + k)) := by
  conv => lhs; rw [← List.take_append_drop a l]
  congr 1
  conv => lhs; rw [← List.take_append_drop k (l.drop a)]
  rw [List.drop_drop]
theorem split3 (l : List V) (a m k : Nat) : l = l.take a ++ ((l.drop a).take m ++ ((l.drop (a + m)).take k ++ l.drop (a + m + k))) := by
  conv => lhs; rw [split2 l a m]
  congr 1; congr 1
  conv => lhs; rw [← List.take_append_drop k (l.drop (a + m))]
  rw [List.drop_drop]
end Go.Proofs.YtmobjpmkenpckaaDoor.KK
