/-
  The reference's Sort and Newest, plainly: one put in behind those that are not greater; one kept of each run of a key.
-/
import Derived.Test.YtmobjpmkenpckaaDoorHb
namespace Go.Proofs.YtmobjpmkenpckaaDoor.KK
open Go.ChangeShapes Go.WideShapes Go.ChangeAt Go.RowKit Go.Proofs Go.Sort

/-- one more is put in: the list stays sorted, and stably so -/
theorem ins_step {l m : List V} {i k : Nat} (h : Stb.Stab leV (l.take i) m) (hi : i < l.length) (h1 : ∀ y ∈ m.take k, leV y l[i] = true) (h2 : ∀ y ∈ m.drop k, leV y l[i] = false) : Stb.Stab leV (l.take (i + 1)) (m.take k ++ l[i] :: m.drop k) := by
  have ha : Stb.Asc leV (m.take k ++ m.drop k) := by rw [List.take_append_drop]; exact h.1
  obtain ⟨a1, a2⟩ := Stb.stab_insert preV ha h1 h2
  refine ⟨a1, fun z => ?_⟩
  rw [a2 z, List.take_append_drop, List.filter_append, h.2 z, ← List.filter_append, List.take_succ_eq_append_getElem hi]
/-- where the search from the right ends, none before is greater -/
theorem ins_at {m : List V} {x : V} {k : Nat} (h : Stb.Asc leV m) (hk : k < m.length) (g : leV m[k] x = true) : ∀ y ∈ m.take (k + 1), leV y x = true := by
  intro y hy
  obtain ⟨j, hj, rfl⟩ := List.getElem_of_mem hy
  rw [List.length_take] at hj
  rw [List.getElem_take]
  by_cases e : j = k
  · subst e; exact g
  · exact preV.trans _ _ _ (List.pairwise_iff_getElem.1 h j k (by omega) hk (by omega)) g
theorem cgo_snoc : ∀ (t : List V) (p x : V), cgo p (t ++ [x]) = if x.1.1 = ((p :: t).getLast (by simp)).1.1 then cgo p t else cgo p t ++ [x]
  | [], p, x => by
    by_cases e : x.1.1 = p.1.1
    · simp [cgo, e]
    · simp [cgo, e]
  | y :: t, p, x => by
    have ih := cgo_snoc t y x
    have eL : ((p :: y :: t).getLast (by simp)) = ((y :: t).getLast (by simp)) := by simp
    rw [eL, List.cons_append, cgo, cgo, ih]
    by_cases e : y.1.1 = p.1.1 <;> by_cases g : x.1.1 = ((y :: t).getLast (by simp)).1.1 <;> simp [e, g]
/-- one more of a sorted list is looked at -/
theorem cpt_next {m : List V} {k : Nat} (hk : k + 1 < m.length) : cpt (m.take (k + 1 + 1)) = if m[k + 1].1.1 = m[k].1.1 then cpt (m.take (k + 1)) else cpt (m.take (k + 1)) ++ [m[k + 1]] := by
  cases m with
  | nil => simp at hk
  | cons p t =>
    have hk' : k < t.length := by simpa using hk
    have e1 : (p :: t).take (k + 1 + 1) = p :: (t.take k ++ [t[k]]) := by
      rw [List.take_succ_cons, List.take_succ_eq_append_getElem hk']
    have e2 : (p :: t).take (k + 1) = p :: t.take k := by rw [List.take_succ_cons]
    have e3 : (p :: t)[k + 1] = t[k] := rfl
    have e4 : (p :: t.take k).getLast (by simp) = (p :: t)[k]'(by simp; omega) := by
      have hl : (p :: t.take k).length = k + 1 := by simp; omega
      rw [List.getLast_eq_getElem]
      have : ∀ (q : List V) (a b : Nat) (ha : a < q.length) (hb : b < q.length), a = b → q[a] = q[b] := fun q a b ha hb e => by subst e; rfl
      have g : (p :: t.take k) = (p :: t).take (k + 1) := by rw [List.take_succ_cons]
      simp only [g, List.getElem_take]
      exact this _ _ _ _ _ (by simp; omega)
    rw [e1, e2, e3, cpt, cgo_snoc, e4, cpt]
    by_cases g : t[k].1.1 = ((p :: t)[k]'(by simp; omega)).1.1 <;> simp [g]
end Go.Proofs.YtmobjpmkenpckaaDoor.KK
