/-
  Sorted lists, plainly: each entry as often; the newest of a list that is turned.
-/
import Derived.Test.YtmobjpmkenpckaaDoorGi
namespace Go.Proofs.YtmobjpmkenpckaaDoor.KK
open Go.ChangeShapes Go.WideShapes Go.ChangeAt Go.RowKit Go.Proofs Go.Sort

/-- how often v stands in a list; among the used ones; among the others -/
def cnt (v : El.En) (ys : List El.En) : Nat := (ys.filter (fun x => decide (x = v))).length
def usedN (v : El.En) : List Bool → List El.En → Nat
  | b :: us, s :: ss => (if b = true ∧ s = v then 1 else 0) + usedN v us ss
  | _, _ => 0
def freeN (v : El.En) : List Bool → List El.En → Nat
  | b :: us, s :: ss => (if b = false ∧ s = v then 1 else 0) + freeN v us ss
  | _, _ => 0
theorem used_free (v : El.En) : ∀ (us : List Bool) (ss : List El.En), us.length = ss.length → usedN v us ss + freeN v us ss = cnt v ss
  | [], [], _ => rfl
  | b :: us, s :: ss, h => by
    have := used_free v us ss (by simpa using h)
    unfold cnt at this ⊢
    rw [usedN, freeN, List.filter_cons]
    cases b <;> by_cases e : s = v <;> simp [e] <;> omega
theorem free_pos {v : El.En} : ∀ {us : List Bool} {ss : List El.En}, 0 < freeN v us ss → ∃ j : Nat, us[j]? = some false ∧ ss[j]? = some v
  | [], _, h => by cases h
  | b :: us, [], h => by cases h
  | b :: us, s :: ss, h => by
    by_cases e : b = false ∧ s = v
    · exact ⟨0, by simp [e.1], by simp [e.2]⟩
    · rw [freeN, if_neg e, Nat.zero_add] at h
      obtain ⟨j, h1, h2⟩ := free_pos h
      exact ⟨j + 1, by simpa using h1, by simpa using h2⟩
theorem used_set {v : El.En} : ∀ {us : List Bool} {ss : List El.En} {j : Nat} {s : El.En}, us[j]? = some false → ss[j]? = some s → usedN v (us.set j true) ss = usedN v us ss + (if s = v then 1 else 0)
  | [], _, _, _, h, _ => by simp at h
  | b :: us, [], _, _, _, h => by simp at h
  | b :: us, t :: ss, 0, s, h1, h2 => by
    simp at h1 h2
    subst h1 h2
    rw [List.set_cons_zero, usedN, usedN]
    by_cases e : t = v <;> simp [e] <;> omega
  | b :: us, t :: ss, j + 1, s, h1, h2 => by
    have := used_set (v := v) (us := us) (ss := ss) (j := j) (s := s) (by simpa using h1) (by simpa using h2)
    rw [List.set_cons_succ, usedN, usedN, this]; omega
theorem cnt_take {v : El.En} {xs : List El.En} {i : Nat} (h : i < xs.length) : cnt v (xs.take (i + 1)) = cnt v (xs.take i) + (if xs[i] = v then 1 else 0) := by
  unfold cnt
  rw [List.take_succ_eq_append_getElem h, List.filter_append, List.length_append]
  congr 1
  by_cases e : xs[i] = v <;> simp [e]
theorem cnt_le {v : El.En} {xs : List El.En} (i : Nat) : cnt v (xs.take i) ≤ cnt v xs := by
  unfold cnt
  exact (List.Sublist.filter _ (List.take_sublist i xs)).length_le
theorem used_none (v : El.En) : ∀ (n : Nat) (ss : List El.En), usedN v (List.replicate n false) ss = 0
  | 0, _ => rfl
  | n + 1, [] => rfl
  | n + 1, s :: ss => by rw [List.replicate_succ, usedN, used_none v n ss]; simp
theorem cnt_stab {l l' : List V} (h : Stb.Stab leV l l') (v : El.En) : cnt v (l'.map (·.1)) = cnt v (l.map (·.1)) := by
  by_cases hv : ∃ z : V, z.1 = v
  · obtain ⟨z, rfl⟩ := hv
    have e : ∀ m : List V, cnt z.1 (m.map (·.1)) = ((m.filter (Stb.eqv leV z)).filter (fun x => decide (x.1 = z.1))).length := fun m => by
      unfold cnt
      rw [List.filter_map, List.length_map, List.filter_filter]
      congr 1
      apply List.filter_congr
      intro x _
      by_cases q : x.1 = z.1
      · have : x = z := Subtype.ext q
        subst this
        simp [Stb.eqv_self preV]
      · simp [q]
    rw [e, e, h.2 z]
  · have e : ∀ m : List V, cnt v (m.map (·.1)) = 0 := fun m => by
      unfold cnt
      rw [List.length_eq_zero_iff, List.filter_eq_nil_iff]
      intro x hx
      obtain ⟨y, _, rfl⟩ := List.mem_map.1 hx
      simp
      exact fun q => hv ⟨y, q⟩
    rw [e, e]
/-- the used ones are those that came before -/
def Used (xs ss : List El.En) (us : List Bool) (i : Nat) : Prop := us.length = ss.length ∧ ∀ v, usedN v us ss = cnt v (xs.take i)
theorem Used.next {xs ss : List El.En} {us : List Bool} {i : Nat} (h : Used xs ss us i) (hi : i < xs.length) {j : Nat} (h1 : us[j]? = some false) (h2 : ss[j]? = some xs[i]) : Used xs ss (us.set j true) (i + 1) :=
  ⟨by rw [List.length_set]; exact h.1, fun v => by rw [used_set h1 h2, h.2 v, cnt_take hi]⟩
theorem Used.more {xs ss : List El.En} {us : List Bool} {i : Nat} (h : Used xs ss us i) (hi : i < xs.length) (hc : ∀ v, cnt v ss = cnt v xs) : ∃ j : Nat, us[j]? = some false ∧ ss[j]? = some xs[i] := by
  apply free_pos
  have h1 := used_free xs[i] us ss h.1
  have h2 := cnt_le (v := xs[i]) (xs := xs) (i + 1)
  rw [cnt_take hi, if_pos rfl] at h2
  rw [h.2, hc] at h1
  omega
theorem El.ord_swap (a b : El.En) : El.ord a b = - El.ord b a := by
  unfold El.ord
  have h := Kl.ord_swap (Kl.L a.1) (Kl.L b.1)
  by_cases e : Kl.ord (Kl.L b.1) (Kl.L a.1) = 0
  · rw [if_pos (by rw [h, e]; rfl), if_pos e]
    split <;> split <;> (try split) <;> (try split) <;> omega
  · rw [if_neg (by rw [h]; omega), if_neg e, h]
theorem asc_ord {x y : V} (h : leV x y = true) : El.ord x.1 y.1 ≤ 0 := by
  have h1 := El.le_iff.1 h
  have h2 := El.ord_swap x.1 y.1
  omega
/-- strictly ascending -/
def Str (l : List V) : Prop := l.Pairwise fun x y => leV y x = false
theorem str_of {l : List V} (h : Stb.Asc leV l) (g : ∀ (j : Nat) (x y : V), l[j]? = some x → l[j + 1]? = some y → El.ord x.1 y.1 ≠ 0) : Str l := by
  induction l with
  | nil => exact List.Pairwise.nil
  | cons x t ih =>
    obtain ⟨h1, h2⟩ := List.pairwise_cons.1 h
    have ih := ih h2 (fun j a b ha hb => g (j + 1) a b (by simpa using ha) (by simpa using hb))
    refine List.pairwise_cons.2 ⟨fun z hz => ?_, ih⟩
    cases t with
    | nil => cases hz
    | cons y s =>
      have hxy : leV y x = false := by
        have a := asc_ord (h1 y (by simp))
        have b := g 0 x y rfl rfl
        exact leV_false (by omega)
      rcases List.mem_cons.1 hz with rfl | hz
      · exact hxy
      · cases q : leV z x with
        | false => rfl
        | true =>
          have := preV.trans y z x ((List.pairwise_cons.1 h2).1 z hz) q
          rw [hxy] at this; cases this
theorem str_one {l : List V} (h : Str l) (z : V) : (l.filter (Stb.eqv leV z)).length ≤ 1 := by
  induction l with
  | nil => simp
  | cons x t ih =>
    obtain ⟨h1, h2⟩ := List.pairwise_cons.1 h
    rw [List.filter_cons]
    by_cases q : Stb.eqv leV z x = true
    · rw [if_pos q, Stb.filter_none]
      · simp
      · intro y hy
        cases g : Stb.eqv leV z y with
        | false => rfl
        | true =>
          simp [Stb.eqv] at q g
          have := preV.trans y z x g.2 q.1
          rw [h1 y hy] at this; cases this
    · rw [if_neg q]; exact ih h2
theorem stab_turn {l l' : List V} (h : Stb.Stab leV l l') (g : Str l') : Stb.Stab leV l.reverse l' := by
  refine ⟨h.1, fun z => ?_⟩
  rw [List.filter_reverse, ← h.2 z]
  have := str_one g z
  match l'.filter (Stb.eqv leV z), this with
  | [], _ => rfl
  | [x], _ => rfl
  | _ :: _ :: _, h => simp at h
theorem allE_reverse {xs : List El.En} (h : allE xs = 0) : allE xs.reverse = 0 := by
  obtain ⟨h1, h2⟩ := allE_ok h
  rw [allE, if_neg (by simpa using h1)]
  exact firstE_zero fun x hx => h2 x (by simpa using hx)
theorem newest_turn {xs ss ys zs : List El.En} (hs : SortOut xs ss) (he : allE xs = 0) (g : ∀ (j : Nat) (x y : El.En), ss[j]? = some x → ss[j + 1]? = some y → El.ord x y ≠ 0) (h1 : NewOut xs ys) (h2 : NewOut xs.reverse zs) : ys = zs := by
  rcases hs with ⟨h, _⟩ | ⟨_, l, l', rfl, rfl, hst⟩
  · exact absurd he h
  have hstr : Str l' := str_of hst.1 (fun j x y hx hy => g j x.1 y.1 (by rw [List.getElem?_map, hx]; rfl) (by rw [List.getElem?_map, hy]; rfl))
  rcases h1 with ⟨h, _⟩ | ⟨_, k, k', e1, rfl, e2⟩
  · exact absurd he h
  rcases h2 with ⟨h, _⟩ | ⟨_, m, m', f1, rfl, f2⟩
  · exact absurd (allE_reverse he) h
  have := map_inj e1
  subst this
  rw [← List.map_reverse] at f1
  have := map_inj f1
  subst this
  rw [Stb.Stab.unique preV e2 hst, Stb.Stab.unique preV f2 (stab_turn hst hstr)]
/-- what the law of Sort asks, of lists -/
theorem sorted_facts {xs ss : List El.En} (hs : SortOut xs ss) (he : allE xs = 0) : ss.length = xs.length ∧ (∀ v, cnt v ss = cnt v xs) ∧ (∀ x ∈ ss, El.chk x = 0) ∧ (∀ (j : Nat) (x y : El.En), ss[j]? = some x → ss[j + 1]? = some y → El.ord x y ≤ 0) := by
  rcases hs with ⟨h, _⟩ | ⟨_, l, l', rfl, rfl, hst⟩
  · exact absurd he h
  refine ⟨by simp [Stb.stab_length preV hst], cnt_stab hst, fun x hx => ?_, fun j x y hx hy => ?_⟩
  · obtain ⟨y, _, rfl⟩ := List.mem_map.1 hx
    exact y.2
  · rw [List.getElem?_map] at hx hy
    obtain ⟨x', hx', rfl⟩ := Option.map_eq_some_iff.1 hx
    obtain ⟨y', hy', rfl⟩ := Option.map_eq_some_iff.1 hy
    obtain ⟨a1, rfl⟩ := List.getElem?_eq_some_iff.1 hx'
    obtain ⟨a2, rfl⟩ := List.getElem?_eq_some_iff.1 hy'
    exact asc_ord (List.pairwise_iff_getElem.1 hst.1 j (j + 1) a1 a2 (by omega))
end Go.Proofs.YtmobjpmkenpckaaDoor.KK
