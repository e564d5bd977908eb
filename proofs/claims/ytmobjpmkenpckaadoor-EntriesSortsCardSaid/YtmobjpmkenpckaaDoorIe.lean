/-
  One list over another, plainly: sizes, that it is a good list; when it is Newest of both.
-/
import Derived.Test.YtmobjpmkenpckaaDoorIc
import Derived.Test.YtmobjpmkenpckaaDoorGi
import Derived.Test.YtmobjpmkenpckaaDoorFc
import Derived.Laws.AppendOwnNone
namespace Go.Proofs.YtmobjpmkenpckaaDoor.KK
open Go.ChangeShapes Go.WideShapes Go.ChangeAt Go.RowKit Go.Proofs Go.Sort

theorem ovr_len (o f : List El.En) : (ovr o f).length ≤ o.length + f.length := by
  induction o, f using ovr.induct with
  | case1 f => rw [ovr]; simp
  | case2 a o => rw [ovr]; simp
  | case3 a o x f h ih => rw [ovr, if_pos h]; simp at ih ⊢; omega
  | case4 a o x f h e ih => rw [ovr, if_neg h, if_pos e]; simp at ih ⊢; omega
  | case5 a o x f h e ih => rw [ovr, if_neg h, if_neg e]; simp at ih ⊢; omega
/-- a good list -/
def Good (xs : List El.En) : Prop := (∀ x ∈ xs, El.chk x = 0) ∧ SK xs
theorem lift_V {xs : List El.En} (h : ∀ x ∈ xs, El.chk x = 0) : ∃ l : List V, l.map (·.1) = xs :=
  by
  obtain ⟨l, e⟩ := to_V xs h
  exact ⟨l, by first | exact e | exact e.symm⟩
theorem SK.sa {l : List V} (h : SK (l.map (·.1))) : SA l := List.pairwise_map.1 h
theorem Good.list {xs : List El.En} (h : Good xs) (hn : xs.length ≤ 5000) : listE xs = (0, 0) := by
  obtain ⟨l, rfl⟩ := lift_V h.1
  exact list_sa h.2.sa (by simpa using hn)
theorem Good.over {xs ys : List El.En} (h : Good xs) (g : Good ys) : Good (ovr xs ys) :=
  ⟨fun z hz => by
    rcases (ovr_mem _ _ h.2 g.2 z).1 hz with hz | hz
    · exact g.1 z hz
    · exact h.1 z hz.1, ovr_sk _ _ h.2 g.2⟩
theorem Good.nil : Good [] := ⟨fun x hx => (by cases hx), List.Pairwise.nil⟩
theorem Good.sized {xs : List El.En} (h : Good xs) : Sized xs := fun x hx => by
  have := El.chk_of (h.1 x hx)
  omega
theorem good_of {xs : List El.En} (h : (listE xs).2 = 0) : Good xs := (list_ok h).2
theorem over_good {xs ys : List El.En} (h : Good xs) (g : Good ys) (hn : xs.length + ys.length ≤ 5000) : overE xs ys = (0, ovr xs ys) := by
  have := ovr_len xs ys
  unfold overE
  rw [h.list (by omega), g.list (by omega), if_neg (by simp), if_neg (by simp), if_neg (by omega)]
theorem over_err {xs ys : List El.En} (h : (overE xs ys).1 ≠ 0) : (overE xs ys).2 = [] := by
  unfold overE at h ⊢
  split
  · rfl
  · split
    · rfl
    · split
      · rfl
      · rename_i h1 h2 h3; rw [if_neg h1, if_neg h2, if_neg h3] at h; exact absurd rfl h
theorem over_ok {xs ys : List El.En} (h : (overE xs ys).1 = 0) : (listE xs).2 = 0 ∧ (listE ys).2 = 0 := by
  unfold overE at h
  by_cases h1 : (listE xs).2 = 0
  · by_cases h2 : (listE ys).2 = 0
    · exact ⟨h1, h2⟩
    · rw [if_neg (by rw [h1]; simp), if_pos h2] at h; exact absurd h h2
  · rw [if_pos h1] at h; exact absurd h h1
theorem far_60 {xs : List El.En} (h : farE xs = false) (g : (listE xs).2 = 0) : xs.length ≤ 60 := by
  have := (list_ok g).1
  unfold farE at h
  by_cases q : 60 < xs.length
  · rw [if_pos q] at h; simp at h; omega
  · omega
theorem SK.inj {l : List El.En} (h : SK l) {x y : El.En} (hx : x ∈ l) (hy : y ∈ l) (e : x.1 = y.1) : x = y := by
  induction l with
  | nil => cases hx
  | cons a t ih =>
    obtain ⟨h1, h2⟩ := List.pairwise_cons.1 h
    rcases List.mem_cons.1 hx with rfl | hx' <;> rcases List.mem_cons.1 hy with rfl | hy'
    · rfl
    · exact absurd e (kl_ne (h1 y hy'))
    · exact absurd e.symm (kl_ne (h1 x hx'))
    · exact ih h2 hx' hy'
/-- all of both are entries, and found in the one over the other -/
theorem both_all {xs ys : List El.En} (h : Good xs) (g : Good ys) (hn : xs.length + ys.length ≤ 5000) : allE (xs ++ ys) = 0 := by
  obtain ⟨l, hl⟩ := lift_V (xs := xs ++ ys) (fun x hx => (List.mem_append.1 hx).elim (h.1 x) (g.1 x))
  have hle : l.length ≤ 5000 := by
    have := congrArg List.length hl
    simp at this; omega
  rw [← hl]; exact all_V l hle
theorem over_key {xs ys : List El.En} (h : Good xs) (g : Good ys) {a : El.En} (ha : a ∈ xs ++ ys) : ∃ b ∈ ovr xs ys, b.1 = a.1 := by
  rcases List.mem_append.1 ha with ha | ha
  · by_cases q : ∀ z ∈ ys, z.1 ≠ a.1
    · exact ⟨a, (ovr_mem _ _ h.2 g.2 a).2 (.inr ⟨ha, q⟩), rfl⟩
    · have : ∃ z ∈ ys, z.1 = a.1 := by
        false_or_by_contra
        rename_i q2
        exact q fun z hz e => q2 ⟨z, hz, e⟩
      obtain ⟨z, hz, e⟩ := this
      exact ⟨z, (ovr_mem _ _ h.2 g.2 z).2 (.inl hz), e⟩
  · exact ⟨a, (ovr_mem _ _ h.2 g.2 a).2 (.inl ha), rfl⟩
theorem over_found {xs ys : List El.En} (h : Good xs) (g : Good ys) (hn : xs.length + ys.length ≤ 5000) {a : El.En} (ha : a ∈ xs ++ ys) : (findE (ovr xs ys) a.1).2 = 0 := by
  have hg := h.over g
  have hl := hg.list (by have := ovr_len xs ys; omega)
  obtain ⟨i, hi, h2, h3⟩ := atE_found (ovr xs ys) 0 (over_key h g ha)
  have hk : a.1.size ≤ 32 := by
    rcases List.mem_append.1 ha with ha | ha
    · exact (El.chk_of (h.1 a ha)).1
    · exact (El.chk_of (g.1 a ha)).1
  rw [findE_some (by rw [hl]) hk (by rw [h2]; omega)]
/-- where all of the second are newer, one over the other is Newest of both -/
theorem newest_over {xs ys ms : List El.En} (h : Good xs) (g : Good ys) (hn : xs.length + ys.length ≤ 5000) (hm : NewOut (xs ++ ys) ms) (hnew : ∀ x ∈ xs, ∀ y ∈ ys, x.2.2.2 < y.2.2.2) : ms = ovr xs ys := by
  have ha := both_all h g hn
  obtain ⟨f1, f2, f3, f4, f5, f6, f7⟩ := newest_facts hm ha
  have hms : SK ms := (list_ok (xs := ms) (by rw [f3])).2.2
  have hnf : ∀ z ∈ xs ++ ys, ∃ b ∈ ms, b.1 = z.1 ∧ z.2.2.2 ≤ b.2.2.2 := fun z hz => by
    obtain ⟨i, hi, e1, e2⟩ := f7 z hz
    have hkey : (∃ b ∈ ms, b.1 = z.1) → ∃ b ∈ ms, b.1 = z.1 ∧ z.2.2.2 ≤ b.2.2.2 := fun hb => by
      obtain ⟨j, hj, e3, e4⟩ := atE_found (key := z.1) ms 0 hb
      have e5 : findE ms z.1 = (atE z.1 0 ms, 0) := by
        have hk : z.1.size ≤ 32 := by
          rcases List.mem_append.1 hz with hz | hz
          · exact (El.chk_of (h.1 z hz)).1
          · exact (El.chk_of (g.1 z hz)).1
        exact findE_some (by rw [f3]) hk (by rw [e3]; omega)
      rw [e5, e3] at e1
      have : i = j := by
        have := congrArg Prod.fst e1
        simp at this; omega
      subst this
      exact ⟨_, List.getElem_mem hi, e4, e2⟩
    refine hkey ?_
    false_or_by_contra
    rename_i q
    have hno : ∀ (k : Nat) (l : List El.En), (∀ b ∈ l, b.1 ≠ z.1) → atE z.1 k l = -1 := by
      intro k l
      induction l generalizing k with
      | nil => intro _; rfl
      | cons b t ih => intro hb; rw [atE, if_neg (hb b (by simp))]; exact ih _ fun c hc => hb c (List.mem_cons_of_mem _ hc)
    have e5 := hno 0 ms (fun b hb e => q ⟨b, hb, e⟩)
    unfold findE at e1
    rw [f3, if_neg (by simp)] at e1
    split at e1
    · have := congrArg Prod.snd e1; simp at this
    · rw [e5, if_pos (by omega)] at e1
      have := congrArg Prod.snd e1; simp at this
  refine SK.ext hms (ovr_sk _ _ h.2 g.2) fun a => ⟨fun ha' => ?_, fun ha' => ?_⟩
  · rcases List.mem_append.1 (f6 a ha') with hx | hy
    · refine (ovr_mem _ _ h.2 g.2 a).2 (.inr ⟨hx, fun z hz e => ?_⟩)
      obtain ⟨b, hb, e1, e2⟩ := hnf z (List.mem_append_right _ hz)
      have := hms.inj hb ha' (e1.trans e)
      subst this
      have := hnew b hx z hz
      omega
    · exact (ovr_mem _ _ h.2 g.2 a).2 (.inl hy)
  · have hin : a ∈ xs ++ ys := by
      rcases (ovr_mem _ _ h.2 g.2 a).1 ha' with q | q
      · exact List.mem_append_right _ q
      · exact List.mem_append_left _ q.1
    obtain ⟨b, hb, e1, e2⟩ := hnf a hin
    rcases (ovr_mem _ _ h.2 g.2 a).1 ha' with q | ⟨q1, q2⟩
    · rcases List.mem_append.1 (f6 b hb) with hx | hy
      · have := hnew b hx a q; omega
      · have := g.2.inj hy q e1
        subst this; exact hb
    · rcases List.mem_append.1 (f6 b hb) with hx | hy
      · have := h.2.inj hx q1 e1
        subst this; exact hb
      · exact absurd e1 (q2 b hy)
/-- what the loop of EntriesLayers finds out: whether all of the second list are newer -/
def NewTo (xs ys : List El.En) (n : Nat) (nw : Bool) : Prop := nw = true → ∀ (i : Nat) (h : i < xs.length), i < n → ∀ y ∈ ys, xs[i].2.2.2 < y.2.2.2
def NewIn (xs ys : List El.En) (n k : Nat) (nw : Bool) : Prop := NewTo xs ys n nw ∧ (nw = true → ∀ (h : n < xs.length) (j : Nat) (g : j < ys.length), j < k → xs[n].2.2.2 < ys[j].2.2.2)
theorem NewTo.start {xs ys : List El.En} {nw : Bool} : NewTo xs ys 0 nw := fun _ i _ h => absurd h (Nat.not_lt_zero i)
theorem NewTo.into {xs ys : List El.En} {n : Nat} {nw : Bool} (h : NewTo xs ys n nw) : NewIn xs ys n 0 nw := ⟨h, fun _ _ j _ hj => absurd hj (Nat.not_lt_zero j)⟩
theorem NewIn.no {xs ys : List El.En} {n k : Nat} {nw : Bool} (_ : NewIn xs ys n k nw) : NewIn xs ys n (k + 1) false := ⟨fun h => (by cases h), fun h => (by cases h)⟩
theorem NewIn.yes {xs ys : List El.En} {n k : Nat} (h : NewIn xs ys n k true) (hn : n < xs.length) (hk : k < ys.length) (g : xs[n].2.2.2 < ys[k].2.2.2) : NewIn xs ys n (k + 1) true :=
  ⟨h.1, fun _ _ j hj hjk => by
    by_cases e : j = k
    · subst e; exact g
    · exact h.2 rfl hn j hj (by omega)⟩
theorem NewIn.done {xs ys : List El.En} {n k : Nat} {nw : Bool} (h : NewIn xs ys n k nw) (hk : n < xs.length → ys.length ≤ k) : NewTo xs ys (n + 1) nw := fun hw i hi hin y hy => by
  by_cases e : i = n
  · subst e
    obtain ⟨j, hj, rfl⟩ := List.getElem_of_mem hy
    exact h.2 hw hi j hj (by have := hk hi; omega)
  · exact h.1 hw i hi (by omega) y hy
theorem NewTo.all {xs ys : List El.En} {n : Nat} (h : NewTo xs ys n true) (hn : xs.length ≤ n) : ∀ x ∈ xs, ∀ y ∈ ys, x.2.2.2 < y.2.2.2 := fun x hx y hy => by
  obtain ⟨i, hi, rfl⟩ := List.getElem_of_mem hx
  exact h rfl i hi (by omega) y hy
set_option maxRecDepth 100000 in
/-- append of a whole list to one's own, wherever the list lies -/
theorem wpList_append_es {ops : Array Oper} {rest : List Oper} {o : Oper} {a : Act} {w : World} {Q : Exit → Act → World → Prop} (hgd : o.guard = none) (s x : Operand)
    (ho : o.op = .call { callee := .builtin .append, args := #[s, x], argTypes := #[22, 22] })
    (base : Nat) (v : Value) (n : Nat) (ys : List El.En) (hs : a.eval s = v) (hown : w.ownsRow base 33 4 v n (cellsE ys))
    (A : Option Addr) (m c : Nat) (xs : List El.En) (hx : a.eval x = .slice A m c) (hm : m = xs.length) (hes : EsAt w A xs) (hnil : A = none → c = 0) (hlen : n + m ≤ 4294967295) (hbase : base ≤ w.heap.size)
    (h : ∀ v' w', w'.ownsRow base 33 4 v' (n + m) (cellsE (ys ++ xs)) → w.grownBy w' v.ownBlock → wpList Tryd.prog ops Q rest (a.put o.dst v') w') :
    wpList Tryd.prog ops Q (o :: rest) a w := by
  obtain ⟨i0, hi, hz0, hz1, hz2⟩ := info_parts infoE
  cases A with
  | none =>
    have hx0 : xs = [] := by
      rcases hes with h0 | ⟨b, off, e, _⟩
      · exact h0
      · cases e
    subst hx0
    have hc := hnil rfl
    subst hc hm
    refine wpList_append_own_none hgd s x 22 ho base 33 i0 4 Tryd.underlying22 hi v n (cellsE ys) hs hown hx ?_
    exact h v w (by simpa using hown) ⟨rfl, rfl, rfl, Nat.le_refl _, fun _ _ _ => rfl⟩
  | some ad =>
    have hnews : ∀ j u, (cellsE xs)[j]? = some u → w.cell? (ad.add j) = some u := fun j u hj => by
      have hne : xs ≠ [] := fun e => by rw [e] at hj; simp [cellsE] at hj
      obtain ⟨b, off, e, _, hc⟩ := hes.cells hne
      injection e with e
      subst e
      rw [add_at']; exact hc j u hj
    refine wpList_append_own w hgd s x 22 ho base 33 i0 (.agg #[.string ⟨#[]⟩, .string ⟨#[]⟩, .bool false, .int .i64 0]) 4 48 Tryd.underlying22 hi hz0 hz1 hz2 rfl (by decide) v n (cellsE ys) hs hown ad m c (cellsE xs) hx (by rw [hm, cellsE_len]) hnews (cellsE_one _) (by unfold maxLen; omega) (by omega) hbase ?_
    intro v' w' hown' hg _
    exact h v' w' (by rw [cellsE_app]; exact hown') hg
end Go.Proofs.YtmobjpmkenpckaaDoor.KK
