/-
  The newest entries, plainly: ascending, of each key one, none newer left out.
-/
import Derived.Test.YtmobjpmkenpckaaDoorGh
namespace Go.Proofs.YtmobjpmkenpckaaDoor.KK
open Go.ChangeShapes Go.WideShapes Go.ChangeAt Go.RowKit Go.Proofs Go.Sort

/-- keys ascend, none twice -/
def SA (l : List V) : Prop := l.Pairwise fun x y => Kl.lt (Kl.L x.1.1) (Kl.L y.1.1) = true
theorem lt_of_le {p x : V} (h : leV p x = true) (g : x.1.1 ≠ p.1.1) : Kl.lt (Kl.L p.1.1) (Kl.L x.1.1) = true := by
  have h1 := (El.le_iff'.1 h).1
  cases q : Kl.lt (Kl.L p.1.1) (Kl.L x.1.1) with
  | true => rfl
  | false => exact absurd (El.key_eq.1 (Kl.lt_total h1 q)) g
theorem lt_ne {a b : ByteArray} (h : Kl.lt (Kl.L a) (Kl.L b) = true) : b ≠ a := fun e => by rw [e, Kl.lt_irrefl] at h; cases h
theorem le_of_lt {p x : V} (h : Kl.lt (Kl.L p.1.1) (Kl.L x.1.1) = true) : leV p x = true :=
  El.le_iff'.2 ⟨Kl.lt_asymm h, fun e => by rw [e, Kl.lt_irrefl] at h; cases h⟩
theorem cgo_facts : ∀ (t : List V) (p : V), Stb.Asc leV (p :: t) → (∀ y ∈ cgo p t, y ∈ t ∧ Kl.lt (Kl.L p.1.1) (Kl.L y.1.1) = true) ∧ SA (cgo p t) ∧ (∀ z ∈ t, z.1.1 = p.1.1 ∨ ∃ y ∈ cgo p t, y.1.1 = z.1.1 ∧ z.1.2.2.2 ≤ y.1.2.2.2)
  | [], p, _ => ⟨(fun y h => (by cases h)), List.Pairwise.nil, (fun z h => (by cases h))⟩
  | x :: s, p, h => by
    obtain ⟨hp, hs⟩ := List.pairwise_cons.1 h
    obtain ⟨i1, i2, i3⟩ := cgo_facts s x hs
    by_cases e : x.1.1 = p.1.1
    · have ec : cgo p (x :: s) = cgo x s := by rw [cgo, if_pos e]
      rw [ec]
      refine ⟨fun y hy => ⟨List.mem_cons_of_mem _ (i1 y hy).1, by rw [← e]; exact (i1 y hy).2⟩, i2, fun z hz => ?_⟩
      rcases List.mem_cons.1 hz with rfl | hz
      · exact .inl e
      · rcases i3 z hz with g | g
        · exact .inl (g.trans e)
        · exact .inr g
    · have ec : cgo p (x :: s) = x :: cgo x s := by rw [cgo, if_neg e]
      have hpx := lt_of_le (hp x (by simp)) e
      rw [ec]
      refine ⟨fun y hy => ?_, List.pairwise_cons.2 ⟨fun y hy => (i1 y hy).2, i2⟩, fun z hz => ?_⟩
      · rcases List.mem_cons.1 hy with rfl | hy
        · exact ⟨by simp, hpx⟩
        · exact ⟨List.mem_cons_of_mem _ (i1 y hy).1, Kl.lt_trans hpx (i1 y hy).2⟩
      · rcases List.mem_cons.1 hz with rfl | hz
        · exact .inr ⟨z, by simp, rfl, Int.le_refl _⟩
        · rcases i3 z hz with g | ⟨y, hy, g1, g2⟩
          · refine .inr ⟨x, by simp, g.symm, ?_⟩
            have hxz := (List.pairwise_cons.1 hs).1 z hz
            exact (El.le_iff'.1 hxz).2 (by rw [g])
          · exact .inr ⟨y, List.mem_cons_of_mem _ hy, g1, g2⟩
theorem cpt_facts {l : List V} (h : Stb.Asc leV l) : (∀ y ∈ cpt l, y ∈ l) ∧ SA (cpt l) ∧ (∀ z ∈ l, ∃ y ∈ cpt l, y.1.1 = z.1.1 ∧ z.1.2.2.2 ≤ y.1.2.2.2) := by
  cases l with
  | nil => exact ⟨(fun y h => (by cases h)), List.Pairwise.nil, (fun z h => (by cases h))⟩
  | cons x t =>
    obtain ⟨i1, i2, i3⟩ := cgo_facts t x h
    refine ⟨fun y hy => ?_, List.pairwise_cons.2 ⟨fun y hy => (i1 y hy).2, i2⟩, fun z hz => ?_⟩
    · rcases List.mem_cons.1 hy with rfl | hy
      · simp
      · exact List.mem_cons_of_mem _ (i1 y hy).1
    · rcases List.mem_cons.1 hz with rfl | hz
      · exact ⟨z, by simp [cpt], rfl, Int.le_refl _⟩
      · rcases i3 z hz with g | ⟨y, hy, g1, g2⟩
        · refine ⟨x, by simp [cpt], g.symm, ?_⟩
          exact (El.le_iff'.1 ((List.pairwise_cons.1 h).1 z hz)).2 (by rw [g])
        · exact ⟨y, List.mem_cons_of_mem _ hy, g1, g2⟩
theorem cgo_len : ∀ (t : List V) (p : V), (cgo p t).length ≤ t.length
  | [], _ => Nat.le_refl _
  | x :: s, p => by
    have := cgo_len s x
    rw [cgo]; split <;> simp <;> omega
theorem cpt_len (l : List V) : (cpt l).length ≤ l.length := by
  cases l with
  | nil => exact Nat.le_refl _
  | cons x t => have := cgo_len t x; simp [cpt]; exact this
theorem SA.asc {l : List V} (h : SA l) : Stb.Asc leV l := List.Pairwise.imp (fun h => le_of_lt h) h
theorem cgo_sa : ∀ (t : List V) (p : V), SA (p :: t) → cgo p t = t
  | [], _, _ => rfl
  | x :: s, p, h => by
    obtain ⟨hp, hs⟩ := List.pairwise_cons.1 h
    rw [cgo, if_neg (lt_ne (hp x (by simp))), cgo_sa s x hs]
theorem cpt_sa {l : List V} (h : SA l) : cpt l = l := by
  cases l with
  | nil => rfl
  | cons x t => rw [cpt, cgo_sa t x h]
theorem SA.inj {l : List V} (h : SA l) {x y : V} (hx : x ∈ l) (hy : y ∈ l) (e : x.1.1 = y.1.1) : x = y := by
  induction l with
  | nil => cases hx
  | cons z t ih =>
    obtain ⟨h1, h2⟩ := List.pairwise_cons.1 h
    rcases List.mem_cons.1 hx with ex | hx'
    · rcases List.mem_cons.1 hy with ey | hy'
      · rw [ex, ey]
      · rw [ex] at e; exact absurd e.symm (lt_ne (h1 y hy'))
    · rcases List.mem_cons.1 hy with ey | hy'
      · rw [ey] at e; exact absurd e (lt_ne (h1 x hx'))
      · exact ih h2 hx' hy'
theorem map_inj {a b : List V} (h : a.map (·.1) = b.map (·.1)) : a = b := by
  induction a generalizing b with
  | nil => cases b with
    | nil => rfl
    | cons y t => simp at h
  | cons x s ih => cases b with
    | nil => simp at h
    | cons y t =>
      simp only [List.map_cons, List.cons.injEq] at h
      rw [Subtype.ext h.1, ih h.2]
theorem all_V (l : List V) (h : l.length ≤ 5000) : allE (l.map (·.1)) = 0 := by
  rw [allE, if_neg (by simpa using h)]
  exact firstE_zero fun x hx => by
    obtain ⟨y, _, rfl⟩ := List.mem_map.1 hx
    exact y.2
theorem scan_sa : ∀ (l : List V) (i : Nat) (p : Option V), (∀ q, p = some q → SA (q :: l)) → (p = none → SA l) → scan i (p.map (·.1)) (l.map (·.1)) = (0, 0)
  | [], _, _, _, _ => rfl
  | x :: t, i, p, h1, h2 => by
    have hx : SA (x :: t) := by
      cases p with
      | none => exact h2 rfl
      | some q => exact (List.pairwise_cons.1 (h1 q rfl)).2
    have hw : wrong (p.map (·.1)) x.1 = 0 := by
      cases p with
      | none => exact wrong_none x.2
      | some q =>
        refine wrong_up x.2 ?_
        have := (List.pairwise_cons.1 (h1 q rfl)).1 x (by simp)
        rw [Kl.ord_nonneg]
        rw [this]; simp
    rw [List.map_cons, scan, if_pos hw]
    exact scan_sa t (i + 1) (some x) (fun q hq => by cases hq; exact hx) (fun hq => by cases hq)
theorem list_sa {l : List V} (h : SA l) (hn : l.length ≤ 5000) : listE (l.map (·.1)) = (0, 0) := by
  rw [listE, if_neg (by simpa using hn)]
  exact scan_sa l 0 none (fun q hq => by cases hq) (fun _ => h)
theorem atE_found {key : ByteArray} : ∀ (ys : List El.En) (k : Nat), (∃ y ∈ ys, y.1 = key) → ∃ (i : Nat) (h : i < ys.length), atE key k ys = ((k + i : Nat) : Int) ∧ (ys[i]).1 = key
  | [], _, ⟨_, h, _⟩ => by cases h
  | x :: t, k, ⟨y, hy, e⟩ => by
    by_cases g : x.1 = key
    · exact ⟨0, by simp, by rw [atE, if_pos g]; rfl, g⟩
    · have hy' : y ∈ t := by
        rcases List.mem_cons.1 hy with rfl | hy
        · exact absurd e g
        · exact hy
      obtain ⟨i, hi, h1, h2⟩ := atE_found t (k + 1) ⟨y, hy', e⟩
      exact ⟨i + 1, by simp; omega, by rw [atE, if_neg g, h1]; congr 1; omega, by simpa using h2⟩
/-- what the law of Newest asks, of lists -/
theorem newest_facts {xs ys : List El.En} (h : NewOut xs ys) (he : allE xs = 0) :
    ys.length ≤ 5000 ∧ allE ys = 0 ∧ listE ys = (0, 0) ∧ (∀ zs, SortOut ys zs → zs = ys) ∧ (∀ zs, NewOut ys zs → zs = ys) ∧ (∀ y ∈ ys, y ∈ xs) ∧
      (∀ x ∈ xs, ∃ (i : Nat) (h : i < ys.length), findE ys x.1 = ((i : Int), 0) ∧ x.2.2.2 ≤ (ys[i]).2.2.2) := by
  rcases h with ⟨h, _⟩ | ⟨_, l, l', rfl, rfl, hst⟩
  · exact absurd he h
  obtain ⟨hn, hv⟩ := allE_ok he
  have hl : l'.length = l.length := Stb.stab_length preV hst
  have hc := cpt_len l'
  obtain ⟨f1, f2, f3⟩ := cpt_facts hst.1
  have hn' : (cpt l').length ≤ 5000 := by simp at hn; omega
  have hlist := list_sa f2 hn'
  refine ⟨by simpa using hn', all_V _ hn', hlist, fun zs hz => ?_, fun zs hz => ?_, fun y hy => ?_, fun x hx => ?_⟩
  · rcases hz with ⟨h, _⟩ | ⟨_, k, k', h1, rfl, h3⟩
    · exact absurd (all_V _ hn') h
    · have := map_inj h1
      subst this
      rw [Stb.Stab.unique preV h3 (Stb.Stab.refl f2.asc)]
  · rcases hz with ⟨h, _⟩ | ⟨_, k, k', h1, rfl, h3⟩
    · exact absurd (all_V _ hn') h
    · have := map_inj h1
      subst this
      rw [Stb.Stab.unique preV h3 (Stb.Stab.refl f2.asc), cpt_sa f2]
  · obtain ⟨y', h1, rfl⟩ := List.mem_map.1 hy
    exact List.mem_map.2 ⟨y', (hst.mem preV).1 (f1 y' h1), rfl⟩
  · obtain ⟨x', h1, rfl⟩ := List.mem_map.1 hx
    obtain ⟨y, hy, e1, e2⟩ := f3 x' ((hst.mem preV).2 h1)
    obtain ⟨i, hi, h2, h3⟩ := atE_found ((cpt l').map (·.1)) 0 ⟨y.1, List.mem_map.2 ⟨y, hy, rfl⟩, e1⟩
    refine ⟨i, hi, ?_, ?_⟩
    · rw [findE_some (by rw [hlist]) (El.chk_of x'.2).1 (by rw [h2]; omega), h2, Nat.zero_add]
    · have hi' : i < (cpt l').length := by simpa using hi
      have e3 : ((cpt l').map (·.1))[i] = ((cpt l')[i]).1 := by simp
      rw [e3] at h3 ⊢
      have := f2.inj (x := (cpt l')[i]) (y := y) (List.getElem_mem hi') hy (by rw [h3, e1])
      rw [this]; exact e2
end Go.Proofs.YtmobjpmkenpckaaDoor.KK
