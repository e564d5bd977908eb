/-
  Contract of a list's add, of a builder's Add.
-/
import Derived.Test.YtkphadkmmjcmnaaBe
import Derived.Deep.RegionLaw
namespace Go.Proofs.Ytkphadkmmjcmnaa.KK
open Go.ChangeShapes Go.WideShapes Go.ChangeAt Go.RowKit Go.Proofs

/-- what Add answers, and what there is then -/
def addE (most : Nat) (xs : List El.En) (x : El.En) : Int :=
  if El.chk x ≠ 0 then El.chk x else if xs ≠ [] ∧ ¬ 0 < Kl.ord (Kl.L x.1) (Kl.L (lastE xs).1) then 6 else if most ≤ xs.length then 5 else 0
def addL (most : Nat) (xs : List El.En) (x : El.En) : List El.En := if addE most xs x = 0 then xs ++ [x] else xs
theorem addE_chk {most : Nat} {xs : List El.En} {x : El.En} (h : El.chk x ≠ 0) : addE most xs x = El.chk x := if_pos h
theorem addE_form {most : Nat} {xs : List El.En} {x : El.En} (h : El.chk x = 0) (g : xs ≠ [] ∧ ¬ 0 < Kl.ord (Kl.L x.1) (Kl.L (lastE xs).1)) : addE most xs x = 6 := by
  unfold addE; rw [if_neg (by simpa using h), if_pos g]
theorem addE_full {most : Nat} {xs : List El.En} {x : El.En} (h : El.chk x = 0) (g : ¬ (xs ≠ [] ∧ ¬ 0 < Kl.ord (Kl.L x.1) (Kl.L (lastE xs).1))) (k : most ≤ xs.length) : addE most xs x = 5 := by
  unfold addE; rw [if_neg (by simpa using h), if_neg g, if_pos k]
theorem addE_ok {most : Nat} {xs : List El.En} {x : El.En} (h : El.chk x = 0) (g : ¬ (xs ≠ [] ∧ ¬ 0 < Kl.ord (Kl.L x.1) (Kl.L (lastE xs).1))) (k : ¬ most ≤ xs.length) : addE most xs x = 0 := by
  unfold addE; rw [if_neg (by simpa using h), if_neg g, if_neg k]
theorem addE_zero {most : Nat} {xs : List El.En} {x : El.En} (h : addE most xs x = 0) : El.chk x = 0 ∧ xs.length < most ∧ (xs ≠ [] → 0 < Kl.ord (Kl.L x.1) (Kl.L (lastE xs).1)) := by
  unfold addE at h
  by_cases h1 : El.chk x = 0
  · rw [if_neg (by simpa using h1)] at h
    by_cases h2 : xs ≠ [] ∧ ¬ 0 < Kl.ord (Kl.L x.1) (Kl.L (lastE xs).1)
    · rw [if_pos h2] at h; cases h
    · rw [if_neg h2] at h
      by_cases h3 : most ≤ xs.length
      · rw [if_pos h3] at h; cases h
      · exact ⟨h1, by omega, fun k => Classical.byContradiction fun m => h2 ⟨k, m⟩⟩
  · rw [if_pos h1] at h; exact absurd h h1
/-- what a builder's entries are -/
def OkL (most : Nat) (xs : List El.En) : Prop := xs.length ≤ most ∧ most ≤ 5000 ∧ ∀ y ∈ xs, El.chk y = 0
theorem OkL.nil {most : Nat} (h : most ≤ 5000) : OkL most [] := ⟨Nat.zero_le _, h, fun y hy => by cases hy⟩
theorem OkL.add {most : Nat} {xs : List El.En} (h : OkL most xs) (x : El.En) : OkL most (addL most xs x) := by
  unfold addL
  by_cases g : addE most xs x = 0
  · rw [if_pos g]
    obtain ⟨h1, h2, _⟩ := addE_zero g
    refine ⟨by rw [List.length_append]; simp; omega, h.2.1, fun y hy => ?_⟩
    rcases List.mem_append.1 hy with hy | hy
    · exact h.2.2 y hy
    · simp at hy; rw [hy]; exact h1
  · rw [if_neg g]; exact h
theorem lastE_mem {xs : List El.En} (h : xs ≠ []) : lastE xs ∈ xs := by
  unfold lastE
  rw [List.getLastD_eq_getLast?, List.getLast?_eq_some_getLast h]; exact List.getLast_mem h
theorem OkL.last {most : Nat} {xs : List El.En} (h : OkL most xs) : (lastE xs).1.size ≤ 32 := by
  by_cases g : xs = []
  · subst g; decide
  · exact (El.chk_of (h.2.2 _ (lastE_mem g))).1
/-- behind a call that may add an entry to the builder M -/
def AddOut (base M most : Nat) (st : Int) (v : Value) (wb : Option Nat) (xs : List El.En) (w w' : World) (ys : List El.En) : Prop :=
  ∃ v' wb', Bd w' M st most v' ∧ Rv w' base v' ys wb' ∧ Chg (fun k => k = M ∨ some k = wb) w w' ∧ (wb' = wb ∨ ∃ g, wb' = some g ∧ w.heap.size ≤ g) ∧ (∀ g, v'.ownBlock = some g → v.ownBlock = some g ∨ w.heap.size ≤ g) ∧ (∀ A n c, v = .slice A n c → EsAt w' A xs) ∧ (wb' = none → v' = v ∧ ys = xs)
theorem AddOut.same {base M most : Nat} {st : Int} {wb : Option Nat} {w w' : World} {v : Value} {ys : List El.En} (h : Bd w M st most v) (g : Rv w base v ys wb) (hb : Below w.heap.size w w') : AddOut base M most st v wb ys w w' ys := by
  obtain ⟨A, c, hv, _, _, hes⟩ := g.form
  exact ⟨v, wb, h.below hb, g.below hb, .of_below hb, .inl rfl, fun _ h => .inl h, fun A' n' c' e => by rw [hv] at e; injection e with e; subst e; exact hes.below hb (Nat.le_refl _), fun _ => ⟨rfl, rfl⟩⟩
theorem AddOut.after {base M most : Nat} {st : Int} {v : Value} {wb : Option Nat} {w w1 w' : World} {xs ys : List El.En} (h : AddOut base M most st v wb xs w1 w' ys) (hb : Below w.heap.size w w1) : AddOut base M most st v wb xs w w' ys := by
  obtain ⟨v', wb', h1, h2, h3, h4, h6, h7⟩ := h
  refine ⟨v', wb', h1, h2, (Chg.of_below hb).trans h3, ?_, fun g hg => (h6 g hg).imp id (fun h => Nat.le_trans hb.size h), h7⟩
  rcases h4 with h4 | ⟨g, h4, h5⟩
  · exact .inl h4
  · exact .inr ⟨g, h4, Nat.le_trans hb.size h5⟩
/-- the store behind the append -/
theorem EsAt.pre {w : World} {A : Option Addr} {xs ys : List El.En} (h : EsAt w A (xs ++ ys)) : EsAt w A xs := by
  rcases h with h | ⟨b, off, hA, hb, hc⟩
  · exact .inl (List.append_eq_nil_iff.1 h).1
  · refine .inr ⟨b, off, hA, hb, fun i hi => ?_⟩
    have := hc i (by rw [List.length_append]; omega)
    rw [List.getElem_append_left hi] at this
    exact this
/-- what a builder has does not lie where the builder lies -/
theorem Rv.notM {w : World} {base M most : Nat} {st : Int} {u v : Value} {ys : List El.En} {wb : Option Nat} (h : Rv w base v ys wb) (hb : Bd w M st most u) : ∀ n c a, v = .slice (some a) n c → ¬ a.block = M := by
  rintro n c a rfl e
  rcases h with ⟨_, hz, hown⟩ | ⟨_, h0, g, e2, hes⟩
  · rcases hown.2 with ⟨h1, _⟩ | ⟨g, cap, cur, e2, _, hg, _⟩
    · cases h1
    · injection e2 with e2; injection e2 with e2; subst e2
      unfold Bd at hb; simp only at e; rw [← e, hg] at hb
      injection hb with hb; injection hb with _ hb _; exact absurd hb (by decide)
  · injection e2 with e2; injection e2 with e2; subst e2
    simp only at e
    subst e
    obtain ⟨b, off, e3, _, hc⟩ := hes.cells h0
    injection e3 with e3; injection e3 with e3 e4; subst e3; subst e4
    have hx : 0 < ys.length := List.length_pos_iff.2 h0
    have c0 := hc 0 _ ((cellsE_get ys 0 0 hx (by omega)).trans rfl)
    rw [Nat.zero_add, hb.c0] at c0; cases c0
theorem AddOut.stored {base M most : Nat} {st : Int} {wb : Option Nat} {w w1 : World} {v : Value} {ys : List El.En} {x : El.En} (h : Bd w M st most v) (hr : Rv w base v ys wb) {g cap : Nat}
    (hown : w1.ownsRow base 36 4 (.slice (some ⟨g, 0, none⟩) (ys.length + 1) cap) (ys.length + 1) (cellsE (ys ++ [x]))) (hg : w.grownBy w1 wb) (hat : wb = some g ∨ (g = w.heap.size ∧ w.grownBy w1 none)) :
    AddOut base M most st v wb ys w (w1.setCell ⟨M, 3, none⟩ (.slice (some ⟨g, 0, none⟩) (ys.length + 1) cap)) (ys ++ [x]) := by
  have hnb := hr.notB h
  have h1 : Bd w1 M st most v := h.chg (Chg.of_grown hg) (fun e => hnb e.symm)
  have hr1 : Rv w1 base (.slice (some ⟨g, 0, none⟩) (ys.length + 1) cap) (ys ++ [x]) (some g) := .inl ⟨rfl, (fun e => by simp at e), by rw [List.length_append]; exact hown⟩
  have hgM : g ≠ M := fun e => hr1.notB h1 (by rw [e])
  refine ⟨_, some g, h1.set3 _, hr1.set (fun A n c e => by injection e with e; injection e with e; subst e; exact hgM), ?_, ?_, ?_, ?_, fun e => by cases e⟩
  · exact ((Chg.of_grown hg).mono (fun k hk => .inr hk)).trans ((chg_set M 3 _).mono (fun k hk => .inl hk))
  · rcases hat with e | e
    · exact .inl e.symm
    · exact .inr ⟨g, rfl, by have := e.1; omega⟩
  · intro g2 hg2
    injection hg2 with hg2; subst hg2
    rcases hat with e | e
    · left
      rcases hr with ⟨e2, _⟩ | ⟨e2, _⟩
      · rw [← e2]; exact e
      · rw [e2] at e; cases e
    · right; simp only; have := e.1; omega
  · intro A n c hv
    have hAM : ∀ a, A = some a → ¬ a.block = M := fun a ha e => by
      subst ha
      exact (hr.notM h) n c _ hv e
    refine (chg_set M 3 _).es ?_ hAM
    rcases hat with e | e
    · rcases hr with ⟨e2, _, ho⟩ | ⟨e2, _⟩
      · rw [hv] at e2
        cases A with
        | none => rw [e] at e2; cases e2
        | some a =>
          rw [e] at e2; injection e2 with e2
          rcases ho.2 with ⟨h1, _⟩ | ⟨g2, _, _, h1, _⟩
          · rw [hv] at h1; cases h1
          · rw [hv] at h1; injection h1 with h1; injection h1 with h1; subst h1
            simp only at e2; subst e2
            exact EsAt.pre (EsAt.of_own (ys := ys ++ [x]) hown)
      · rw [e2] at e; cases e
    · obtain ⟨A', c', hv', _, _, hes⟩ := hr.form
      rw [hv] at hv'; injection hv' with hv'; subst hv'
      exact (Chg.of_grown e.2).es hes (fun a _ e => by cases e)
theorem AddOut.facts {base M most : Nat} {st : Int} {wb : Option Nat} {w w1 : World} {v : Value} {ys : List El.En} (h : Bd w M st most v) (hr : Rv w base v ys wb) (hg : w.grownBy w1 wb) : w1.cell? ⟨M, 3, none⟩ = some v ∧ w1.frozen? ⟨M, 3, none⟩ = false := by
  have h1 : Bd w1 M st most v := h.chg (Chg.of_grown hg) (fun e => hr.notB h e.symm)
  exact ⟨h1.c3, h1.fz 3⟩
set_option maxRecDepth 100000 in
set_option maxHeartbeats 2000000 in
theorem ladd_any (base M most : Nat) (st : Int) (v : Value) (wb : Option Nat) (xs : List El.En) (x : El.En) (w : World) (hB : Bd w M st most v) (hR : Rv w base v xs wb) (hok : OkL most xs) (hbase : base ≤ w.heap.size) (hx : x.1.size ≤ 9223372036854775807 ∧ x.2.1.size ≤ 9223372036854775807) :
    Calls Try.prog 45 #[.pointer (some ⟨M, 2, none⟩), valE x] w fun e w' => e = .returned (.int .i64 (addE most xs x)) ∧ AddOut base M most st v wb xs w w' (addL most xs x) := by
  have JC := Lib.hid (fun w' => eCheck_any x.1 x.2.1 x.2.2.1 x.2.2.2 w' hx.1 hx.2)
  have hb0 := alloc_below w (.cells #[.string x.1, .string x.2.1, .bool x.2.2.1, .int .i64 x.2.2.2] 36)
  have HE0 := Row4.new w 36 (.string x.1) (.string x.2.1) (.bool x.2.2.1) (.int .i64 x.2.2.2)
  have HSame := Lib.hid (fun (w' : World) (ys : List El.En) (hb : Below w.heap.size w w') (hy : ys = xs) => show AddOut base M most st v wb xs w w' ys from by subst hy; exact AddOut.same hB hR hb)
  unfold valE
  by_cases hc : El.chk x = 0
  rotate_left
  · have HA := Lib.hid (addE_chk (most := most) (xs := xs) hc)
    have HL : Hid (addL most xs x = xs) := Lib.hid (if_neg (by rw [HA.out]; exact hc))
    obtain ⟨b1, b2⟩ := ne_b hc
    have JC := Lib.hid (fun w => by have K := JC.out w; rw [show El.chk (x.1, x.2.1, x.2.2.1, x.2.2.2) = El.chk x from rfl] at K; exact K)
    clear hB hR hok hc hx
    generalize El.chk x = r at *
    go_enter Try.func45, Try.ntmps45
    go_wp2_with fail
    refine (JC.out _).mono ?_
    rintro e w1 ⟨rfl, hb⟩
    have HB := Lib.hid (eb_of hb0 hb (Nat.le_refl _))
    clear hb hb0 HE0
    go_wp2_with fail
    go_ret
    exact ⟨retI (by rw [HA.out]), HSame.out _ _ HB.out HL.out⟩
  have JC := Lib.hid (fun w => by have K := JC.out w; rw [show El.chk (x.1, x.2.1, x.2.2.1, x.2.2.2) = 0 from hc] at K; exact K)
  have hx32 := (El.chk_of hc).1
  have hl32 := hok.last
  obtain ⟨A, c, rfl, hcap, hnil, hes⟩ := hR.form
  have hn5 : xs.length ≤ 5000 := by have := hok.1; have := hok.2.1; omega
  have JL := Lib.hid (fun (w' : World) (hb : Below w.heap.size w w') => llast_any (hB.below hb) (hes.below hb (Nat.le_refl _)) hn5)
  have JR := Lib.hid (fun (w' : World) (hb : Below w.heap.size w w') => room_any (hB.below hb) hok.2.1 hok.1)
  have JA := Lib.hid (fun (w' : World) => above_any x.1 (lastE xs).1 w' hx32 hl32)
  have HBd := Lib.hid hB
  have HRv := Lib.hid hR
  obtain ⟨⟨lk, lv, ld, lq⟩, hl⟩ : ∃ y, lastE xs = y := ⟨_, rfl⟩
  have HCE := Lib.hid hc
  have hmo := hok.1
  rw [hl] at JL JA
  unfold valE at JL
  simp only at JL JA
  by_cases hg : xs ≠ [] ∧ ¬ 0 < Kl.ord (Kl.L x.1) (Kl.L (lastE xs).1)
  · have HA := Lib.hid (addE_form (most := most) hc hg)
    have HL : Hid (addL most xs x = xs) := Lib.hid (if_neg (by rw [HA.out]; decide))
    rw [hl] at hg
    rw [show decide (xs ≠ []) = true by simp [hg.1]] at JL
    rw [show decide (0 < Kl.ord (Kl.L x.1) (Kl.L lk)) = false by simpa using hg.2] at JA
    clear hB hR hok hc hx hg hl hes hl32 hx32 hnil
    generalize xs.length = n at *
    go_enter Try.func45, Try.ntmps45
    go_wp2_with fail
    refine (JC.out _).mono ?_
    rintro e w1 ⟨rfl, hb⟩
    have HB := Lib.hid (eb_of hb0 hb (Nat.le_refl _))
    have HE1 := HE0.below hb (Nat.le_refl _)
    clear hb hb0 HE0
    go_wp2_with fail
    refine (JL.out _ HB.out).mono ?_
    rintro e w2 ⟨rfl, hb⟩
    have HB2 := Lib.hid (eb_of HB.out hb (Nat.le_refl _))
    have HE2 := HE1.below hb (Nat.le_refl _)
    clear hb HE1
    have HB3 := Lib.hid (HB2.out.alloc HB2.out.size (.cells #[.string lk, .string lv, .bool ld, .int .i64 lq] 36))
    have x0 := HE2.c0
    have hlt := HE2.lt
    go_wp2_with fail
    refine (JA.out _).mono ?_
    rintro e w3 ⟨rfl, hb⟩
    have HB4 := Lib.hid (eb_of HB3.out hb (Nat.le_refl _))
    clear hb
    go_wp2_with fail
    go_ret
    exact ⟨retI (by rw [HA.out]), HSame.out _ _ HB4.out HL.out⟩
  by_cases hfull : most ≤ xs.length
  · have HA := Lib.hid (addE_full hc hg hfull)
    have HL : Hid (addL most xs x = xs) := Lib.hid (if_neg (by rw [HA.out]; decide))
    have hr0 : most - xs.length = 0 := by omega
    rw [hr0] at JR
    by_cases hxs : xs = []
    · rw [show decide (xs ≠ []) = false by simp [hxs]] at JL
      clear hB hR hok hc hx hg hl hes hl32 hx32 hnil hxs
      generalize xs.length = n at *
      go_enter Try.func45, Try.ntmps45
      go_wp2_with fail
      refine (JC.out _).mono ?_
      rintro e w1 ⟨rfl, hb⟩
      have HB := Lib.hid (eb_of hb0 hb (Nat.le_refl _))
      have HE1 := HE0.below hb (Nat.le_refl _)
      clear hb hb0 HE0
      go_wp2_with fail
      refine (JL.out _ HB.out).mono ?_
      rintro e w2 ⟨rfl, hb⟩
      have HB2 := Lib.hid (eb_of HB.out hb (Nat.le_refl _))
      have HE2 := HE1.below hb (Nat.le_refl _)
      clear hb HE1
      have HB3 := Lib.hid (HB2.out.alloc HB2.out.size (.cells #[.string lk, .string lv, .bool ld, .int .i64 lq] 36))
      have HE3 := HE2.below (alloc_below w2 (.cells #[.string lk, .string lv, .bool ld, .int .i64 lq] 36)) (Nat.le_refl _)
      have HB4 := HB3
      have HE4 := HE3
      have hlt := HE2.lt
      go_wp2_with fail
      refine (JR.out _ HB4.out).mono ?_
      rintro e w4 ⟨rfl, hb⟩
      have HB5 := Lib.hid (eb_of HB4.out hb (Nat.le_refl _))
      have HE5 := HE4.below hb (Nat.le_refl _)
      clear hb HE4
      go_wp2_with fail
      go_ret
      exact ⟨retI (by rw [HA.out]), HSame.out _ _ HB5.out HL.out⟩
    · rw [show decide (xs ≠ []) = true by simp [hxs]] at JL
      rw [hl] at hg
      rw [show decide (0 < Kl.ord (Kl.L x.1) (Kl.L lk)) = true by rw [decide_eq_true_eq]; exact Classical.byContradiction fun m => hg ⟨hxs, m⟩] at JA
      clear hB hR hok hc hx hg hl hes hl32 hx32 hnil hxs
      generalize xs.length = n at *
      go_enter Try.func45, Try.ntmps45
      go_wp2_with fail
      refine (JC.out _).mono ?_
      rintro e w1 ⟨rfl, hb⟩
      have HB := Lib.hid (eb_of hb0 hb (Nat.le_refl _))
      have HE1 := HE0.below hb (Nat.le_refl _)
      clear hb hb0 HE0
      go_wp2_with fail
      refine (JL.out _ HB.out).mono ?_
      rintro e w2 ⟨rfl, hb⟩
      have HB2 := Lib.hid (eb_of HB.out hb (Nat.le_refl _))
      have HE2 := HE1.below hb (Nat.le_refl _)
      clear hb HE1
      have HB3 := Lib.hid (HB2.out.alloc HB2.out.size (.cells #[.string lk, .string lv, .bool ld, .int .i64 lq] 36))
      have HE3 := HE2.below (alloc_below w2 (.cells #[.string lk, .string lv, .bool ld, .int .i64 lq] 36)) (Nat.le_refl _)
      have x0 := HE2.c0
      have hlt := HE2.lt
      go_wp2_with fail
      refine (JA.out _).mono ?_
      rintro e w3 ⟨rfl, hb⟩
      have HB4 := Lib.hid (eb_of HB3.out hb (Nat.le_refl _))
      have HE4 := HE3.below hb (Nat.le_refl _)
      clear hb HE3
      go_wp2_with fail
      refine (JR.out _ HB4.out).mono ?_
      rintro e w4 ⟨rfl, hb⟩
      have HB5 := Lib.hid (eb_of HB4.out hb (Nat.le_refl _))
      have HE5 := HE4.below hb (Nat.le_refl _)
      clear hb HE4
      go_wp2_with fail
      go_ret
      exact ⟨retI (by rw [HA.out]), HSame.out _ _ HB5.out HL.out⟩
  have HA := Lib.hid (addE_ok hc hg hfull)
  have HL : Hid (addL most xs x = xs ++ [x]) := Lib.hid (if_pos HA.out)
  have hr0 : ((most - xs.length : Nat) : Int) ≠ 0 := by omega
  obtain ⟨b1, b2⟩ := ne_b hr0
  obtain ⟨r, hr⟩ : ∃ r : Int, ((most - xs.length : Nat) : Int) = r := ⟨_, rfl⟩
  rw [hr] at b1 b2 JR
  by_cases hxs : xs = []
  · rw [show decide (xs ≠ []) = false by simp [hxs]] at JL
    clear hB hR hok hc hx hg hl hes hl32 hx32 hnil hxs hr hr0
    go_enter Try.func45, Try.ntmps45
    go_wp2_with fail
    refine (JC.out _).mono ?_
    rintro e w1 ⟨rfl, hb⟩
    have HB := Lib.hid (eb_of hb0 hb (Nat.le_refl _))
    have HE1 := HE0.below hb (Nat.le_refl _)
    clear hb hb0 HE0
    go_wp2_with fail
    refine (JL.out _ HB.out).mono ?_
    rintro e w2 ⟨rfl, hb⟩
    have HB2 := Lib.hid (eb_of HB.out hb (Nat.le_refl _))
    have HE2 := HE1.below hb (Nat.le_refl _)
    clear hb HE1
    have HB3 := Lib.hid (HB2.out.alloc HB2.out.size (.cells #[.string lk, .string lv, .bool ld, .int .i64 lq] 36))
    have HE3 := HE2.below (alloc_below w2 (.cells #[.string lk, .string lv, .bool ld, .int .i64 lq] 36)) (Nat.le_refl _)
    have HB4 := HB3
    have HE4 := HE3
    have hlt := HE2.lt
    go_wp2_with fail
    refine (JR.out _ HB4.out).mono ?_
    rintro e w4 ⟨rfl, hb⟩
    have HB5 := Lib.hid (eb_of HB4.out hb (Nat.le_refl _))
    have HE5 := HE4.below hb (Nat.le_refl _)
    clear hb HE4
    have HBd5 := Lib.hid (HBd.out.below HB5.out)
    have HRv5 := Lib.hid (HRv.out.below HB5.out)
    have HRvF := Lib.hid (fun (w' : World) (hb : Below w4.heap.size w4 w') => HRv5.out.below hb)
    have HBdF := Lib.hid (fun (w' : World) (hb : Below w4.heap.size w4 w') => HBd5.out.below hb)
    have y0 := HE5.c0
    have y1 := HE5.c1
    have y2 := HE5.c2
    have y3 := HE5.c3
    have m3 := HBd5.out.c3
    have HD := Lib.hid (show Below w4.heap.size w4 (w4.drew.alloc (.cells #[.string x.1, .string x.2.1, .bool x.2.2.1, .int .i64 x.2.2.2] 36)) from (below_drewN' 1).alloc (by simp) _)
    go_wp2_with fail
    have hle := HB5.out.size
    have hMlt := HBd5.out.lt
    have hElt := HE5.lt
    go_region_law ((refine step_append_rv (by rfl) (.tmp 34) (.tmp 36) (by rfl) base (.slice A xs.length c) xs wb (by rfl) (HRvF.out _ HD.out) x ⟨w4.heap.size, 0, none⟩ 1 (by rfl) (World.news_of_block (cs := #[.string x.1, .string x.2.1, .bool x.2.2.1, .int .i64 x.2.2.2]) (t := 36) (fr := (0, 0)) (heap_alloc_new _ _)) (by omega) (by simp; omega) ?_; intro g cap w6 hown hgrow hat hlt6; obtain ⟨hf0, hf1⟩ := AddOut.facts (HBdF.out _ HD.out) (HRvF.out _ HD.out) hgrow; have HOUT := Lib.hid (AddOut.stored (HBdF.out _ HD.out) (HRvF.out _ HD.out) hown hgrow hat)))
    all_goals
      go_wp2_with fail
      go_ret
      exact ⟨retI (by rw [HA.out]), by rw [HL.out]; exact AddOut.after HOUT.out (HB5.out.trans (HD.out.mono hle))⟩
  · rw [show decide (xs ≠ []) = true by simp [hxs]] at JL
    rw [hl] at hg
    rw [show decide (0 < Kl.ord (Kl.L x.1) (Kl.L lk)) = true by rw [decide_eq_true_eq]; exact Classical.byContradiction fun m => hg ⟨hxs, m⟩] at JA
    clear hB hR hok hc hx hg hl hes hl32 hx32 hnil hxs hr hr0
    go_enter Try.func45, Try.ntmps45
    go_wp2_with fail
    refine (JC.out _).mono ?_
    rintro e w1 ⟨rfl, hb⟩
    have HB := Lib.hid (eb_of hb0 hb (Nat.le_refl _))
    have HE1 := HE0.below hb (Nat.le_refl _)
    clear hb hb0 HE0
    go_wp2_with fail
    refine (JL.out _ HB.out).mono ?_
    rintro e w2 ⟨rfl, hb⟩
    have HB2 := Lib.hid (eb_of HB.out hb (Nat.le_refl _))
    have HE2 := HE1.below hb (Nat.le_refl _)
    clear hb HE1
    have HB3 := Lib.hid (HB2.out.alloc HB2.out.size (.cells #[.string lk, .string lv, .bool ld, .int .i64 lq] 36))
    have HE3 := HE2.below (alloc_below w2 (.cells #[.string lk, .string lv, .bool ld, .int .i64 lq] 36)) (Nat.le_refl _)
    have x0 := HE2.c0
    have hlt := HE2.lt
    go_wp2_with fail
    refine (JA.out _).mono ?_
    rintro e w3 ⟨rfl, hb⟩
    have HB4 := Lib.hid (eb_of HB3.out hb (Nat.le_refl _))
    have HE4 := HE3.below hb (Nat.le_refl _)
    clear hb HE3
    go_wp2_with fail
    refine (JR.out _ HB4.out).mono ?_
    rintro e w4 ⟨rfl, hb⟩
    have HB5 := Lib.hid (eb_of HB4.out hb (Nat.le_refl _))
    have HE5 := HE4.below hb (Nat.le_refl _)
    clear hb HE4
    have HBd5 := Lib.hid (HBd.out.below HB5.out)
    have HRv5 := Lib.hid (HRv.out.below HB5.out)
    have HRvF := Lib.hid (fun (w' : World) (hb : Below w4.heap.size w4 w') => HRv5.out.below hb)
    have HBdF := Lib.hid (fun (w' : World) (hb : Below w4.heap.size w4 w') => HBd5.out.below hb)
    have y0 := HE5.c0
    have y1 := HE5.c1
    have y2 := HE5.c2
    have y3 := HE5.c3
    have m3 := HBd5.out.c3
    have HD := Lib.hid (show Below w4.heap.size w4 (w4.drew.alloc (.cells #[.string x.1, .string x.2.1, .bool x.2.2.1, .int .i64 x.2.2.2] 36)) from (below_drewN' 1).alloc (by simp) _)
    go_wp2_with fail
    have hle := HB5.out.size
    have hMlt := HBd5.out.lt
    have hElt := HE5.lt
    go_region_law ((refine step_append_rv (by rfl) (.tmp 34) (.tmp 36) (by rfl) base (.slice A xs.length c) xs wb (by rfl) (HRvF.out _ HD.out) x ⟨w4.heap.size, 0, none⟩ 1 (by rfl) (World.news_of_block (cs := #[.string x.1, .string x.2.1, .bool x.2.2.1, .int .i64 x.2.2.2]) (t := 36) (fr := (0, 0)) (heap_alloc_new _ _)) (by omega) (by simp; omega) ?_; intro g cap w6 hown hgrow hat hlt6; obtain ⟨hf0, hf1⟩ := AddOut.facts (HBdF.out _ HD.out) (HRvF.out _ HD.out) hgrow; have HOUT := Lib.hid (AddOut.stored (HBdF.out _ HD.out) (HRvF.out _ HD.out) hown hgrow hat)))
    all_goals
      go_wp2_with fail
      go_ret
      exact ⟨retI (by rw [HA.out]), by rw [HL.out]; exact AddOut.after HOUT.out (HB5.out.trans (HD.out.mono hle))⟩
set_option maxRecDepth 100000 in
set_option maxHeartbeats 2000000 in
theorem Add_any (base M most : Nat) (v : Value) (wb : Option Nat) (xs : List El.En) (x : El.En) (w : World) (hB : Bd w M 1 most v) (hR : Rv w base v xs wb) (hok : OkL most xs) (hbase : base ≤ w.heap.size) (hx : x.1.size ≤ 9223372036854775807 ∧ x.2.1.size ≤ 9223372036854775807) :
    Calls Try.prog 24 #[.pointer (some ⟨M, 0, none⟩), valE x] w fun e w' => e = .returned (.int .i64 (addE most xs x)) ∧ AddOut base M most 1 v wb xs w w' (addL most xs x) := by
  have hb0 := alloc_below w (.cells #[.string x.1, .string x.2.1, .bool x.2.2.1, .int .i64 x.2.2.2] 36)
  have HE0 := Row4.new w 36 (.string x.1) (.string x.2.1) (.bool x.2.2.1) (.int .i64 x.2.2.2)
  have JO := Lib.hid (fun (w' : World) (hb : Below w.heap.size w w') => open_yes (hB.below hb))
  have JA := Lib.hid (fun (w' : World) (hb : Below w.heap.size w w') => ladd_any base M most 1 v wb xs x w' (hB.below hb) (hR.below hb) hok (Nat.le_trans hbase hb.size) hx)
  have hMlt := hB.lt
  clear hB hR hok hx
  unfold valE at JA ⊢
  generalize addE most xs x = r at *
  go_enter Try.func24, Try.ntmps24
  go_wp2_with fail
  refine (JO.out _ hb0).mono ?_
  rintro e w1 ⟨rfl, hb⟩
  have HB := Lib.hid (eb_of hb0 hb (Nat.le_refl _))
  have HE1 := HE0.below hb (Nat.le_refl _)
  have y0 := HE1.c0
  have y1 := HE1.c1
  have y2 := HE1.c2
  have y3 := HE1.c3
  have HD := Lib.hid (show Below w.heap.size w w1.drew from HB.out.trans ((below_drewN' 1).mono HB.out.size))
  clear hb hb0 HE0
  go_wp2_with fail
  go_region_with (go_at_call 45; refine (JA.out _ HD.out).mono ?_; rintro e w2 ⟨rfl, hout⟩; have HO := Lib.hid (hout.after HD.out); clear hout)
  all_goals
    go_wp2_with fail
    go_ret
    exact ⟨rfl, HO.out⟩
set_option maxRecDepth 100000 in
theorem Add_sealed {M most : Nat} {v : Value} {w : World} (h : Bd w M 2 most v) (x : El.En) : Calls Try.prog 24 #[.pointer (some ⟨M, 0, none⟩), valE x] w fun e w' => e = .returned (.int .i64 9) ∧ Below w.heap.size w w' := by
  have hb0 := alloc_below w (.cells #[.string x.1, .string x.2.1, .bool x.2.2.1, .int .i64 x.2.2.2] 36)
  have JO := Lib.hid (open_sealed (h.below hb0))
  clear h
  unfold valE
  go_enter Try.func24, Try.ntmps24
  go_wp2_with fail
  refine JO.out.mono ?_
  rintro e w1 ⟨rfl, hb⟩
  go_wp2_with fail
  go_ret
  exact ⟨rfl, eb_of hb0 hb (Nat.le_refl _)⟩
set_option maxRecDepth 100000 in
theorem Add_no {b : Value} {w : World} (h : NM b w) (x : El.En) : Calls Try.prog 24 #[b, valE x] w fun e w' => e = .returned (.int .i64 1) ∧ Below w.heap.size w w' := by
  have hb0 := alloc_below w (.cells #[.string x.1, .string x.2.1, .bool x.2.2.1, .int .i64 x.2.2.2] 36)
  have JO := Lib.hid (open_no (h.below hb0))
  clear h
  unfold valE
  go_enter Try.func24, Try.ntmps24
  go_wp2_with fail
  refine JO.out.mono ?_
  rintro e w1 ⟨rfl, hb⟩
  go_wp2_with fail
  go_ret
  exact ⟨rfl, eb_of hb0 hb (Nat.le_refl _)⟩
end Go.Proofs.Ytkphadkmmjcmnaa.KK
