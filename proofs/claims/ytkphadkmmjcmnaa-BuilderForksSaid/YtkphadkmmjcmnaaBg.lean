/-
  Contracts of a builder's Seal, Fork.
-/
import Derived.Test.YtkphadkmmjcmnaaBf
namespace Go.Proofs.Ytkphadkmmjcmnaa.KK
open Go.ChangeShapes Go.WideShapes Go.ChangeAt Go.RowKit Go.Proofs

/-- behind a call that may seal the builder M -/
def SealOut (base M most : Nat) (v : Value) (wb : Option Nat) (xs : List El.En) (id : Int) (w w' : World) (e : Ending) : Prop :=
  ∃ A c, e = .returned (.tuple #[runV (ofId id xs) A (ofL id xs).length c, .int .i64 (ofE id xs)]) ∧ EsAt w' A (ofL id xs) ∧ (∀ a, A = some a → w.heap.size ≤ a.block) ∧ (A = none → c = 0) ∧
    Bd w' M (if ofE id xs = 0 then 2 else 1) most v ∧ Rv w' base v xs wb ∧ Chg (fun k => k = M) w w'
theorem ofE_pos {id : Int} {xs : List El.En} (h : ofE id xs ≠ 0) : ofId id xs = 0 ∧ ofL id xs = [] := ⟨if_neg h, if_neg h⟩
theorem ofE_nil' {id : Int} {xs : List El.En} (h : ofE id xs = 0) : ofId id xs = id ∧ ofL id xs = xs := ⟨if_pos h, if_pos h⟩
theorem Rv.chg {S : Nat → Prop} {w w' : World} {base : Nat} {v : Value} {ys : List El.En} {wb : Option Nat} (h : Rv w base v ys wb) (hg : Chg S w w') (hn : ∀ A n c, v = .slice (some A) n c → ¬ S A.block) : Rv w' base v ys wb := by
  rcases h with ⟨rfl, hz, h⟩ | ⟨rfl, h0, g, rfl, h⟩
  · refine .inl ⟨rfl, hz, hg.own h fun g hg => ?_⟩
    rcases h.2 with ⟨rfl, _⟩ | ⟨g', cap, cur, rfl, _⟩
    · cases hg
    · injection hg with hg; subst hg; exact hn _ _ _ rfl
  · exact .inr ⟨rfl, h0, g, rfl, hg.es h fun a ha => by injection ha with ha; subst ha; exact hn _ _ _ rfl⟩
theorem Row2.chg {S : Nat → Prop} {W W' : World} {B : Nat} {t : TypeId} {v0 v1 : Value} (h : Row2 W B t v0 v1) (hb : Chg S W W') (hn : ¬ S B) : Row2 W' B t v0 v1 := (hb.block B h.lt hn).trans h
/-- a builder's entries do not lie where the builder lies -/
def Off (v : Value) (M : Nat) : Prop := ∀ A n c, v = .slice (some A) n c → A.block ≠ M
set_option maxRecDepth 100000 in
set_option maxHeartbeats 2000000 in
theorem Seal_any (base M most : Nat) (v : Value) (wb : Option Nat) (xs : List El.En) (id : Int) (w : World) (hB : Bd w M 1 most v) (hR : Rv w base v xs wb) (hok : OkL most xs) (hoff : Off v M) (hs : Sized xs) (hid : -9223372036854775808 ≤ id ∧ id ≤ 9223372036854775807) :
    Calls Try.prog 17 #[.pointer (some ⟨M, 0, none⟩), .int .i64 id] w fun e w' => SealOut base M most v wb xs id w w' e := by
  have hb0 := alloc_below w (.cells #[.int .i64 0, .slice none 0 0] 43)
  have HR0 := Row2.new w 43 (.int .i64 0) (.slice none 0 0)
  obtain ⟨A, c, rfl, hcap, hnil, hes⟩ := hR.form
  have hn5 : xs.length ≤ 5000 := by have := hok.1; have := hok.2.1; omega
  have JO := Lib.hid (fun (w' : World) (hb : Below w.heap.size w w') => open_yes (hB.below hb))
  have JF := Lib.hid (fun (w' : World) (hb : Below w.heap.size w w') => Of_any id A c xs w' (hes.below hb (Nat.le_refl _)) (by omega) hs hid)
  have HBd := Lib.hid (fun (w' : World) (hb : Below w.heap.size w w') => hB.below hb)
  have HRv := Lib.hid (fun (w' : World) (hb : Below w.heap.size w w') => hR.below hb)
  have HOff := Lib.hid hoff
  have hMlt := hB.lt
  have hMne : w.heap.size ≠ M := by omega
  by_cases he : ofE id xs = 0
  rotate_left
  · obtain ⟨e1, e2⟩ := ofE_pos he
    obtain ⟨b1, b2⟩ := ne_b he
    have HOut : Hid (∀ w' e, e = .returned (.tuple #[.agg #[.int .i64 0, .slice none 0 0], .int .i64 (ofE id xs)]) → Below w.heap.size w w' → SealOut base M most (.slice A xs.length c) wb xs id w w' e) := Lib.hid (fun w' e hx hb => by
      refine ⟨none, 0, by rw [hx, e1, e2]; rfl, by rw [e2]; exact .inl rfl, (fun a h => by cases h), fun _ => rfl, ?_, hR.below hb, .of_below hb⟩
      rw [if_neg he]; exact hB.below hb)
    unfold RunOut at JF
    rw [e1, e2] at JF
    clear hB hR hok hoff hs hes he e1 e2 hid hnil
    generalize ofE id xs = r at *
    generalize xs.length = n at *
    go_enter Try.func17, Try.ntmps17
    go_wp2_with fail
    refine (JO.out _ hb0).mono ?_
    rintro e w1 ⟨rfl, hb⟩
    have HB1 := Lib.hid (eb_of hb0 hb (Nat.le_refl _))
    have HR1 := HR0.below hb (Nat.le_refl _)
    have m3 := (HBd.out _ HB1.out).c3
    clear hb hb0 HR0
    go_wp2_with fail
    refine (JF.out _ HB1.out).mono ?_
    rintro e w2 ⟨A2, c2, rfl, hes2, hfr, hnil2, hb⟩
    have HB2 := Lib.hid (eb_of HB1.out hb (Nat.le_refl _))
    have HR2 := HR1.below hb (Nat.le_refl _)
    have hlt := HR2.lt
    have r0 := HR2.c0
    have r1 := HR2.c1
    have z0 := HR2.fz 0
    have z1 := HR2.fz 1
    clear hb HR1 hes2 hfr
    unfold runV
    go_wp2_with fail
    have HX := (HR2.set (.int .i64 0) (.slice none 0 0)).below (alloc_below _ (.cells #[.int .i64 0, .slice A2 ([] : List El.En).length c2] 43)) (Nat.le_refl _)
    have k0 := HX.c0
    have k1 := HX.c1
    simp only [List.length_nil] at k0 k1
    have HB3 := Lib.hid (set2_below HB2.out (Nat.le_refl _) (.int .i64 0) (.slice none 0 0))
    refine bodyPost_ret (v := .tuple #[.agg #[.int .i64 0, .slice none 0 0], .int .i64 r]) (by simp [results, Try.f17, go_sem, k0, k1]) rfl ?_
    exact HOut.out _ _ rfl (HB3.out.alloc HB3.out.size _)
  obtain ⟨e1, e2⟩ := ofE_nil' he
  have hne : xs ≠ [] := by
    intro e; subst e
    unfold ofE at he
    by_cases g : id < 1 ∨ 1000000 < id
    · rw [if_pos g] at he; cases he
    · rw [if_neg g] at he; simp [listE, scan] at he
  have HOut : Hid (∀ w' e A' c', e = .returned (.tuple #[.agg #[.int .i64 id, .slice A' xs.length c'], .int .i64 0]) → EsAt w' A' xs → (∀ a, A' = some a → w.heap.size ≤ a.block) → (A' = none → c' = 0) → Bd w' M 2 most (.slice A xs.length c) → Chg (fun k => k = M) w w' → SealOut base M most (.slice A xs.length c) wb xs id w w' e) := Lib.hid (fun w' e A' c' hx h1 h2 h3 h4 h5 => by
    refine ⟨A', c', by rw [hx, e1, e2, he]; rfl, by rw [e2]; exact h1, h2, h3, by rw [if_pos he]; exact h4, hR.chg h5 (fun A n c e => hoff A n c e), h5⟩)
  unfold RunOut at JF
  rw [e1, e2, he] at JF
  clear hB hR hok hoff hs hes he e1 e2 hnil
  go_enter Try.func17, Try.ntmps17
  go_wp2_with fail
  refine (JO.out _ hb0).mono ?_
  rintro e w1 ⟨rfl, hb⟩
  have HB1 := Lib.hid (eb_of hb0 hb (Nat.le_refl _))
  have HR1 := HR0.below hb (Nat.le_refl _)
  have m3 := (HBd.out _ HB1.out).c3
  clear hb hb0 HR0
  go_wp2_with fail
  refine (JF.out _ HB1.out).mono ?_
  rintro e w2 ⟨A2, c2, rfl, hes2, hfr, hnil2, hb⟩
  have HB2 := Lib.hid (eb_of HB1.out hb (Nat.le_refl _))
  have HBd2 := Lib.hid (HBd.out _ HB2.out)
  have HR2 := HR1.below hb (Nat.le_refl _)
  have hlt1 := HR1.lt
  have hlt := HR2.lt
  have r0 := HR2.c0
  have r1 := HR2.c1
  have z0 := HR2.fz 0
  have z1 := HR2.fz 1
  have q1 := HBd2.out.c1
  have q2 := HBd2.out.fz 1
  have hM2 := HBd2.out.lt
  have HES := Lib.hid hes2
  have HFR := Lib.hid hfr
  clear hb HR1 hes2 hfr m3
  unfold runV
  go_wp2_with fail
  have HXa := (HR2.chg (chg_set M 1 (.int .i64 2)) (fun e => hMne e)).set (.int .i64 id) (.slice A2 xs.length c2)
  have HX := HXa.below (alloc_below _ (.cells #[.int .i64 id, .slice A2 xs.length c2] 43)) (Nat.le_refl _)
  have k0 := HX.c0
  have k1 := HX.c1
  have g1 : Chg (fun k => k = M) w (w2.setCell ⟨M, 1, none⟩ (.int .i64 2)) := (Chg.of_below HB2.out).trans (chg_set M 1 _)
  have g2 := (g1.trans_new (chg_set w.heap.size 0 (.int .i64 id)) (fun i h => .inr (by omega))).trans_new (chg_set w.heap.size 1 (.slice A2 xs.length c2)) (fun i h => .inr (by omega))
  have g3 := g2.trans (.of_below (alloc_below _ (.cells #[.int .i64 id, .slice A2 xs.length c2] 43)))
  have hw1 : w.heap.size ≤ w1.heap.size := HB1.out.size
  have d1 := (((HBd2.out.set1 2).chg (chg_set w.heap.size 0 (.int .i64 id)) (fun e => hMne e.symm)).chg (chg_set w.heap.size 1 (.slice A2 xs.length c2)) (fun e => hMne e.symm)).below (alloc_below _ (.cells #[.int .i64 id, .slice A2 xs.length c2] 43))
  have f1 : ∀ a, A2 = some a → ¬ a.block = M ∧ ¬ a.block = w.heap.size := fun a h => by have := HFR.out a h; omega
  have s1 := ((chg_set w.heap.size 1 (.slice A2 xs.length c2)).es ((chg_set w.heap.size 0 (.int .i64 id)).es ((chg_set M 1 (.int .i64 2)).es HES.out (fun a h => (f1 a h).1)) (fun a h => (f1 a h).2)) (fun a h => (f1 a h).2)).below (alloc_below _ (.cells #[.int .i64 id, .slice A2 xs.length c2] 43)) (Nat.le_refl _)
  refine bodyPost_ret (v := .tuple #[.agg #[.int .i64 id, .slice A2 xs.length c2], .int .i64 0]) (by simp [results, Try.f17, go_sem, k0, k1]) rfl ?_
  exact HOut.out _ _ A2 c2 rfl s1 (fun a h => Nat.le_trans hw1 (HFR.out a h)) hnil2 d1 g3
set_option maxRecDepth 100000 in
set_option maxHeartbeats 1000000 in
/-- a builder that is sealed, or none: the error of Seal -/
theorem Seal_err (x : Value) (r : Int) (hr : r ≠ 0) (id : Int) (w : World) (JO : ∀ w', Below w.heap.size w w' → Calls Try.prog 37 #[x] w' fun e w'' => e = .returned (.int .i64 r) ∧ Below w'.heap.size w' w'') :
    Calls Try.prog 17 #[x, .int .i64 id] w fun e w' => e = .returned (.tuple #[.agg #[.int .i64 0, .slice none 0 0], .int .i64 r]) ∧ Below w.heap.size w w' := by
  have hb0 := alloc_below w (.cells #[.int .i64 0, .slice none 0 0] 43)
  have HR0 := Row2.new w 43 (.int .i64 0) (.slice none 0 0)
  have JO := Lib.hid (JO _ hb0)
  obtain ⟨b1, b2⟩ := ne_b hr
  clear hr
  go_enter Try.func17, Try.ntmps17
  go_wp2_with fail
  refine JO.out.mono ?_
  rintro e w1 ⟨rfl, hb⟩
  have HB1 := Lib.hid (eb_of hb0 hb (Nat.le_refl _))
  have HR2 := HR0.below hb (Nat.le_refl _)
  have r0 := HR2.c0
  have r1 := HR2.c1
  have z0 := HR2.fz 0
  have z1 := HR2.fz 1
  clear hb HR0
  go_wp2_with fail
  have HX := HR2.set (.int .i64 0) (.slice none 0 0)
  have k0 := HX.c0
  have k1 := HX.c1
  refine bodyPost_ret (v := .tuple #[.agg #[.int .i64 0, .slice none 0 0], .int .i64 r]) (by simp [results, Try.f17, go_sem, k0, k1]) rfl ?_
  exact ⟨rfl, set2_below HB1.out (Nat.le_refl _) _ _⟩
set_option maxRecDepth 100000 in
/-- a list that shares the entries -/
theorem shared_any (base M most : Nat) (st : Int) (v : Value) (wb : Option Nat) (xs : List El.En) (w : World) (hB : Bd w M st most v) (hR : Rv w base v xs wb) (hn : xs.length ≤ 5000) :
    Calls Try.prog 35 #[.pointer (some ⟨M, 2, none⟩)] w fun e w' => ∃ A c, v = .slice A xs.length c ∧ e = .returned (.agg #[.int .i64 most, .slice A xs.length xs.length]) ∧ Below w.heap.size w w' := by
  obtain ⟨A, c, rfl, hcap, hnil, hes⟩ := hR.form
  have hb0 := alloc_below w (.cells #[.int .i64 0, .slice none 0 0] 53)
  have HR0 := Row2.new w 53 (.int .i64 0) (.slice none 0 0)
  have c2 := hB.c2
  have c3 := hB.c3
  have hlt := hB.lt
  have r0 := HR0.c0
  have r1 := HR0.c1
  have z0 := HR0.fz 0
  have z1 := HR0.fz 1
  have hA : xs.length = 0 ∨ ∃ b off, A = some ⟨b, off, none⟩ := by
    rcases hes with h | ⟨b, off, h, _⟩
    · exact .inl (by rw [h]; rfl)
    · exact .inr ⟨b, off, h⟩
  clear hB hR hes
  generalize xs.length = n at *
  have hI : (n : Int) ≤ (c : Int) := by omega
  have hJ : (0 : Int) ≤ (n : Int) := by omega
  go_enter Try.func35, Try.ntmps35
  go_wp2_with fail
  go_region
  all_goals
    go_wp2_with fail
    refine bodyPost_ret (v := .agg #[.int .i64 most, .slice A n n]) (by simp [results, Try.f35, go_sem]) rfl ?_
    exact ⟨A, c, rfl, rfl, (alloc_below w _).trans ((below_drewN' 1).mono (by simp))⟩
set_option maxRecDepth 100000 in
set_option maxHeartbeats 1000000 in
theorem Fork_any (base M most : Nat) (st : Int) (v : Value) (wb : Option Nat) (xs : List El.En) (w : World) (hB : Bd w M st most v) (hR : Rv w base v xs wb) (hst : st ≠ 0) (hn : xs.length ≤ 5000) :
    Calls Try.prog 15 #[.pointer (some ⟨M, 0, none⟩)] w fun e w' => ∃ M' A c, e = .returned (.pointer (some ⟨M', 0, none⟩)) ∧ v = .slice A xs.length c ∧ w.heap.size ≤ M' ∧ Bd w' M' st most (.slice A xs.length xs.length) ∧ Rv w' base (.slice A xs.length xs.length) xs none ∧ Below w.heap.size w w' := by
  have JN := Lib.hid (now_any hB)
  obtain ⟨A, c, hv, _, _, hes⟩ := hR.form
  have JS := Lib.hid (fun (w' : World) (hb : Below w.heap.size w w') => shared_any base M most st v wb xs w' (hB.below hb) (hR.below hb) hn)
  have JM := Lib.hid (fun (w' : World) => made_any st (most : Int) A xs.length xs.length most rfl w')
  have HRv := Lib.hid (fun (w' : World) (hb : Below w.heap.size w w') => show Rv w' base (.slice A xs.length xs.length) xs none from by
    by_cases h0 : xs = []
    · subst h0
      have := hR.null
      rw [hv] at this; injection this with a1 a2 a3; subst a1
      exact Rv.nil _ _
    · obtain ⟨b, off, e, _⟩ := hes.cells h0
      rcases hR with ⟨_, _, h⟩ | ⟨_, _, g, e2, h⟩
      · rcases h.2 with ⟨_, h1⟩ | ⟨g, cap, cur, e2, _⟩
        · exact absurd (List.eq_nil_of_length_eq_zero h1) h0
        · rw [hv] at e2; injection e2 with e2; subst e2
          exact .inr ⟨rfl, h0, g, rfl, hes.below hb (Nat.le_refl _)⟩
      · rw [hv] at e2; injection e2 with e2; subst e2
        exact .inr ⟨rfl, h0, g, rfl, hes.below hb (Nat.le_refl _)⟩)
  have HB := Lib.hid (fun (w' : World) (hb : Below w.heap.size w w') => hB.below hb)
  obtain ⟨b1, b2⟩ := ne_b hst
  clear hB hR hst hes
  subst hv
  generalize xs.length = n at *
  go_enter Try.func15, Try.ntmps15
  go_wp2_with fail
  refine JN.out.mono ?_
  rintro e w1 ⟨rfl, hb⟩
  have c1 := (HB.out _ hb).c1
  have HB1 := Lib.hid hb
  have HD := Lib.hid (show Below w.heap.size w w1.drew from HB1.out.trans ((below_drewN' 1).mono HB1.out.size))
  clear hb
  go_wp2_with fail
  go_region_with (first | (go_at_call 35; refine (JS.out _ HD.out).mono ?_; rintro e w2 ⟨A2, c2, hv2, rfl, hb⟩; injection hv2 with hv2; subst hv2; have HB2 := Lib.hid (eb_of HD.out hb (Nat.le_refl _)); have c1' := (HB.out _ HB2.out).c1; clear hb) | (go_at_call 32; refine (JM.out _).mono ?_; rintro e w3 ⟨M', rfl, h3, h4, hb⟩; have HB3 := Lib.hid (eb_of HB2.out hb (Nat.le_refl _)); have H3 := Lib.hid (Nat.le_trans HB2.out.size h3); clear hb h3))
  all_goals
    go_wp2_with fail
    go_ret
    exact ⟨M', A, c, rfl, rfl, H3.out, h4, HRv.out _ HB3.out, HB3.out⟩
set_option maxRecDepth 100000 in
theorem Fork_no {x : Value} {w : World} (h : NM x w) : Calls Try.prog 15 #[x] w fun e w' => e = .returned (.pointer none) ∧ Below w.heap.size w w' := by
  have J := Lib.hid (h w (Below.refl _ _))
  clear h
  go_enter Try.func15, Try.ntmps15
  go_wp2_with fail
  refine J.out.mono ?_
  rintro e w1 ⟨rfl, hb⟩
  go_wp2_with fail
  go_ret
  exact ⟨rfl, hb⟩
end Go.Proofs.Ytkphadkmmjcmnaa.KK
