/-
  The reference's one.
-/
import Derived.Test.YtbgpcmpbfenplaaUj
import Derived.Test.YtbgpcmpbfenplaaUg
namespace Go.Proofs.Ytbgpcmpbfenplaa.KK
open Go.ChangeShapes Go.WideShapes Go.ChangeAt Go.RowKit Go.Proofs

theorem posP_is {key : ByteArray} : ∀ {xs : List Pr} {k : Nat}, k ≤ xs.length → (∀ y ∈ xs.take k, Kl.lt (Kl.L y.1) (Kl.L key) = true) → (∀ h : k < xs.length, Kl.lt (Kl.L xs[k].1) (Kl.L key) = false) → posP key xs = k
  | [], k, h, _, _ => by simp at h; subst h; rfl
  | x :: t, 0, _, _, h3 => by
    have h := h3 (by simp)
    simp only [List.getElem_cons_zero] at h
    unfold posP lk
    rw [if_neg (by rw [h]; decide)]
  | x :: t, k + 1, h1, h2, h3 => by
    have h := h2 x (by simp)
    unfold posP lk
    rw [if_pos h, posP_is (by simpa using h1) (fun y hy => h2 y (by simp [hy])) (fun hh => by have := h3 (by simpa using hh); simpa using this)]
theorem rPlace_is (A : Option Addr) (c : Nat) (xs : List Pr) (key : ByteArray) (w : World) (hf : PsAt w A xs) (hn : xs.length ≤ 4294967295) :
    Calls Try.prog 48 #[.slice A xs.length c, .string key] w fun e w' => e = .returned (.int .i64 (posP key xs : Nat)) ∧ Below w.heap.size w w' := by
  refine (rPlace_any A c xs key w hf hn).mono ?_
  rintro e w' ⟨k, rfl, h1, h2, h3, hb⟩
  rw [posP_is h1 h2 h3]
  exact ⟨rfl, hb⟩
theorem own_empty (w : World) {base : Nat} (hb : base ≤ w.heap.size) : (w.alloc (.cells #[] 31)).ownsRow base 31 2 (.slice (some ⟨w.heap.size, 0, none⟩) 0 0) 0 (cellsP []) :=
  ⟨rfl, .inr ⟨w.heap.size, 0, #[], rfl, hb, heap_alloc_new w _, Nat.le_refl _, Nat.zero_le _, rfl, rfl⟩⟩
theorem ps_take {w : World} {A : Option Addr} {xs : List Pr} (h : PsAt w A xs) (p : Nat) : PsAt w A (xs.take p) := by
  rcases h with rfl | ⟨b, off, hA, hl, hc⟩
  · exact .inl (by simp)
  · exact .inr ⟨b, off, hA, hl, fun i hi => by
      rw [List.length_take] at hi
      rw [List.getElem_take]; exact hc i (by omega)⟩
theorem ps_drop {w : World} {b off : Nat} {xs : List Pr} (h : PsAt w (some ⟨b, off, none⟩) xs) (p : Nat) : PsAt w (some ⟨b, off + p * 2, none⟩) (xs.drop p) := by
  rcases h with rfl | ⟨b', off', hA, hl, hc⟩
  · exact .inl (by simp)
  · injection hA with hA; injection hA with h1 h2; subst h1 h2
    exact .inr ⟨b, off + p * 2, rfl, hl, fun i hi => by
      rw [List.length_drop] at hi
      rw [List.getElem_drop]
      have := hc (p + i) (by omega)
      rw [show off + p * 2 + i * 2 = off + (p + i) * 2 by omega]; exact this⟩
theorem ps_one (w : World) (x : Pr) : PsAt (w.alloc (.cells #[.string x.1, .string x.2] 31)) (some ⟨w.heap.size, 0, none⟩) [x] := by
  have h := Row2.new w 31 (.string x.1) (.string x.2)
  refine .inr ⟨w.heap.size, 0, rfl, by simp, fun i hi => ?_⟩
  have : i = 0 := by simpa using hi
  subst this
  exact ⟨h.c0, h.c1⟩
theorem own_fix {w : World} {base n : Nat} {v : Value} {ys zs : List Pr} (h : w.ownsRow base 31 2 v n (cellsP ys)) (e : zs = ys) : w.ownsRow base 31 2 v zs.length (cellsP zs) := by
  have := own_len h; subst e; rw [this]; exact h
theorem own_row3_ne {W : World} {B base n size : Nat} {t e : TypeId} {v u0 u1 u2 : Value} {zs : List Value} (h : Row3 W B t u0 u1 u2) (hte : t ≠ e) (hr : W.ownsRow base e size v n zs) : some B ≠ v.ownBlock := by
  rcases hr.2 with ⟨rfl, _⟩ | ⟨g, cap, cur, rfl, _, hgb, _⟩
  · simp [Value.ownBlock]
  · intro e'
    obtain rfl : B = g := by simpa [Value.ownBlock] using e'
    have := (show W.heap[B]? = _ from h).symm.trans hgb
    simp at this
    exact hte this.2
/-- the row in work: what it holds, and the write's own block -/
structure OneS (w0 : World) (v : Value) (n : Nat) (ys : List Pr) (x : Wr) (w : World) : Prop where
  own : w.ownsRow w0.heap.size 31 2 v n (cellsP ys)
  row : Row3 w w0.heap.size 76 (.string x.1) (.string x.2.1) (.bool x.2.2)
  b : Below w0.heap.size w0 w
theorem OneS.below {w0 w1 w2 : World} {v : Value} {n : Nat} {ys : List Pr} {x : Wr} (h : OneS w0 v n ys x w1) (hb : Below w1.heap.size w1 w2) : OneS w0 v n ys x w2 :=
  ⟨(Chg.of_below (S := fun _ => False) hb).own h.own (fun _ _ g => g), h.row.below hb (Nat.le_refl _), h.b.trans (hb.mono h.b.size)⟩
theorem OneS.grow {w0 w1 w2 : World} {v v' : Value} {n m : Nat} {ys zs : List Pr} {x : Wr} (h : OneS w0 v n ys x w1) (ho : w2.ownsRow w0.heap.size 31 2 v' m (cellsP zs)) (hg : w1.grownBy w2 v.ownBlock) : OneS w0 v' m zs x w2 :=
  ⟨ho, (hg.block w0.heap.size h.row.lt (own_row3_ne h.row (by decide) h.own)).trans h.row, h.b.trans ((Chg.of_grown hg).below (fun k hk => (World.ownsRow.lt h.own k hk.symm).1) h.b.size)⟩
set_option maxRecDepth 100000 in
set_option maxHeartbeats 4000000 in
theorem one_any (A : Option Addr) (c : Nat) (xs : List Pr) (k v : ByteArray) (d : Bool) (w : World) (hf : PsAt w A xs) (hA : A = none → c = 0) (hc : xs.length ≤ c) (hn : xs.length ≤ 5000) :
    Calls Try.prog 102 #[.slice A xs.length c, .agg #[.string k, .string v, .bool d]] w fun e w' => ∃ v', e = .returned v' ∧ w'.ownsRow w.heap.size 31 2 v' (putP xs (k, v, d)).length (cellsP (putP xs (k, v, d))) ∧ Below w.heap.size w w' := by
  have hb0 := alloc_below w (.cells #[.string k, .string v, .bool d] 76)
  have HR := Row3.new w 76 (.string k) (.string v) (.bool d)
  have JP := Lib.hid (fun (w' : World) (hb : Below w.heap.size w w') => rPlace_is A c xs k w' (hf.below hb (Nat.le_refl _)) (by omega))
  obtain ⟨p, hp⟩ : ∃ p, posP k xs = p := ⟨_, rfl⟩
  have hpl : p ≤ xs.length := by rw [← hp]; exact posP_le _ _
  rw [hp] at JP
  have HP := Lib.hid hp
  have HF := Lib.hid (fun (w' : World) (hb : Below w.heap.size w w') => hf.below hb (Nat.le_refl _))
  clear hp
  obtain ⟨r0, r1, r2⟩ := HR.c
  have HA := Lib.hid hA
  have HQ := Lib.hid (fun (v' : Value) (m : Nat) (ys : List Pr) (w' : World) (h : OneS w v' m ys (k, v, d) w') (e : putP xs (k, v, d) = ys) => show (fun (e : Ending) (w' : World) => ∃ v', e = .returned v' ∧ w'.ownsRow w.heap.size 31 2 v' (putP xs (k, v, d)).length (cellsP (putP xs (k, v, d))) ∧ Below w.heap.size w w') (.returned v') w' from ⟨v', rfl, own_fix h.own e, h.b⟩)
  revert HQ
  generalize (fun (e : Ending) (w' : World) => ∃ v', e = .returned v' ∧ w'.ownsRow w.heap.size 31 2 v' (putP xs (k, v, d)).length (cellsP (putP xs (k, v, d))) ∧ Below w.heap.size w w') = Q
  intro HQ
  obtain ⟨n, hnn⟩ : ∃ n, xs.length = n := ⟨_, rfl⟩
  have HN := Lib.hid hnn
  rw [hnn] at JP hc hn hpl ⊢
  clear hnn hA
  by_cases hpn : p = n
  · subst hpn
    have HD : Hid (xs.drop p = []) := Lib.hid (by rw [List.drop_eq_nil_iff, HN.out]; omega)
    have HT : Hid (xs.take p = xs) := Lib.hid (by rw [← HN.out, List.take_length])
    have HH : Hid (hasP k xs = false) := Lib.hid (by unfold hasP; rw [HP.out, List.getElem?_eq_none (by rw [HN.out]; omega)])
    have HNIL := HA
    clear hf
    by_cases hcp : c = p
    · subst hcp
      cases d with
      | false =>
        go_enter Try.func102, Try.ntmps102
        go_wp2_with fail
        refine (JP.out _ hb0).mono ?_
        rintro e w1 ⟨rfl, hb⟩
        have HB := Lib.hid (eb_of hb0 hb (Nat.le_refl _))
        have HR1 := Lib.hid (HR.below hb (Nat.le_refl _))
        clear hb hb0 HR r0 r1 r2 JP
        go_wp2_with fail
        go_quiet (fail)
        have HB2 := Lib.hid (show Below w.heap.size w (w1.drewN nq) from HB.out.trans ((below_drewN' nq).mono HB.out.size))
        have HR2 := Lib.hid (HR1.out.below (below_drewN' (w := w1) nq) (Nat.le_refl _))
        clear HB HR1
        generalize w1.drewN nq = w2 at *
        have HS := Lib.hid (OneS.mk (x := (k, v, false)) (own_empty w2 HB2.out.size) (HR2.out.below (alloc_below w2 _) (Nat.le_refl _)) (eb_of HB2.out (alloc_below w2 _) (Nat.le_refl _)))
        clear HB2 HR2
        go_wp2_with (first | (at_builtin; go_loud (refine wpList_append_ps rfl (.tmp 29) (.tmp 32) rfl w.heap.size _ 0 [] rfl HS.out.own _ c _ (xs.take c) rfl (by rw [List.length_take, HN.out]; omega) (ps_take (HF.out _ HS.out.b) c) HNIL.out (by omega) HS.out.b.size ?_; intro v7 w3 hown hgrow; have HS3 := Lib.hid (HS.out.grow hown hgrow); obtain ⟨r0, r1, r2⟩ := HS3.out.row.c; clear hown hgrow)) | (at_builtin; go_loud (refine wpList_append_ps rfl (.tmp 37) (.tmp 43) rfl w.heap.size _ _ _ rfl (HS3.out.below (alloc_below w3 (.cells #[.string k, .string v] 31))).own (some ⟨w3.heap.size, 0, none⟩) 1 1 [(k, v)] rfl rfl (ps_one w3 (k, v)) (fun e => by cases e) (by omega) (HS3.out.below (alloc_below w3 (.cells #[.string k, .string v] 31))).b.size ?_; intro v8 w4 hown hgrow; have HS4 := Lib.hid ((HS3.out.below (alloc_below w3 (.cells #[.string k, .string v] 31))).grow hown hgrow); clear hown hgrow)) | (at_builtin; go_loud (refine wpList_append_ps rfl (.tmp 45) (.tmp 46) rfl w.heap.size _ _ _ rfl HS4.out.own _ _ _ (xs.drop c) rfl (by rw [List.length_drop, HN.out] <;> omega) (.inl HD.out) (fun _ => rfl) (by omega) HS4.out.b.size ?_; intro v9 w5 hown hgrow; have HS5 := Lib.hid (HS4.out.grow hown hgrow); clear hown hgrow)))
        exact HQ.out _ _ _ _ HS5.out (by rw [putP_new HH.out HP.out, HD.out, List.nil_append, List.append_nil])
      | true =>
        go_enter Try.func102, Try.ntmps102
        go_wp2_with fail
        refine (JP.out _ hb0).mono ?_
        rintro e w1 ⟨rfl, hb⟩
        have HB := Lib.hid (eb_of hb0 hb (Nat.le_refl _))
        have HR1 := Lib.hid (HR.below hb (Nat.le_refl _))
        clear hb hb0 HR r0 r1 r2 JP
        go_wp2_with fail
        go_quiet (fail)
        have HB2 := Lib.hid (show Below w.heap.size w (w1.drewN nq) from HB.out.trans ((below_drewN' nq).mono HB.out.size))
        have HR2 := Lib.hid (HR1.out.below (below_drewN' (w := w1) nq) (Nat.le_refl _))
        clear HB HR1
        generalize w1.drewN nq = w2 at *
        have HS := Lib.hid (OneS.mk (x := (k, v, true)) (own_empty w2 HB2.out.size) (HR2.out.below (alloc_below w2 _) (Nat.le_refl _)) (eb_of HB2.out (alloc_below w2 _) (Nat.le_refl _)))
        clear HB2 HR2
        go_wp2_with (first | (at_builtin; go_loud (refine wpList_append_ps rfl (.tmp 29) (.tmp 32) rfl w.heap.size _ 0 [] rfl HS.out.own _ c _ (xs.take c) rfl (by rw [List.length_take, HN.out]; omega) (ps_take (HF.out _ HS.out.b) c) HNIL.out (by omega) HS.out.b.size ?_; intro v7 w3 hown hgrow; have HS3 := Lib.hid (HS.out.grow hown hgrow); obtain ⟨r0, r1, r2⟩ := HS3.out.row.c; clear hown hgrow)) | (at_builtin; go_loud (refine wpList_append_ps rfl (.tmp 45) (.tmp 46) rfl w.heap.size _ _ _ rfl HS3.out.own _ _ _ (xs.drop c) rfl (by rw [List.length_drop, HN.out] <;> omega) (.inl HD.out) (fun _ => rfl) (by omega) HS3.out.b.size ?_; intro v9 w5 hown hgrow; have HS5 := Lib.hid (HS3.out.grow hown hgrow); clear hown hgrow)))
        exact HQ.out _ _ _ _ HS5.out (by rw [putP_none HH.out, HD.out, List.nil_append, List.append_nil, HT.out])
    · have hpc : p < c := by omega
      cases d with
      | false =>
        go_enter Try.func102, Try.ntmps102
        go_wp2_with fail
        refine (JP.out _ hb0).mono ?_
        rintro e w1 ⟨rfl, hb⟩
        have HB := Lib.hid (eb_of hb0 hb (Nat.le_refl _))
        have HR1 := Lib.hid (HR.below hb (Nat.le_refl _))
        clear hb hb0 HR r0 r1 r2 JP
        go_wp2_with fail
        go_quiet (fail)
        have HB2 := Lib.hid (show Below w.heap.size w (w1.drewN nq) from HB.out.trans ((below_drewN' nq).mono HB.out.size))
        have HR2 := Lib.hid (HR1.out.below (below_drewN' (w := w1) nq) (Nat.le_refl _))
        clear HB HR1
        generalize w1.drewN nq = w2 at *
        have HS := Lib.hid (OneS.mk (x := (k, v, false)) (own_empty w2 HB2.out.size) (HR2.out.below (alloc_below w2 _) (Nat.le_refl _)) (eb_of HB2.out (alloc_below w2 _) (Nat.le_refl _)))
        clear HB2 HR2
        go_wp2_with (first | (at_builtin; go_loud (refine wpList_append_ps rfl (.tmp 29) (.tmp 32) rfl w.heap.size _ 0 [] rfl HS.out.own _ p _ (xs.take p) rfl (by rw [List.length_take, HN.out]; omega) (ps_take (HF.out _ HS.out.b) p) HNIL.out (by omega) HS.out.b.size ?_; intro v7 w3 hown hgrow; have HS3 := Lib.hid (HS.out.grow hown hgrow); obtain ⟨r0, r1, r2⟩ := HS3.out.row.c; clear hown hgrow)) | (at_builtin; go_loud (refine wpList_append_ps rfl (.tmp 37) (.tmp 43) rfl w.heap.size _ _ _ rfl (HS3.out.below (alloc_below w3 (.cells #[.string k, .string v] 31))).own (some ⟨w3.heap.size, 0, none⟩) 1 1 [(k, v)] rfl rfl (ps_one w3 (k, v)) (fun e => by cases e) (by omega) (HS3.out.below (alloc_below w3 (.cells #[.string k, .string v] 31))).b.size ?_; intro v8 w4 hown hgrow; have HS4 := Lib.hid ((HS3.out.below (alloc_below w3 (.cells #[.string k, .string v] 31))).grow hown hgrow); clear hown hgrow)) | (at_builtin; go_loud (refine wpList_append_ps rfl (.tmp 45) (.tmp 46) rfl w.heap.size _ _ _ rfl HS4.out.own _ _ _ (xs.drop p) rfl (by rw [List.length_drop, HN.out] <;> omega) (.inl HD.out) (fun e => by cases A with | none => have := HA.out rfl; omega | some _ => cases e) (by omega) HS4.out.b.size ?_; intro v9 w5 hown hgrow; have HS5 := Lib.hid (HS4.out.grow hown hgrow); clear hown hgrow)))
        exact HQ.out _ _ _ _ HS5.out (by rw [putP_new HH.out HP.out, HD.out, List.nil_append, List.append_nil])
      | true =>
        go_enter Try.func102, Try.ntmps102
        go_wp2_with fail
        refine (JP.out _ hb0).mono ?_
        rintro e w1 ⟨rfl, hb⟩
        have HB := Lib.hid (eb_of hb0 hb (Nat.le_refl _))
        have HR1 := Lib.hid (HR.below hb (Nat.le_refl _))
        clear hb hb0 HR r0 r1 r2 JP
        go_wp2_with fail
        go_quiet (fail)
        have HB2 := Lib.hid (show Below w.heap.size w (w1.drewN nq) from HB.out.trans ((below_drewN' nq).mono HB.out.size))
        have HR2 := Lib.hid (HR1.out.below (below_drewN' (w := w1) nq) (Nat.le_refl _))
        clear HB HR1
        generalize w1.drewN nq = w2 at *
        have HS := Lib.hid (OneS.mk (x := (k, v, true)) (own_empty w2 HB2.out.size) (HR2.out.below (alloc_below w2 _) (Nat.le_refl _)) (eb_of HB2.out (alloc_below w2 _) (Nat.le_refl _)))
        clear HB2 HR2
        go_wp2_with (first | (at_builtin; go_loud (refine wpList_append_ps rfl (.tmp 29) (.tmp 32) rfl w.heap.size _ 0 [] rfl HS.out.own _ p _ (xs.take p) rfl (by rw [List.length_take, HN.out]; omega) (ps_take (HF.out _ HS.out.b) p) HNIL.out (by omega) HS.out.b.size ?_; intro v7 w3 hown hgrow; have HS3 := Lib.hid (HS.out.grow hown hgrow); obtain ⟨r0, r1, r2⟩ := HS3.out.row.c; clear hown hgrow)) | (at_builtin; go_loud (refine wpList_append_ps rfl (.tmp 45) (.tmp 46) rfl w.heap.size _ _ _ rfl HS3.out.own _ _ _ (xs.drop p) rfl (by rw [List.length_drop, HN.out] <;> omega) (.inl HD.out) (fun e => by cases A with | none => have := HA.out rfl; omega | some _ => cases e) (by omega) HS3.out.b.size ?_; intro v9 w5 hown hgrow; have HS5 := Lib.hid (HS3.out.grow hown hgrow); clear hown hgrow)))
        exact HQ.out _ _ _ _ HS5.out (by rw [putP_none HH.out, HD.out, List.nil_append, List.append_nil, HT.out])
  · have hlt : p < n := by omega
    have hlx : p < xs.length := by rw [HN.out]; exact hlt
    have hne : xs ≠ [] := by rintro rfl; simp at hlx
    obtain ⟨b, off, rfl, _⟩ := hf.resolve_left hne
    have HNIL : Hid ((some (⟨b, off, none⟩ : Addr)) = none → c = 0) := HA
    have HG := Lib.hid (fun (w' : World) (h : PsAt w' (some ⟨b, off, none⟩) xs) => show w'.cell? ⟨b, off + p * 2, none⟩ = some (.string xs[p].1) from by
      rcases h with h | ⟨b', off', e, _, hc⟩
      · exact absurd h hne
      · injection e with e; injection e with h1 h2; subst h1 h2
        exact (hc p hlx).1)
    obtain ⟨yk, hyk⟩ : ∃ y, xs[p].1 = y := ⟨_, rfl⟩
    have hcp : ¬ c = p := by omega
    have hpc : p < c := by omega
    have q1 : 0 < n - p := by omega
    have q2 : (0 : Int) < ((n - p : Nat) : Int) := by omega
    have q3 : (0 : Int) < (n : Int) - (p : Int) := by omega
    have q4 : (1 : Int) ≤ ((n - p : Nat) : Int) := by omega
    have q5 : p < n := hlt
    clear hf hne
    by_cases hk : yk = k
    · subst hk
      have HH : Hid (hasP yk xs = true) := Lib.hid (by unfold hasP; rw [HP.out, List.getElem?_eq_getElem hlx]; simpa using hyk)
      rw [hyk] at HG
      clear hyk hlx
      by_cases hc1 : c - p = 1
      · have HD : Hid (xs.drop (p + 1) = []) := Lib.hid (by rw [List.drop_eq_nil_iff, HN.out]; omega)
        cases d with
        | false =>
          go_enter Try.func102, Try.ntmps102
          go_wp2_with fail
          refine (JP.out _ hb0).mono ?_
          rintro e w1 ⟨rfl, hb⟩
          have HB := Lib.hid (eb_of hb0 hb (Nat.le_refl _))
          have HR1 := Lib.hid (HR.below hb (Nat.le_refl _))
          clear hb hb0 HR r0 r1 r2 JP
          obtain ⟨r0, r1, r2⟩ := HR1.out.c
          have g0 := HG.out _ (HF.out _ HB.out)
          go_wp2_with fail
          go_quiet (fail)
          have HB2 := Lib.hid (show Below w.heap.size w (w1.drewN nq) from HB.out.trans ((below_drewN' nq).mono HB.out.size))
          have HR2 := Lib.hid (HR1.out.below (below_drewN' (w := w1) nq) (Nat.le_refl _))
          clear HB HR1
          generalize w1.drewN nq = w2 at *
          have HS := Lib.hid (OneS.mk (x := (yk, v, false)) (own_empty w2 HB2.out.size) (HR2.out.below (alloc_below w2 _) (Nat.le_refl _)) (eb_of HB2.out (alloc_below w2 _) (Nat.le_refl _)))
          clear HB2 HR2
          go_wp2_with (first | (at_builtin; go_loud (refine wpList_append_ps rfl (.tmp 29) (.tmp 32) rfl w.heap.size _ 0 [] rfl HS.out.own _ p _ (xs.take p) rfl (by rw [List.length_take, HN.out]; omega) (ps_take (HF.out _ HS.out.b) p) HNIL.out (by omega) HS.out.b.size ?_; intro v7 w3 hown hgrow; have HS3 := Lib.hid (HS.out.grow hown hgrow); obtain ⟨r0, r1, r2⟩ := HS3.out.row.c; clear hown hgrow)) | (at_builtin; go_loud (refine wpList_append_ps rfl (.tmp 37) (.tmp 43) rfl w.heap.size _ _ _ rfl (HS3.out.below (alloc_below w3 (.cells #[.string yk, .string v] 31))).own (some ⟨w3.heap.size, 0, none⟩) 1 1 [(yk, v)] rfl rfl (ps_one w3 (yk, v)) (fun e => by cases e) (by omega) (HS3.out.below (alloc_below w3 (.cells #[.string yk, .string v] 31))).b.size ?_; intro v8 w4 hown hgrow; have HS4 := Lib.hid ((HS3.out.below (alloc_below w3 (.cells #[.string yk, .string v] 31))).grow hown hgrow); clear hown hgrow)) | (at_builtin; go_loud (refine wpList_append_ps rfl (.tmp 45) (.tmp 46) rfl w.heap.size _ _ _ rfl HS4.out.own _ _ _ (xs.drop (p + 1)) rfl (by rw [List.length_drop, HN.out] <;> omega) (.inl HD.out) (fun e => by cases e) (by omega) HS4.out.b.size ?_; intro v9 w5 hown hgrow; have HS5 := Lib.hid (HS4.out.grow hown hgrow); clear hown hgrow)))
          exact HQ.out _ _ _ _ HS5.out (by rw [putP_old HH.out HP.out]; simp)
        | true =>
          go_enter Try.func102, Try.ntmps102
          go_wp2_with fail
          refine (JP.out _ hb0).mono ?_
          rintro e w1 ⟨rfl, hb⟩
          have HB := Lib.hid (eb_of hb0 hb (Nat.le_refl _))
          have HR1 := Lib.hid (HR.below hb (Nat.le_refl _))
          clear hb hb0 HR r0 r1 r2 JP
          obtain ⟨r0, r1, r2⟩ := HR1.out.c
          have g0 := HG.out _ (HF.out _ HB.out)
          go_wp2_with fail
          go_quiet (fail)
          have HB2 := Lib.hid (show Below w.heap.size w (w1.drewN nq) from HB.out.trans ((below_drewN' nq).mono HB.out.size))
          have HR2 := Lib.hid (HR1.out.below (below_drewN' (w := w1) nq) (Nat.le_refl _))
          clear HB HR1
          generalize w1.drewN nq = w2 at *
          have HS := Lib.hid (OneS.mk (x := (yk, v, true)) (own_empty w2 HB2.out.size) (HR2.out.below (alloc_below w2 _) (Nat.le_refl _)) (eb_of HB2.out (alloc_below w2 _) (Nat.le_refl _)))
          clear HB2 HR2
          go_wp2_with (first | (at_builtin; go_loud (refine wpList_append_ps rfl (.tmp 29) (.tmp 32) rfl w.heap.size _ 0 [] rfl HS.out.own _ p _ (xs.take p) rfl (by rw [List.length_take, HN.out]; omega) (ps_take (HF.out _ HS.out.b) p) HNIL.out (by omega) HS.out.b.size ?_; intro v7 w3 hown hgrow; have HS3 := Lib.hid (HS.out.grow hown hgrow); obtain ⟨r0, r1, r2⟩ := HS3.out.row.c; clear hown hgrow)) | (at_builtin; go_loud (refine wpList_append_ps rfl (.tmp 45) (.tmp 46) rfl w.heap.size _ _ _ rfl HS3.out.own _ _ _ (xs.drop (p + 1)) rfl (by rw [List.length_drop, HN.out] <;> omega) (.inl HD.out) (fun e => by cases e) (by omega) HS3.out.b.size ?_; intro v9 w5 hown hgrow; have HS5 := Lib.hid (HS3.out.grow hown hgrow); clear hown hgrow)))
          exact HQ.out _ _ _ _ HS5.out (by rw [putP_dead HH.out HP.out]; simp)
      · cases d with
        | false =>
          go_enter Try.func102, Try.ntmps102
          go_wp2_with fail
          refine (JP.out _ hb0).mono ?_
          rintro e w1 ⟨rfl, hb⟩
          have HB := Lib.hid (eb_of hb0 hb (Nat.le_refl _))
          have HR1 := Lib.hid (HR.below hb (Nat.le_refl _))
          clear hb hb0 HR r0 r1 r2 JP
          obtain ⟨r0, r1, r2⟩ := HR1.out.c
          have g0 := HG.out _ (HF.out _ HB.out)
          go_wp2_with fail
          go_quiet (fail)
          have HB2 := Lib.hid (show Below w.heap.size w (w1.drewN nq) from HB.out.trans ((below_drewN' nq).mono HB.out.size))
          have HR2 := Lib.hid (HR1.out.below (below_drewN' (w := w1) nq) (Nat.le_refl _))
          clear HB HR1
          generalize w1.drewN nq = w2 at *
          have HS := Lib.hid (OneS.mk (x := (yk, v, false)) (own_empty w2 HB2.out.size) (HR2.out.below (alloc_below w2 _) (Nat.le_refl _)) (eb_of HB2.out (alloc_below w2 _) (Nat.le_refl _)))
          clear HB2 HR2
          go_wp2_with (first | (at_builtin; go_loud (refine wpList_append_ps rfl (.tmp 29) (.tmp 32) rfl w.heap.size _ 0 [] rfl HS.out.own _ p _ (xs.take p) rfl (by rw [List.length_take, HN.out]; omega) (ps_take (HF.out _ HS.out.b) p) HNIL.out (by omega) HS.out.b.size ?_; intro v7 w3 hown hgrow; have HS3 := Lib.hid (HS.out.grow hown hgrow); obtain ⟨r0, r1, r2⟩ := HS3.out.row.c; clear hown hgrow)) | (at_builtin; go_loud (refine wpList_append_ps rfl (.tmp 37) (.tmp 43) rfl w.heap.size _ _ _ rfl (HS3.out.below (alloc_below w3 (.cells #[.string yk, .string v] 31))).own (some ⟨w3.heap.size, 0, none⟩) 1 1 [(yk, v)] rfl rfl (ps_one w3 (yk, v)) (fun e => by cases e) (by omega) (HS3.out.below (alloc_below w3 (.cells #[.string yk, .string v] 31))).b.size ?_; intro v8 w4 hown hgrow; have HS4 := Lib.hid ((HS3.out.below (alloc_below w3 (.cells #[.string yk, .string v] 31))).grow hown hgrow); clear hown hgrow)) | (at_builtin; go_loud (refine wpList_append_ps rfl (.tmp 45) (.tmp 46) rfl w.heap.size _ _ _ rfl HS4.out.own _ _ _ (xs.drop (p + 1)) rfl (by rw [List.length_drop, HN.out] <;> omega) ((by have q := ps_drop (HF.out _ HS4.out.b) (p + 1); rw [show off + (p + 1) * 2 = off + p * 2 + 2 by omega] at q; exact q)) (fun e => by cases e) (by omega) HS4.out.b.size ?_; intro v9 w5 hown hgrow; have HS5 := Lib.hid (HS4.out.grow hown hgrow); clear hown hgrow)))
          exact HQ.out _ _ _ _ HS5.out (by rw [putP_old HH.out HP.out]; simp)
        | true =>
          go_enter Try.func102, Try.ntmps102
          go_wp2_with fail
          refine (JP.out _ hb0).mono ?_
          rintro e w1 ⟨rfl, hb⟩
          have HB := Lib.hid (eb_of hb0 hb (Nat.le_refl _))
          have HR1 := Lib.hid (HR.below hb (Nat.le_refl _))
          clear hb hb0 HR r0 r1 r2 JP
          obtain ⟨r0, r1, r2⟩ := HR1.out.c
          have g0 := HG.out _ (HF.out _ HB.out)
          go_wp2_with fail
          go_quiet (fail)
          have HB2 := Lib.hid (show Below w.heap.size w (w1.drewN nq) from HB.out.trans ((below_drewN' nq).mono HB.out.size))
          have HR2 := Lib.hid (HR1.out.below (below_drewN' (w := w1) nq) (Nat.le_refl _))
          clear HB HR1
          generalize w1.drewN nq = w2 at *
          have HS := Lib.hid (OneS.mk (x := (yk, v, true)) (own_empty w2 HB2.out.size) (HR2.out.below (alloc_below w2 _) (Nat.le_refl _)) (eb_of HB2.out (alloc_below w2 _) (Nat.le_refl _)))
          clear HB2 HR2
          go_wp2_with (first | (at_builtin; go_loud (refine wpList_append_ps rfl (.tmp 29) (.tmp 32) rfl w.heap.size _ 0 [] rfl HS.out.own _ p _ (xs.take p) rfl (by rw [List.length_take, HN.out]; omega) (ps_take (HF.out _ HS.out.b) p) HNIL.out (by omega) HS.out.b.size ?_; intro v7 w3 hown hgrow; have HS3 := Lib.hid (HS.out.grow hown hgrow); obtain ⟨r0, r1, r2⟩ := HS3.out.row.c; clear hown hgrow)) | (at_builtin; go_loud (refine wpList_append_ps rfl (.tmp 45) (.tmp 46) rfl w.heap.size _ _ _ rfl HS3.out.own _ _ _ (xs.drop (p + 1)) rfl (by rw [List.length_drop, HN.out] <;> omega) ((by have q := ps_drop (HF.out _ HS3.out.b) (p + 1); rw [show off + (p + 1) * 2 = off + p * 2 + 2 by omega] at q; exact q)) (fun e => by cases e) (by omega) HS3.out.b.size ?_; intro v9 w5 hown hgrow; have HS5 := Lib.hid (HS3.out.grow hown hgrow); clear hown hgrow)))
          exact HQ.out _ _ _ _ HS5.out (by rw [putP_dead HH.out HP.out]; simp)
    · have hn1 := str_ne hk
      have hn2 := str_beq_ne hk
      have HH : Hid (hasP k xs = false) := Lib.hid (by unfold hasP; rw [HP.out, List.getElem?_eq_getElem hlx]; simp only [decide_eq_false_iff_not]; rw [hyk]; exact hk)
      rw [hyk] at HG
      clear hyk hlx hk
      cases d with
      | false =>
        go_enter Try.func102, Try.ntmps102
        go_wp2_with fail
        refine (JP.out _ hb0).mono ?_
        rintro e w1 ⟨rfl, hb⟩
        have HB := Lib.hid (eb_of hb0 hb (Nat.le_refl _))
        have HR1 := Lib.hid (HR.below hb (Nat.le_refl _))
        clear hb hb0 HR r0 r1 r2 JP
        obtain ⟨r0, r1, r2⟩ := HR1.out.c
        have g0 := HG.out _ (HF.out _ HB.out)
        go_wp2_with fail
        go_quiet (fail)
        have HB2 := Lib.hid (show Below w.heap.size w (w1.drewN nq) from HB.out.trans ((below_drewN' nq).mono HB.out.size))
        have HR2 := Lib.hid (HR1.out.below (below_drewN' (w := w1) nq) (Nat.le_refl _))
        clear HB HR1
        generalize w1.drewN nq = w2 at *
        have HS := Lib.hid (OneS.mk (x := (k, v, false)) (own_empty w2 HB2.out.size) (HR2.out.below (alloc_below w2 _) (Nat.le_refl _)) (eb_of HB2.out (alloc_below w2 _) (Nat.le_refl _)))
        clear HB2 HR2
        go_wp2_with (first | (at_builtin; go_loud (refine wpList_append_ps rfl (.tmp 29) (.tmp 32) rfl w.heap.size _ 0 [] rfl HS.out.own _ p _ (xs.take p) rfl (by rw [List.length_take, HN.out]; omega) (ps_take (HF.out _ HS.out.b) p) HNIL.out (by omega) HS.out.b.size ?_; intro v7 w3 hown hgrow; have HS3 := Lib.hid (HS.out.grow hown hgrow); obtain ⟨r0, r1, r2⟩ := HS3.out.row.c; clear hown hgrow)) | (at_builtin; go_loud (refine wpList_append_ps rfl (.tmp 37) (.tmp 43) rfl w.heap.size _ _ _ rfl (HS3.out.below (alloc_below w3 (.cells #[.string k, .string v] 31))).own (some ⟨w3.heap.size, 0, none⟩) 1 1 [(k, v)] rfl rfl (ps_one w3 (k, v)) (fun e => by cases e) (by omega) (HS3.out.below (alloc_below w3 (.cells #[.string k, .string v] 31))).b.size ?_; intro v8 w4 hown hgrow; have HS4 := Lib.hid ((HS3.out.below (alloc_below w3 (.cells #[.string k, .string v] 31))).grow hown hgrow); clear hown hgrow)) | (at_builtin; go_loud (refine wpList_append_ps rfl (.tmp 45) (.tmp 46) rfl w.heap.size _ _ _ rfl HS4.out.own _ _ _ (xs.drop p) rfl (by rw [List.length_drop, HN.out] <;> omega) (ps_drop (HF.out _ HS4.out.b) p) (fun e => by cases e) (by omega) HS4.out.b.size ?_; intro v9 w5 hown hgrow; have HS5 := Lib.hid (HS4.out.grow hown hgrow); clear hown hgrow)))
        exact HQ.out _ _ _ _ HS5.out (by rw [putP_new HH.out HP.out]; simp)
      | true =>
        go_enter Try.func102, Try.ntmps102
        go_wp2_with fail
        refine (JP.out _ hb0).mono ?_
        rintro e w1 ⟨rfl, hb⟩
        have HB := Lib.hid (eb_of hb0 hb (Nat.le_refl _))
        have HR1 := Lib.hid (HR.below hb (Nat.le_refl _))
        clear hb hb0 HR r0 r1 r2 JP
        obtain ⟨r0, r1, r2⟩ := HR1.out.c
        have g0 := HG.out _ (HF.out _ HB.out)
        go_wp2_with fail
        go_quiet (fail)
        have HB2 := Lib.hid (show Below w.heap.size w (w1.drewN nq) from HB.out.trans ((below_drewN' nq).mono HB.out.size))
        have HR2 := Lib.hid (HR1.out.below (below_drewN' (w := w1) nq) (Nat.le_refl _))
        clear HB HR1
        generalize w1.drewN nq = w2 at *
        have HS := Lib.hid (OneS.mk (x := (k, v, true)) (own_empty w2 HB2.out.size) (HR2.out.below (alloc_below w2 _) (Nat.le_refl _)) (eb_of HB2.out (alloc_below w2 _) (Nat.le_refl _)))
        clear HB2 HR2
        go_wp2_with (first | (at_builtin; go_loud (refine wpList_append_ps rfl (.tmp 29) (.tmp 32) rfl w.heap.size _ 0 [] rfl HS.out.own _ p _ (xs.take p) rfl (by rw [List.length_take, HN.out]; omega) (ps_take (HF.out _ HS.out.b) p) HNIL.out (by omega) HS.out.b.size ?_; intro v7 w3 hown hgrow; have HS3 := Lib.hid (HS.out.grow hown hgrow); obtain ⟨r0, r1, r2⟩ := HS3.out.row.c; clear hown hgrow)) | (at_builtin; go_loud (refine wpList_append_ps rfl (.tmp 45) (.tmp 46) rfl w.heap.size _ _ _ rfl HS3.out.own _ _ _ (xs.drop p) rfl (by rw [List.length_drop, HN.out] <;> omega) (ps_drop (HF.out _ HS3.out.b) p) (fun e => by cases e) (by omega) HS3.out.b.size ?_; intro v9 w5 hown hgrow; have HS5 := Lib.hid (HS3.out.grow hown hgrow); clear hown hgrow)))
        exact HQ.out _ _ _ _ HS5.out (by rw [putP_none HH.out]; simp)
end Go.Proofs.Ytbgpcmpbfenplaa.KK
