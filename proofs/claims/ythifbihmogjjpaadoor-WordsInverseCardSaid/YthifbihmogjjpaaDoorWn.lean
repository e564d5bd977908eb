/-
  Contract of Split, the loop.
-/
import Derived.Test.YthifbihmogjjpaaDoorWm
namespace Go.Proofs.YthifbihmogjjpaaDoor
open Go.ChangeShapes Go.WideShapes Go.ChangeAt Go.RowKit Go.Proofs
attribute [local go_sem] Oper.semAt_some

/-- Split's own cells between two rounds -/
def SpI (w : World) (pre : List (Option (List UInt8 × Bool))) (W : World) : Prop :=
  ∃ (fs : List (List UInt8 × Bool)) (v : Value), pre = fs.map some ∧ Boxed W w.heap.size 23 (.slice none 0 0) ∧ Boxed W (w.heap.size + 1) 24 (.int .i64 0) ∧ Boxed W (w.heap.size + 2) 23 v ∧
    W.ownsRow (w.heap.size + 7) 48 2 v fs.length (cellsF fs) ∧ Below w.heap.size w W
/-- where a round has left -/
def SpX (w : World) (c : Code) (pre : List (Option (List UInt8 × Bool))) (W : World) : Prop :=
  c = .ret ∧ none ∈ pre ∧ Boxed W w.heap.size 23 (.slice none 0 0) ∧ Boxed W (w.heap.size + 1) 24 (.int .i64 6) ∧ Below w.heap.size w W
def SpK (w : World) (A A' : World) : Prop := Below w.heap.size A A' ∧ ∀ o, A.heap[w.heap.size + 6]? = some o → A'.heap[w.heap.size + 6]? = some o
def agF (x : Option (List UInt8 × Bool)) : Value := match x with
  | some (t, q) => .agg #[.string ⟨t.toArray⟩, .bool q]
  | none => .agg #[.string ⟨#[]⟩, .bool false]
def SpA (s : ByteArray) (w : World) (x : Option (List UInt8 × Bool)) (a' : Act) (W : World) : Prop :=
  ∃ Bx, w.heap.size + 6 ≤ Bx ∧ (∃ c0 c1, agF x = .agg #[c0, c1] ∧ Box2 W Bx c0 c1) ∧ a' = { tmps := (.string s :: undef :: .pointer (some ⟨w.heap.size, 0, none⟩) :: .pointer (some ⟨w.heap.size + 1, 0, none⟩) :: .pointer (some ⟨w.heap.size + 1 + 1, 0, none⟩) :: .pointer (some ⟨Bx, 0, none⟩) :: .bool x.isSome :: .string s :: .int .i64 (s.size : Int) :: .bool false :: .string s :: .func (.func 44) #[] #[.pointer (some ⟨w.heap.size + 1 + 1 + 1, 0, none⟩)] :: agF x :: .bool x.isSome :: undef :: undef :: undef :: undef :: undef :: undef :: undef :: undef :: undef :: []).toArray, defers := [] }

theorem own_base {w w' : World} {B e size n : Nat} {v : Value} {xs : List Value} {row : Option Nat} (h : w.ownsRow B e size v n xs) (hg : w.grownBy w' row) (hr : ∀ r, row = some r → r < B) : w'.ownsRow B e size v n xs := by
  refine ⟨h.1, ?_⟩
  rcases h.2 with hn | ⟨g, cap, cur, rfl, hg', hgg, rest⟩
  · exact .inl hn
  · exact .inr ⟨g, cap, cur, rfl, hg', by rw [hg.block g (Array.getElem?_eq_some_iff.1 hgg).1 (fun e => by have := hr g e.symm; omega)]; exact hgg, rest⟩
theorem SpI.kept {w A A' : World} {pre : List (Option (List UInt8 × Bool))} {row : Option Nat} (h : SpI w pre A) (hg : A.grownBy A' row) (hr : ∀ r, row = some r → w.heap.size + 4 ≤ r ∧ r ≤ w.heap.size + 6) : SpI w pre A' := by
  obtain ⟨fs, v, hp, b0, b1, b2, ho, hb⟩ := h
  have ne : ∀ k, k < w.heap.size + 4 → some k ≠ row := fun k hk e => by have := hr k e.symm; omega
  exact ⟨fs, v, hp, b0.kept hg (ne _ (by omega)), b1.kept hg (ne _ (by omega)), b2.kept hg (ne _ (by omega)), own_base ho hg (fun r e => by have := hr r e; omega),
    hb.grown hg hb.size (fun k e => by have := hr k e; omega)⟩
theorem SpX.kept {w A A' : World} {c : Code} {pre : List (Option (List UInt8 × Bool))} {row : Option Nat} (h : SpX w c pre A) (hg : A.grownBy A' row) (hr : ∀ r, row = some r → w.heap.size + 4 ≤ r ∧ r ≤ w.heap.size + 6) : SpX w c pre A' := by
  obtain ⟨hc, hp, b0, b1, hb⟩ := h
  have ne : ∀ k, k < w.heap.size + 4 → some k ≠ row := fun k hk e => by have := hr k e.symm; omega
  exact ⟨hc, hp, b0.kept hg (ne _ (by omega)), b1.kept hg (ne _ (by omega)), hb.grown hg hb.size (fun k e => by have := hr k e; omega)⟩

theorem yield_any {n m : Nat} {P : Program} {l : Nat} {args : Array Value} {W : World} {R : Ending → World → Prop} (h : YieldAt Fence.wide n P l args W R) : YieldAt Fence.wide m P l args W R := by
  obtain ⟨fn, tmps, assign, body, hy, hF, hR⟩ := h
  exact ⟨fn, tmps, assign, body, hy, hF, fun c cs _ => hR c cs (room_wide _)⟩

set_option maxRecDepth 100000 in
set_option maxHeartbeats 2000000 in
theorem Split_main (s : ByteArray) (w : World) (he : EscAt w) (h : s.size ≤ 8192) :
    Calls Tryd.prog 9 #[.string s] w (SplitOut (Pl.L s) w) := by
  have HE := Lib.hid he
  have hlt0 := he.lt
  clear he
  have hdec : decide ((8192 : Int) < (s.size : Int)) = false := by simp; omega
  refine (callsIn_wide (n := 9)).1 ?_
  refine callsIn_of_wp_marks Tryd.func9 rfl trivial ?_
  simp only [Tryd.ntmps9, List.size_toArray, List.length_cons, List.length_nil, Nat.reduceAdd, Nat.reduceSub, Array.replicate_succ, Array.replicate_zero, List.push_toArray, List.append_toArray, List.nil_append, List.cons_append]
  gi_wp2_with (refine ⟨trivial, ?_⟩; refine (callsIn_wide.2 (fieldsOf_any s _)).mono ?_; rintro e w' ⟨rfl, rfl⟩)
  refine range_own (n := 9) (ps := #[12, 13]) (gf := 44) (lb := #[.pointer (some ⟨w.heap.size + 1 + 1 + 1, 0, none⟩)]) ?hg (enters_of Tryd.func44 (by kernel_rfl) rfl)
    (encs := encF) ?hps (Pl.seq (Pl.L s)) (SpK w) (SpI w) (SpX w)
    ?hI ?hIx
    (fun a b => ⟨a.1.trans b.1, fun o ho => b.2 o (a.2 o ho)⟩) ?hKb ?hKn ?h0 ?hseq (SpA s w) ?hAx ?hassign ?hbody ?hdone ?hstop
  case hg => rfl
  case hps => intro x; cases x <;> rfl
  case hI =>
    intro pre A A' row h hg hr
    exact h.kept hg (fun r e => by have := hr r e; simp only [World.size_alloc] at this; omega)
  case hIx =>
    intro c pre A A' row h hg hr
    exact h.kept hg (fun r e => by have := hr r e; simp only [World.size_alloc] at this; omega)
  case hKb =>
    intro A A' hg hsz
    simp only [World.size_alloc] at hg hsz
    exact ⟨(Below.refl _ _).grown hg (by omega) (fun k e => by cases e; omega), fun o ho => (hg.block _ (Array.getElem?_eq_some_iff.1 ho).1 (by simp)).trans ho⟩
  case hKn =>
    intro A A' hg hsz
    simp only [World.size_alloc] at hsz
    exact ⟨(Below.refl _ _).grown hg (by omega) (fun k e => by cases e), fun o ho => (hg.block _ (Array.getElem?_eq_some_iff.1 ho).1 (by simp)).trans ho⟩
  case h0 =>
    refine ⟨[], .slice none 0 0, rfl, ?_, ?_, ?_, World.ownsRow_nil _ _ _ _, (((((Below.refl _ w).alloc (Nat.le_refl _) _).alloc (by simp) _).alloc (by simp; omega) _).alloc (by simp; omega) _)⟩
    · exact ((Boxed.new w _ _).alloc _ |>.alloc _).alloc _
    · have := Boxed.new (w.alloc (.cells #[.slice none 0 0] 23)) 24 (.int .i64 0)
      rw [World.size_alloc] at this
      exact (this.alloc _).alloc _
    · have := Boxed.new ((w.alloc (.cells #[.slice none 0 0] 23)).alloc (.cells #[.int .i64 0] 24)) 23 (.slice none 0 0)
      rw [World.size_alloc, World.size_alloc] at this
      exact this.alloc _
  case hAx =>
    rintro x a' A A' ⟨Bx, hBx, ⟨c0, c1, hc, hbx⟩, ha⟩ hg
    simp only [World.size_alloc] at hg
    exact ⟨Bx, hBx, ⟨c0, c1, hc, (hg.block _ hbx.lt (by simp; omega)).trans hbx⟩, ha⟩
  case hassign =>
    intro l pre x W K hi hsz hK
    simp only [World.size_alloc] at hsz
    rcases x with _ | ⟨t, q⟩
    all_goals
      simp only [encF]
      gi_wp2
      exact hK _ _ (World.grownBy_alloc W _ none) ⟨W.heap.size, hsz, ⟨_, _, rfl, World.alloc_heap_new W _⟩, rfl⟩
  case hbody =>
    rintro l pre x a' W hpre ⟨fs, v, hp, b0, b1, b2, ho, hb⟩ hsz ⟨Bx, hBx, ⟨c0, c1, hc, hbx⟩, rfl⟩
    simp only [World.size_alloc] at hsz
    have f0 := hbx.c0
    have f1 := hbx.c1
    have hxl := hbx.lt
    rcases x with _ | ⟨t, q⟩
    · have g0 := b0.cell
      have g1 := b1.cell
      have z0 := b0.frozen
      have z1 := b1.frozen
      simp only [agF, Option.isSome]
      have hfin : Two (w.heap.size + 1 + 1 + 1 + 1) W ((W.setCell ⟨w.heap.size, 0, none⟩ (.slice none 0 0)).setCell ⟨w.heap.size + 1, 0, none⟩ (.int .i64 6)) ∧ SpX w .ret (pre ++ [none]) ((W.setCell ⟨w.heap.size, 0, none⟩ (.slice none 0 0)).setCell ⟨w.heap.size + 1, 0, none⟩ (.int .i64 6)) := by
        refine ⟨⟨by simp [World.setCell], ?_, ?_⟩, rfl, by simp, ?_, ?_, ?_⟩
        · rw [Below.heap_setCell _ _ _ _ (by simp; omega), Below.heap_setCell _ _ _ _ (by simp; omega)]
        · rw [Below.heap_setCell _ _ _ _ (by simp; omega), Below.heap_setCell _ _ _ _ (by simp; omega)]
        · exact (Below.heap_setCell _ _ _ _ (by simp)).trans (b0.set _)
        · exact Boxed.set _ ((Below.heap_setCell _ _ _ _ (by simp)).trans b1)
        · exact (hb.setCell (p := ⟨w.heap.size, 0, none⟩) (Nat.le_refl _) _).setCell (p := ⟨w.heap.size + 1, 0, none⟩) (by simp) _
      have HF := Lib.hid hfin
      clear hfin
      gi_wp2
      simp only [roundEnd, World.size_alloc]
      exact HF.out
    · simp only [agF, Option.isSome] at hc ⊢
      injection hc with hc
      have hc0 : c0 = .string ⟨t.toArray⟩ := by have := congrArg (fun a : Array Value => a[0]?) hc; simpa using this.symm
      have hc1 : c1 = .bool q := by have := congrArg (fun a : Array Value => a[1]?) hc; simpa using this.symm
      subst hc0 hc1
      clear hc
      have g2 : W.cell? ⟨w.heap.size + 1 + 1, 0, none⟩ = some v := b2.cell
      have z2 : W.frozen? ⟨w.heap.size + 1 + 1, 0, none⟩ = false := b2.frozen
      have hlen : fs.length + 1 ≤ 9000 := by
        have h1 := hpre.length_le
        have h2 := Pl.seq_len (Pl.L s)
        rw [hp, Pl.L_length] at *
        simp at h1; omega
      have HP := Lib.hid hp
      obtain ⟨i0, hi, hz0, hz1, hz2⟩ := info_parts infoF
      clear hp
      gi_wp2_with (gi_at_builtin; refine wpListIn_append_own _ rfl (.tmp 16) (.tmp 18) 23 rfl (w.heap.size + 7) 48 i0 (.agg #[.string ⟨#[]⟩, .bool false]) 2 24 Tryd.underlying23 hi hz0 hz1 hz2 rfl (by decide) v fs.length (cellsF fs) rfl (ho.alloc _) ⟨W.heap.size, 0, none⟩ 1 1 [.string ⟨t.toArray⟩, .bool q] rfl rfl (cell_two_new _ _ _ _) (by simp [Value.oneCell']) (by unfold maxLen; omega) (by omega) (by simp; omega) ?_; intro v' w1 hown' hgrow _; obtain ⟨g9, cap9, rfl⟩ := ownsRow_succ hown'; have HO := Lib.hid hown'; have HG := Lib.hid hgrow; clear hown' hgrow; have hne : some (w.heap.size + 2) ≠ v.ownBlock := (fun e => by have := (ho.lt _ e.symm).1; omega); have b2' : Boxed w1 (w.heap.size + 2) 23 v := (b2.alloc _).kept HG.out hne; have g2 : w1.cell? ⟨w.heap.size + 1 + 1, 0, none⟩ = some v := b2'.cell; have z2 : w1.frozen? ⟨w.heap.size + 1 + 1, 0, none⟩ = false := b2'.frozen)
      simp only [roundEnd, World.size_alloc]
      have hgr : W.grownBy w1 v.ownBlock := (World.grownBy_alloc W (.cells #[.string ⟨t.toArray⟩, .bool q] 48) v.ownBlock).trans HG.out
      have hrow : ∀ r, v.ownBlock = some r → w.heap.size + 7 ≤ r := fun r e => (ho.lt r e).1
      obtain ⟨u, hu⟩ : ∃ u, Value.slice (some ⟨g9, 0, none⟩) (fs.length + 1) cap9 = u := ⟨_, rfl⟩
      have hown := HO.out
      rw [hu] at hown ⊢
      have keep : ∀ k, k < w.heap.size + 7 → k < W.heap.size → k ≠ w.heap.size + 1 + 1 → (w1.setCell ⟨w.heap.size + 1 + 1, 0, none⟩ u).heap[k]? = W.heap[k]? := fun k h1 h2 h3 =>
        (Below.heap_setCell _ _ _ _ h3).trans (hgr.block k h2 (fun e => by have := hrow k e.symm; omega))
      have hsz1 := hgr.size
      have hB1 : Below w.heap.size W w1 := (Below.refl _ _).grown hgr (by omega) (fun k e => by have := hrow k e; omega)
      have hB3 : Below w.heap.size W (w1.setCell ⟨w.heap.size + 1 + 1, 0, none⟩ u) := hB1.setCell (p := ⟨w.heap.size + 1 + 1, 0, none⟩) (by show w.heap.size ≤ w.heap.size + 1 + 1; omega) _
      refine ⟨⟨by simp only [World.setCell, Array.size_modify]; omega, keep _ (by omega) (by omega) (by omega), keep _ (by omega) (by omega) (by omega)⟩, ⟨hB3, fun o ho' => (keep _ (by omega) (Array.getElem?_eq_some_iff.1 ho').1 (by omega)).trans ho'⟩, fs ++ [(t, q)], u, by rw [HP.out]; simp, ?_, ?_, ?_, ?_, hb.trans hB3⟩
      · exact (keep _ (by omega) (by omega) (by omega)).trans b0
      · exact (keep _ (by omega) (by omega) (by omega)).trans b1
      · have h2 : Boxed w1 (w.heap.size + 2) 23 v := (hgr.block _ (by omega) (fun e => by have := hrow _ e.symm; omega)).trans b2
        exact h2.set u
      · have := ownsRow_setCell_below hown (a := ⟨w.heap.size + 1 + 1, 0, none⟩) (by first | (simp; done) | (simp; omega)) u
        rw [cellsF_snoc, List.length_append]
        exact this
  case hseq =>
    intro l J Jx W hsz hbl hJ hY h0
    simp only [World.size_alloc] at hsz hbl hJ
    have hc : W.cell? ⟨w.heap.size + 1 + 1 + 1, 0, none⟩ = some (.string s) := by
      rw [hbl.cell (p := ⟨w.heap.size + 1 + 1 + 1, 0, none⟩) (by simp)]
      have := Boxed.new (((w.alloc (.cells #[.slice none 0 0] 23)).alloc (.cells #[.int .i64 0] 24)).alloc (.cells #[.slice none 0 0] 23)) 9 (.string s)
      rw [World.size_alloc, World.size_alloc, World.size_alloc] at this
      exact this.cell
    have hB : Below w.heap.size w W := ((((((Below.refl _ w).alloc (Nat.le_refl _) _).alloc (by simp) _).alloc (by simp; omega) _).alloc (by simp; omega) _)).trans (hbl.mono (by omega))
    have hY' : YieldsF (9 - 1 - 1) l w.heap.size W.heap.size (Pl.seq (Pl.L s)) J Jx := by
      intro pre x W1 hj hp
      have := hY pre x W1 hj hp
      rw [hsz]
      exact yield_any this
    exact fieldsOf1_in (9 - 1) s l w.heap.size _ W (HE.out.below hB hlt0) (by omega) hlt0 (by omega) J Jx hc (fun pre A A' row h1 h2 h3 => hJ pre A A' row h1 h2 (fun r e => by have := h3 r e; omega)) hY' h0
  case hdone =>
    rintro D W hD1 hD2 ⟨fs, v, hp, b0, b1, b2, ho, hb⟩ hK
    simp only [World.size_alloc] at hD1 hD2
    have hlen : fs.length ≤ 9000 := by
      have h2 := Pl.seq_len (Pl.L s)
      rw [hp, Pl.L_length] at h2
      simp at h2; omega
    have hv : ∃ A c, v = .slice A fs.length c := by
      rcases ho.2 with ⟨hv, h0⟩ | ⟨g, cap, cur, hv, _⟩
      · exact ⟨none, 0, by rw [hv, h0]⟩
      · exact ⟨_, _, hv⟩
    obtain ⟨A, c, rfl⟩ := hv
    have hf := FldsAt.of_own ho
    have H : Hid (Pl.split (Pl.L s) = if Pl.tooL fs then (3, []) else (0, fs)) := Lib.hid (by
      unfold Pl.split; rw [Pl.L_length, if_neg (by omega), hp, allS_map])
    have g2 : W.cell? ⟨w.heap.size + 1 + 1, 0, none⟩ = some (.slice A fs.length c) := b2.cell
    have g0 := b0.cell
    have g1 := b1.cell
    have hsW := b2.lt
    have HP := Lib.hid hp
    clear hp
    cases ht : Pl.tooL fs with
    | true =>
      have HT := Lib.hid ht
      have ht' : (decide (64 < fs.length) || fs.any fun f => decide (2000 < f.1.length)) = true := ht
      have HT' := Lib.hid ht'
      clear ht ht'
      gi_wp2_with (refine ⟨trivial, ?_⟩; refine (callsIn_wide.2 (tooLong_any A c fs _ hf (by omega))).mono ?_; rw [HT'.out]; rintro e w2 ⟨rfl, hb2⟩; have g3 := (Below.cell hb2 (p := ⟨w.heap.size, 0, none⟩) (by simp; omega)).trans g0; have g4 := (Below.cell hb2 (p := ⟨w.heap.size + 1, 0, none⟩) (by simp; omega)).trans g1; have z3 := (Below.frozen hb2 (p := ⟨w.heap.size, 0, none⟩) (by simp; omega)).trans b0.frozen; have z4 := (Below.frozen hb2 (p := ⟨w.heap.size + 1, 0, none⟩) (by simp; omega)).trans b1.frozen; have HB2 := Lib.hid hb2; clear hb2)
      obtain ⟨W2, hW2⟩ : ∃ W2, (w2.setCell ⟨w.heap.size, 0, none⟩ (.slice none 0 0)).setCell ⟨w.heap.size + 1, 0, none⟩ (.int .i64 3) = W2 := ⟨_, rfl⟩
      have hKD : W2.heap[D]? = some (.deferred (some [])) := by
        rw [← hW2]
        exact (Below.heap_setCell _ _ _ _ (by simp; omega)).trans ((Below.heap_setCell _ _ _ _ (by simp; omega)).trans ((HB2.out.block D (Array.getElem?_eq_some_iff.1 hK).1).trans hK))
      have c0 : Boxed W2 w.heap.size 23 (.slice none 0 0) := by
        rw [← hW2]
        exact (Below.heap_setCell _ _ _ _ (by simp)).trans (Boxed.set _ ((HB2.out.block _ b0.lt).trans b0))
      have c1 : Boxed W2 (w.heap.size + 1) 24 (.int .i64 3) := by
        rw [← hW2]
        exact Boxed.set _ ((Below.heap_setCell _ _ _ _ (by simp)).trans ((HB2.out.block _ b1.lt).trans b1))
      have hbl : Below w.heap.size w W2 := by
        rw [← hW2]
        exact ((hb.trans (HB2.out.mono hb.size)).setCell (p := ⟨w.heap.size, 0, none⟩) (Nat.le_refl _) _).setCell (p := ⟨w.heap.size + 1, 0, none⟩) (by simp) _
      have hown2 : W2.ownsRow (w.heap.size + 7) 48 2 (.slice A fs.length c) fs.length (cellsF fs) := by
        rw [← hW2]
        exact ownsRow_setCell_below (ownsRow_setCell_below (own_below ho HB2.out) (by first | (simp; done) | (simp; omega)) _) (by first | (simp; done) | (simp; omega)) _
      rw [hW2]
      have k0 : (W2.putObj D (.deferred none)).cell? ⟨w.heap.size, 0, none⟩ = some (.slice none 0 0) := Boxed.cell ((World.putObj_heap_other (by omega)).trans c0)
      have k1 : (W2.putObj D (.deferred none)).cell? ⟨w.heap.size + 1, 0, none⟩ = some (.int .i64 3) := Boxed.cell ((World.putObj_heap_other (by omega)).trans c1)
      have hbf := hbl.grown (grownBy_putObj' W2 D (.deferred none)) hbl.size (fun k e => by cases e; omega)
      have hff := FldsAt.of_own (own_base hown2 (grownBy_putObj' W2 D (.deferred none)) (fun r e => by cases e; omega))
      refine ⟨by simp, .inl ⟨_, _, rfl, run_takeDeferred hKD, ?_⟩⟩
      refine ⟨.tuple #[.slice none 0 0, .int .i64 3], ?_, ?_⟩
      · simp [results, Tryd.f9, go_sem, k0, k1]
      · exact ⟨none, 0, by rw [H.out, HT.out]; rfl, by rw [H.out, HT.out]; exact .inl rfl, hbf⟩
    | false =>
      have HT := Lib.hid ht
      have ht' : (decide (64 < fs.length) || fs.any fun f => decide (2000 < f.1.length)) = false := ht
      have HT' := Lib.hid ht'
      clear ht ht'
      gi_wp2_with (refine ⟨trivial, ?_⟩; refine (callsIn_wide.2 (tooLong_any A c fs _ hf (by omega))).mono ?_; rw [HT'.out]; rintro e w2 ⟨rfl, hb2⟩; have g3 := (Below.cell hb2 (p := ⟨w.heap.size, 0, none⟩) (by simp; omega)).trans g0; have g4 := (Below.cell hb2 (p := ⟨w.heap.size + 1, 0, none⟩) (by simp; omega)).trans g1; have g5 := (Below.cell hb2 (p := ⟨w.heap.size + 1 + 1, 0, none⟩) (by simp; omega)).trans g2; have z3 := (Below.frozen hb2 (p := ⟨w.heap.size, 0, none⟩) (by simp; omega)).trans b0.frozen; have z4 := (Below.frozen hb2 (p := ⟨w.heap.size + 1, 0, none⟩) (by simp; omega)).trans b1.frozen; have HB2 := Lib.hid hb2; clear hb2)
      obtain ⟨W2, hW2⟩ : ∃ W2, (w2.setCell ⟨w.heap.size, 0, none⟩ (.slice A fs.length c)).setCell ⟨w.heap.size + 1, 0, none⟩ (.int .i64 0) = W2 := ⟨_, rfl⟩
      have hKD : W2.heap[D]? = some (.deferred (some [])) := by
        rw [← hW2]
        exact (Below.heap_setCell _ _ _ _ (by simp; omega)).trans ((Below.heap_setCell _ _ _ _ (by simp; omega)).trans ((HB2.out.block D (Array.getElem?_eq_some_iff.1 hK).1).trans hK))
      have c0 : Boxed W2 w.heap.size 23 (.slice A fs.length c) := by
        rw [← hW2]
        exact (Below.heap_setCell _ _ _ _ (by simp)).trans (Boxed.set _ ((HB2.out.block _ b0.lt).trans b0))
      have c1 : Boxed W2 (w.heap.size + 1) 24 (.int .i64 0) := by
        rw [← hW2]
        exact Boxed.set _ ((Below.heap_setCell _ _ _ _ (by simp)).trans ((HB2.out.block _ b1.lt).trans b1))
      have hbl : Below w.heap.size w W2 := by
        rw [← hW2]
        exact ((hb.trans (HB2.out.mono hb.size)).setCell (p := ⟨w.heap.size, 0, none⟩) (Nat.le_refl _) _).setCell (p := ⟨w.heap.size + 1, 0, none⟩) (by simp) _
      have hown2 : W2.ownsRow (w.heap.size + 7) 48 2 (.slice A fs.length c) fs.length (cellsF fs) := by
        rw [← hW2]
        exact ownsRow_setCell_below (ownsRow_setCell_below (own_below ho HB2.out) (by first | (simp; done) | (simp; omega)) _) (by first | (simp; done) | (simp; omega)) _
      rw [hW2]
      have k0 : (W2.putObj D (.deferred none)).cell? ⟨w.heap.size, 0, none⟩ = some (.slice A fs.length c) := Boxed.cell ((World.putObj_heap_other (by omega)).trans c0)
      have k1 : (W2.putObj D (.deferred none)).cell? ⟨w.heap.size + 1, 0, none⟩ = some (.int .i64 0) := Boxed.cell ((World.putObj_heap_other (by omega)).trans c1)
      have hbf := hbl.grown (grownBy_putObj' W2 D (.deferred none)) hbl.size (fun k e => by cases e; omega)
      have hff := FldsAt.of_own (own_base hown2 (grownBy_putObj' W2 D (.deferred none)) (fun r e => by cases e; omega))
      refine ⟨by simp, .inl ⟨_, _, rfl, run_takeDeferred hKD, ?_⟩⟩
      refine ⟨.tuple #[.slice A fs.length c, .int .i64 0], ?_, ?_⟩
      · simp [results, Tryd.f9, go_sem, k0, k1]
      · exact ⟨A, c, by rw [H.out, HT.out]; rfl, by rw [H.out, HT.out]; exact hff, hbf⟩
  case hstop =>
    rintro D c pre W hD1 hD2 hpre ⟨rfl, hn, b0, b1, hb⟩ hK
    simp only [World.size_alloc] at hD1 hD2
    have H : Hid (Pl.split (Pl.L s) = (6, [])) := Lib.hid (by
      unfold Pl.split; rw [Pl.L_length, if_neg (by omega), allS_none hpre hn])
    have hfin : SplitOut (Pl.L s) w (.returned (.tuple #[.slice none 0 0, .int .i64 6])) (W.putObj D (.deferred none)) :=
      ⟨none, 0, by rw [H.out]; rfl, by rw [H.out]; exact .inl rfl, hb.grown (grownBy_putObj' W D _) hb.size (fun k e => by cases e; omega)⟩
    have g0 : (W.putObj D (.deferred none)).cell? ⟨w.heap.size, 0, none⟩ = some (.slice none 0 0) := Boxed.cell ((World.putObj_heap_other (by omega)).trans b0)
    have g1 : (W.putObj D (.deferred none)).cell? ⟨w.heap.size + 1, 0, none⟩ = some (.int .i64 6) := Boxed.cell ((World.putObj_heap_other (by omega)).trans b1)
    gi_wp2
    refine ⟨by simp, .inl ⟨_, _, rfl, run_takeDeferred hK, ?_⟩⟩
    refine ⟨.tuple #[.slice none 0 0, .int .i64 6], ?_, hfin⟩
    simp [results, Tryd.f9, go_sem, g0, g1]

theorem Split_any (s : ByteArray) (w : World) (he : EscAt w) (hs : s.size ≤ 4294967295) : Calls Tryd.prog 9 #[.string s] w (SplitOut (Pl.L s) w) := by
  by_cases h : 8192 < s.size
  · exact Split_long s w h hs
  · exact Split_main s w he (by omega)
end Go.Proofs.YthifbihmogjjpaaDoor
