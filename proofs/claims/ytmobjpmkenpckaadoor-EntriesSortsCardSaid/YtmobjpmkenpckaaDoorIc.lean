/-
  Over: one list of entries over another.
-/
import Derived.Test.YtmobjpmkenpckaaDoorIb
import Derived.Test.YtmobjpmkenpckaaDoorHb
import Derived.Test.YtmobjpmkenpckaaDoorFa
import Derived.RangeFuncBox
import Derived.Maps.OwnIn
namespace Go.Proofs.YtmobjpmkenpckaaDoor.KK
open Go.ChangeShapes Go.WideShapes Go.ChangeAt Go.RowKit Go.Proofs Go.Sort
attribute [local go_sem] Oper.semAt_some

def overE (xs ys : List El.En) : Int × List El.En :=
  if (listE xs).2 ≠ 0 then ((listE xs).2, []) else if (listE ys).2 ≠ 0 then ((listE ys).2, []) else if 5000 < (ovr xs ys).length then (3, []) else (0, ovr xs ys)
theorem layered_any (v u : Value) (w : World) (A : Option Addr) (n c : Nat) (B : Option Addr) (m d : Nat) (hv : v = .slice A n c) (hu : u = .slice B m d) :
    Calls Tryd.prog 33 #[v, u] w fun e w' => e = .returned (.func (.func 48) #[] #[.pointer (some ⟨w.heap.size + 1, 0, none⟩), .pointer (some ⟨w.heap.size, 0, none⟩)]) ∧ w' = (w.alloc (.cells #[v] 22)).alloc (.cells #[u] 22) := by
  subst hv hu
  go_enter Tryd.func33, Tryd.ntmps33
  go_wp2
  go_ret
  exact ⟨rfl, rfl⟩
def OverOut (xs ys : List El.En) (w : World) (e : Ending) (w' : World) : Prop :=
  ∃ A c, e = .returned (.tuple #[.slice A (overE xs ys).2.length c, .int .i64 (overE xs ys).1]) ∧ EsAt w' A (overE xs ys).2 ∧ (overE xs ys).2.length ≤ c ∧ Below w.heap.size w w'
theorem grown_of_below' {A A' : World} (h : Below A.heap.size A A') : A.grownBy A' none := ⟨h.os, h.tape, h.output, h.size, fun k hk _ => h.block k hk⟩
theorem own_base' {w w' : World} {B e size n : Nat} {v : Value} {xs : List Value} {row : Option Nat} (h : w.ownsRow B e size v n xs) (hg : w.grownBy w' row) (hr : ∀ r, row = some r → r < B) : w'.ownsRow B e size v n xs := by
  refine ⟨h.1, ?_⟩
  rcases h.2 with hn | ⟨g, cap, cur, rfl, hg', hgg, rest⟩
  · exact .inl hn
  · exact .inr ⟨g, cap, cur, rfl, hg', by rw [hg.block g (Array.getElem?_eq_some_iff.1 hgg).1 (fun e => by have := hr g e.symm; omega)]; exact hgg, rest⟩
theorem own_cap {w : World} {base e size n : Nat} {v : Value} {xs : List Value} (h : w.ownsRow base e size v n xs) : ∃ A c, v = .slice A n c ∧ n ≤ c := by
  rcases h.2 with ⟨rfl, h1⟩ | ⟨g, cap, cur, hv, _, _, h5, _⟩
  · exact ⟨none, 0, by rw [h1], by omega⟩
  · exact ⟨_, _, hv, h5⟩
theorem yield_any' {n m : Nat} {P : Program} {l : Nat} {args : Array Value} {W : World} {R : Ending → World → Prop} (h : YieldAt Fence.wide n P l args W R) : YieldAt Fence.wide m P l args W R := by
  obtain ⟨fn, tmps, assign, body, hy, hF, hR⟩ := h
  exact ⟨fn, tmps, assign, body, hy, hF, fun c cs _ => hR c cs (room_wide _)⟩
theorem EsAt.blocks {w w' : World} {A : Option Addr} {xs : List El.En} (h : EsAt w A xs) (hs : w.heap.size ≤ w'.heap.size) (hb : ∀ b, b < w.heap.size → w'.heap[b]? = w.heap[b]?) : EsAt w' A xs := by
  rcases h with h | ⟨b, off, hA, hlt, hc⟩
  · exact .inl h
  · refine .inr ⟨b, off, hA, Nat.lt_of_lt_of_le hlt hs, fun i hi => ?_⟩
    have e : ∀ o, w'.cell? ⟨b, o, none⟩ = w.cell? ⟨b, o, none⟩ := fun o => World.cell?_of_block (a := ⟨b, o, none⟩) (hb b hlt)
    rw [e, e, e, e]; exact hc i hi
theorem Boxed.same {W W' : World} {B : Nat} {t : TypeId} {v : Value} (h : Boxed W B t v) (e : W'.heap[B]? = W.heap[B]?) : Boxed W' B t v := e.trans h
/-- Over's own cells between two rounds -/
def OvI (w w2 : World) (pre : List El.En) (W : World) : Prop :=
  ∃ v, Boxed W w.heap.size 22 (.slice none 0 0) ∧ Boxed W (w.heap.size + 1) 25 (.int .i64 0) ∧ Boxed W w2.heap.size 22 v ∧
    W.ownsRow (w2.heap.size + 6) 33 4 v pre.length (cellsE pre) ∧ Below w.heap.size w W ∧ pre.length ≤ 5000
/-- where a round has left -/
def OvX (w : World) (c : Code) (pre : List El.En) (W : World) : Prop :=
  c = .ret ∧ 5000 < pre.length ∧ Boxed W w.heap.size 22 (.slice none 0 0) ∧ Boxed W (w.heap.size + 1) 25 (.int .i64 3) ∧ Below w.heap.size w W
def OvA (w w2 : World) (A : Option Addr) (nx c : Nat) (B : Option Addr) (ny d : Nat) (r1 r2 : Int) (x : El.En) (a' : Act) (W : World) : Prop :=
  ∃ Bx, w2.heap.size + 5 ≤ Bx ∧ W.heap[Bx]? = some (.cells #[.string x.1, .string x.2.1, .bool x.2.2.1, .int .i64 x.2.2.2] 33 (0, 0)) ∧ a' = { tmps := (.slice A nx c :: .slice B ny d :: undef :: undef :: .pointer (some ⟨w.heap.size, 0, none⟩) :: .pointer (some ⟨w.heap.size + 1, 0, none⟩) :: .int .i64 r1 :: .int .i64 0 :: .int .i64 r2 :: .int .i64 0 :: .pointer (some ⟨w2.heap.size, 0, none⟩) :: .pointer (some ⟨Bx, 0, none⟩) :: .tuple #[.int .i64 r1, .int .i64 0] :: .slice A nx c :: .tuple #[.int .i64 r1, .int .i64 0] :: .int .i64 r1 :: .int .i64 0 :: .int .i64 0 :: .bool false :: undef :: .tuple #[.int .i64 r2, .int .i64 0] :: .slice B ny d :: .tuple #[.int .i64 r2, .int .i64 0] :: .int .i64 r2 :: .int .i64 0 :: .int .i64 0 :: .bool false :: undef :: .slice A nx c :: .slice B ny d :: .func (.func 48) #[] #[.pointer (some ⟨w2.heap.size + 1 + 1, 0, none⟩), .pointer (some ⟨w2.heap.size + 1, 0, none⟩)] :: .agg #[.string x.1, .string x.2.1, .bool x.2.2.1, .int .i64 x.2.2.2] :: undef :: undef :: undef :: undef :: undef :: undef :: undef :: undef :: []).toArray, defers := [] }
theorem OvI.kept {w w2 A A' : World} {pre : List El.En} {row : Option Nat} (h : OvI w w2 pre A) (hw : w.heap.size + 2 ≤ w2.heap.size) (hg : A.grownBy A' row) (hr : ∀ r, row = some r → w2.heap.size + 3 ≤ r ∧ r ≤ w2.heap.size + 5) : OvI w w2 pre A' := by
  obtain ⟨v, b0, b1, b2, ho, hb, hl⟩ := h
  have ne : ∀ k, k < w2.heap.size + 3 → some k ≠ row := fun k hk e => by have := hr k e.symm; omega
  exact ⟨v, b0.kept hg (ne _ (by omega)), b1.kept hg (ne _ (by omega)), b2.kept hg (ne _ (by omega)), own_base' ho hg (fun r e => by have := hr r e; omega),
    hb.grown hg hb.size (fun k e => by have := hr k e; omega), hl⟩
theorem OvX.kept {w w2 A A' : World} {c : Code} {pre : List El.En} {row : Option Nat} (h : OvX w c pre A) (hw : w.heap.size + 2 ≤ w2.heap.size) (hg : A.grownBy A' row) (hr : ∀ r, row = some r → w2.heap.size + 3 ≤ r ∧ r ≤ w2.heap.size + 5) : OvX w c pre A' := by
  obtain ⟨hc, hp, b0, b1, hb⟩ := h
  have ne : ∀ k, k < w2.heap.size + 3 → some k ≠ row := fun k hk e => by have := hr k e.symm; omega
  exact ⟨hc, hp, b0.kept hg (ne _ (by omega)), b1.kept hg (ne _ (by omega)), hb.grown hg hb.size (fun k e => by have := hr k e; omega)⟩
theorem OvI.ovR {w w2 W : World} {pre : List El.En} (h : OvI w w2 pre W) (hs : w2.heap.size + 5 ≤ W.heap.size) : OvR w2.heap.size W := by
  obtain ⟨v, b0, b1, b2, ho, hb, hl⟩ := h
  refine ⟨hs, fun u hu r hr => ?_⟩
  have := b2.cell
  rw [this] at hu
  injection hu with hu
  subst hu
  exact ho.lt r hr
theorem OvK.grown {P : Nat} {A A' : World} {row : Option Nat} (hg : A.grownBy A' row) (hP : P < A.heap.size) (hr : ∀ r, row = some r → r = P + 3 ∨ r = P + 4) : OvK P A A' :=
  ⟨hg.size, fun k h1 h2 h3 h4 h5 => ⟨hg.block k h1 (fun e => by rcases hr k e.symm with h | h <;> omega), h5.same (hg.block P hP (fun e => by rcases hr P e.symm with h | h <;> omega))⟩⟩
/-- a round that goes on: the row grew, and the cell that holds the list was set -/
theorem OvK.round {P B : Nat} {W w1 : World} {v v' : Value} (hP : P < W.heap.size) (hc : W.cell? ⟨P, 0, none⟩ = some v) (hg : W.grownBy w1 v.ownBlock) (hB : P < B) (hv : v'.ownBlock = v.ownBlock ∨ ∀ r, v'.ownBlock = some r → W.heap.size ≤ r)
    (hset : (w1.setCell ⟨P, 0, none⟩ v').cell? ⟨P, 0, none⟩ = some v') : OvK P W (w1.setCell ⟨P, 0, none⟩ v') := by
  refine ⟨by have := hg.size; simpa [World.setCell] using this, fun k h1 h2 h3 h4 h5 => ⟨?_, fun u hu e => ?_⟩⟩
  · exact (Below.heap_setCell _ _ _ _ h2).trans (hg.block k h1 (fun e => h5 v hc e.symm))
  · rw [hset] at hu
    injection hu with hu
    subst hu
    rcases hv with hv | hv
    · exact h5 v hc (by rw [← hv]; exact e)
    · have := hv k e; omega
set_option maxRecDepth 100000 in
set_option maxHeartbeats 4000000 in
theorem over_main (A : Option Addr) (c : Nat) (xs : List El.En) (B : Option Addr) (d : Nat) (ys : List El.En) (w : World) (hf : EsAt w A xs) (hg : EsAt w B ys) (hn : xs.length ≤ 4294967295) (hm : ys.length ≤ 4294967295) (hs : Sized xs) (ht : Sized ys) (hc : xs.length ≤ c) (h1 : (listE xs).2 = 0) (h2 : (listE ys).2 = 0) :
    Calls Tryd.prog 13 #[.slice A xs.length c, .slice B ys.length d] w (OverOut xs ys w) := by
  obtain ⟨x5, xc, xk⟩ := list_ok h1
  obtain ⟨y5, yc, yk⟩ := list_ok h2
  have J1 := Lib.hid (fun w1 (h : Below w.heap.size w w1) => by have K := eList_any A c xs w1 (hf.below h (Nat.le_refl _)) hn hs; rw [h1] at K; exact K)
  have J2 := Lib.hid (fun w1 (h : Below w.heap.size w w1) => by have K := eList_any B d ys w1 (hg.below h (Nat.le_refl _)) hm ht; rw [h2] at K; exact K)
  have HO : Hid (overE xs ys = if 5000 < (ovr xs ys).length then (3, []) else (0, ovr xs ys)) := Lib.hid (by unfold overE; rw [if_neg (by rw [h1]; simp), if_neg (by rw [h2]; simp)])
  have HF := Lib.hid hf
  have HG := Lib.hid hg
  have HXC := Lib.hid xc
  have HYC := Lib.hid yc
  have HXK := Lib.hid xk
  have HYK := Lib.hid yk
  clear hf hg hs ht h1 h2 xc yc xk yk
  generalize (listE xs).1 = r1 at *
  generalize (listE ys).1 = r2 at *
  obtain ⟨nx, hnx⟩ : ∃ nx, xs.length = nx := ⟨_, rfl⟩
  obtain ⟨ny, hny⟩ : ∃ ny, ys.length = ny := ⟨_, rfl⟩
  rw [hnx] at J1 x5 hc hn ⊢
  rw [hny] at J2 y5 hm ⊢
  have HNX := Lib.hid hnx
  have HNY := Lib.hid hny
  clear hnx hny
  refine (callsIn_wide (n := 9)).1 ?_
  refine callsIn_of_wp_marks Tryd.func13 rfl trivial ?_
  simp only [Tryd.ntmps13, List.size_toArray, List.length_cons, List.length_nil, Nat.reduceAdd, Nat.reduceSub, Array.replicate_succ, Array.replicate_zero, List.push_toArray, List.append_toArray, List.nil_append, List.cons_append]
  gi_wp2_with fail
  refine ⟨trivial, ?_⟩
  refine (callsIn_wide.2 (J1.out _ (((Below.refl _ w).alloc (Nat.le_refl _) _).alloc (by simp) _))).mono ?_
  rintro e w1 ⟨rfl, hb⟩
  have q0 : Boxed w1 w.heap.size 22 (.slice none 0 0) := ((hb.block _ (by simp; omega)).trans (((Boxed.new w 22 (.slice none 0 0)).alloc _)))
  have q1 : Boxed w1 (w.heap.size + 1) 25 (.int .i64 0) := by
    have := Boxed.new (w.alloc (.cells #[.slice none 0 0] 22)) 25 (.int .i64 0)
    rw [World.size_alloc] at this
    exact (hb.block _ (by simp)).trans this
  have HB := Lib.hid ((((Below.refl _ w).alloc (Nat.le_refl _) (.cells #[.slice none 0 0] 22)).alloc (by simp) (.cells #[.int .i64 0] 25)).trans (hb.mono (by simp; omega)))
  clear hb J1
  have HQ0 := Lib.hid q0
  have HQ1 := Lib.hid q1
  clear q0 q1
  gi_wp2_with fail
  refine ⟨trivial, ?_⟩
  refine (callsIn_wide.2 (J2.out _ HB.out)).mono ?_
  rintro e w2 ⟨rfl, hb⟩
  have q0 : Boxed w2 w.heap.size 22 (.slice none 0 0) := (hb.block _ HQ0.out.lt).trans HQ0.out
  have q1 : Boxed w2 (w.heap.size + 1) 25 (.int .i64 0) := (hb.block _ HQ1.out.lt).trans HQ1.out
  have HB := Lib.hid (eb_of HB.out hb (by first | exact Nat.le_refl _ | exact HB.out.size))
  clear hb J2 HQ0 HQ1
  have HQ0 := Lib.hid q0
  have HQ1 := Lib.hid q1
  clear q0 q1
  gi_wp2_with fail
  refine ⟨trivial, ?_⟩
  refine (callsIn_wide.2 (layered_any _ _ _ A nx c B ny d rfl rfl)).mono ?_
  rintro e w3 ⟨rfl, rfl⟩
  gi_wp2_with fail
  have hw2 : w.heap.size + 2 ≤ w2.heap.size := HQ1.out.lt
  refine range_ownR (n := 9) (ps := #[31]) (gf := 48) (lb := #[.pointer (some ⟨w2.heap.size + 1 + 1, 0, none⟩), .pointer (some ⟨w2.heap.size + 1, 0, none⟩)]) ?hg (enters_of Tryd.func48 (by kernel_rfl) rfl)
    (encs := encE1) ?hps (ovr xs ys) (OvK w2.heap.size) (OvI w w2) (OvX w) (OvR w2.heap.size) ?hIR
    ?hI ?hIx (fun a b => a.trans b) ?hKb ?hKn ?h0 ?hseq (OvA w w2 A nx c B ny d r1 r2) ?hAx ?hassign ?hbody ?hdone ?hstop
  case hg => rfl
  case hps => intro x; rfl
  case hIR =>
    intro pre W hi hs
    simp only [World.size_alloc] at hs
    exact hi.ovR (by omega)
  case hI =>
    intro pre A A' row h hg hr
    exact h.kept hw2 hg (fun r e => by have := hr r e; simp only [World.size_alloc] at this; omega)
  case hIx =>
    intro c pre A A' row h hg hr
    exact h.kept hw2 hg (fun r e => by have := hr r e; simp only [World.size_alloc] at this; omega)
  case hKb =>
    intro A A' hg hsz
    simp only [World.size_alloc] at hg hsz
    exact OvK.grown hg (by omega) (fun r e => by cases e; omega)
  case hKn =>
    intro A A' hg hsz
    simp only [World.size_alloc] at hsz
    exact OvK.grown hg (by omega) (fun r e => by cases e)
  case h0 =>
    refine ⟨.slice none 0 0, ?_, ?_, ?_, World.ownsRow_nil _ _ _ _, ((((HB.out).alloc (by omega) _).alloc (by simp; omega) _).alloc (by simp; omega) _), Nat.zero_le _⟩
    · exact ((HQ0.out.alloc _).alloc _).alloc _
    · exact ((HQ1.out.alloc _).alloc _).alloc _
    · exact ((Boxed.new w2 _ _).alloc _).alloc _
  case hAx =>
    rintro x a' A A' ⟨Bx, hBx, hbx, ha⟩ hg
    simp only [World.size_alloc] at hg
    exact ⟨Bx, hBx, (hg.block _ (Array.getElem?_eq_some_iff.1 hbx).1 (by simp; omega)).trans hbx, ha⟩
  case hassign =>
    intro l pre x W K hi hsz hK
    simp only [World.size_alloc] at hsz
    obtain ⟨xk, xv, xd, xq⟩ := x
    simp only [encE1]
    gi_wp2
    exact hK _ _ (World.grownBy_alloc W _ none) ⟨W.heap.size, hsz, World.alloc_heap_new W _, rfl⟩
  case hbody =>
    rintro l pre x a' W hpre ⟨v, b0, b1, b2, ho, hb, hl⟩ hsz ⟨Bx, hBx, hbx, rfl⟩
    obtain ⟨xk, xv, xd, xq⟩ := x
    simp only [World.size_alloc] at hsz
    have f0 := cell_of_row W Bx 0 _ _ _ hbx
    have f1 := cell_of_row W Bx 1 _ _ _ hbx
    have f2 := cell_of_row W Bx 2 _ _ _ hbx
    have f3 := cell_of_row W Bx 3 _ _ _ hbx
    simp at f0 f1 f2 f3
    obtain ⟨v1, v2, rfl⟩ := own_slice ho
    have g2 : W.cell? ⟨w2.heap.size, 0, none⟩ = some (.slice v1 pre.length v2) := b2.cell
    have z2 : W.frozen? ⟨w2.heap.size, 0, none⟩ = false := b2.frozen
    by_cases h5 : pre.length = 5000
    · have d1 : ((pre.length : Int) == 5000) = true := by rw [beq_iff_eq]; omega
      have g0 := b0.cell
      have g1 := b1.cell
      have z0 := b0.frozen
      have z1 := b1.frozen
      have hfin : Two (w2.heap.size + 1 + 1 + 1) W ((W.setCell ⟨w.heap.size, 0, none⟩ (.slice none 0 0)).setCell ⟨w.heap.size + 1, 0, none⟩ (.int .i64 3)) ∧ OvX w .ret (pre ++ [(xk, xv, xd, xq)]) ((W.setCell ⟨w.heap.size, 0, none⟩ (.slice none 0 0)).setCell ⟨w.heap.size + 1, 0, none⟩ (.int .i64 3)) := by
        refine ⟨⟨by simp [World.setCell], ?_, ?_⟩, rfl, by rw [List.length_append, h5]; simp, ?_, ?_, ?_⟩
        · rw [Below.heap_setCell _ _ _ _ (by simp; omega), Below.heap_setCell _ _ _ _ (by simp; omega)]
        · rw [Below.heap_setCell _ _ _ _ (by simp; omega), Below.heap_setCell _ _ _ _ (by simp; omega)]
        · exact (Below.heap_setCell _ _ _ _ (by simp)).trans (b0.set _)
        · exact Boxed.set _ ((Below.heap_setCell _ _ _ _ (by simp)).trans b1)
        · exact (hb.setCell (p := ⟨w.heap.size, 0, none⟩) (Nat.le_refl _) _).setCell (p := ⟨w.heap.size + 1, 0, none⟩) (by simp) _
      have HF := Lib.hid hfin
      clear hfin h5
      gi_wp2
      simp only [roundEnd, World.size_alloc]
      exact HF.out
    · have d1 : ((pre.length : Int) == 5000) = false := by rw [beq_eq_false_iff_ne]; omega
      obtain ⟨i0, hi, hz0, hz1, hz2⟩ := info_parts infoE
      have hl4 : pre.length + 1 ≤ 5000 := by omega
      clear h5
      gi_wp2_with (gi_at_builtin; refine wpListIn_append_own_at _ rfl (.tmp 35) (.tmp 37) 22 rfl (w2.heap.size + 6) 33 i0 (.agg #[.string ⟨#[]⟩, .string ⟨#[]⟩, .bool false, .int .i64 0]) 4 48 Tryd.underlying22 hi hz0 hz1 hz2 rfl (by decide) _ pre.length (cellsE pre) rfl (ho.alloc _) ⟨W.heap.size, 0, none⟩ 1 1 [.string xk, .string xv, .bool xd, .int .i64 xq] rfl rfl (new4 W (xk, xv, xd, xq)) (by simp [Value.oneCell']) (by unfold maxLen; omega) (by omega) (by simp; omega) ?_; intro v' w1 hown' hgrow _ hat; obtain ⟨g9, cap9, rfl⟩ := ownsRow_succ hown'; have HO := Lib.hid hown'; have HG := Lib.hid hgrow; have HAT := Lib.hid hat; clear hown' hgrow hat; have hne : some w2.heap.size ≠ (Value.slice v1 pre.length v2).ownBlock := (fun e => by have := (ho.lt _ e.symm).1; omega); have b2' : Boxed w1 w2.heap.size 22 (.slice v1 pre.length v2) := (b2.alloc _).kept HG.out hne; have g2 : w1.cell? ⟨w2.heap.size, 0, none⟩ = some (.slice v1 pre.length v2) := b2'.cell; have z2 : w1.frozen? ⟨w2.heap.size, 0, none⟩ = false := b2'.frozen)
      simp only [roundEnd, World.size_alloc]
      have hgr : W.grownBy w1 (Value.slice v1 pre.length v2).ownBlock := (World.grownBy_alloc W (.cells #[.string xk, .string xv, .bool xd, .int .i64 xq] 33) _).trans HG.out
      have hrow : ∀ r, (Value.slice v1 pre.length v2).ownBlock = some r → w2.heap.size + 6 ≤ r := fun r e => (ho.lt r e).1
      have hat := HAT.out
      obtain ⟨u, hu⟩ : ∃ u, Value.slice (some ⟨g9, 0, none⟩) (pre.length + 1) cap9 = u := ⟨_, rfl⟩
      have hown := HO.out
      rw [hu] at hown hat ⊢
      have keep : ∀ k, k < w2.heap.size + 6 → k < W.heap.size → k ≠ w2.heap.size → (w1.setCell ⟨w2.heap.size, 0, none⟩ u).heap[k]? = W.heap[k]? := fun k h1 h2 h3 =>
        (Below.heap_setCell _ _ _ _ h3).trans (hgr.block k h2 (fun e => by have := hrow k e.symm; omega))
      have hsz1 := hgr.size
      have h2 : Boxed w1 w2.heap.size 22 (.slice v1 pre.length v2) := (hgr.block _ (by omega) (fun e => by have := hrow _ e.symm; omega)).trans b2
      have hB1 : Below w.heap.size W w1 := (Below.refl _ _).grown hgr (by omega) (fun k e => by have := hrow k e; omega)
      have hB3 : Below w.heap.size W (w1.setCell ⟨w2.heap.size, 0, none⟩ u) := hB1.setCell (p := ⟨w2.heap.size, 0, none⟩) (by show w.heap.size ≤ w2.heap.size; omega) _
      have hK : OvK w2.heap.size W (w1.setCell ⟨w2.heap.size, 0, none⟩ u) := OvK.round (B := w2.heap.size + 6) (by omega) b2.cell hgr (by omega) (by
        rcases hat with h | h
        · exact .inl h
        · exact .inr (fun r e => by rw [h] at e; injection e with e; rw [World.size_alloc] at e; omega)) (Boxed.set u h2).cell
      refine ⟨⟨by simp only [World.setCell, Array.size_modify]; omega, keep _ (by omega) (by omega) (by omega), keep _ (by omega) (by omega) (by omega)⟩, hK, u, ?_, ?_, ?_, ?_, hb.trans hB3, by rw [List.length_append]; simpa using hl4⟩
      · exact (keep _ (by omega) (by omega) (by omega)).trans b0
      · exact (keep _ (by omega) (by omega) (by omega)).trans b1
      · exact h2.set u
      · have := ownsRow_setCell_below hown (a := ⟨w2.heap.size, 0, none⟩) (by first | (simp; done) | (simp; omega)) u
        rw [List.length_append]
        exact own_snoc (x := (xk, xv, xd, xq)) this
  case hseq =>
    intro l J Jx W hsz hbl hJ hJR hY h0
    simp only [World.size_alloc] at hsz hbl hJ
    have hR := hJR _ _ h0
    have hB : Below w2.heap.size w2 W := (((((Below.refl _ w2).alloc (Nat.le_refl _) _).alloc (by simp) _).alloc (by simp; omega) _)).trans (hbl.mono (by omega))
    have e1 : Boxed W (w2.heap.size + 1) 22 (.slice A nx c) := by
      have := Boxed.new (w2.alloc (.cells #[.slice none 0 0] 22)) 22 (.slice A nx c)
      rw [World.size_alloc] at this
      exact (hbl.block _ (by omega)).trans (this.alloc _)
    have e2 : Boxed W (w2.heap.size + 1 + 1) 22 (.slice B ny d) := by
      have := Boxed.new ((w2.alloc (.cells #[.slice none 0 0] 22)).alloc (.cells #[.slice A nx c] 22)) 22 (.slice B ny d)
      rw [World.size_alloc, World.size_alloc] at this
      exact (hbl.block _ (by omega)).trans this
    have blk : ∀ W', OvK w2.heap.size W W' → ∀ b, b < w.heap.size → W'.heap[b]? = w.heap[b]? := fun W' hk b hb =>
      ((hk.2 b (by omega) (by omega) (by omega) (by omega) (hR.low (by omega))).1.trans (hB.block b (by omega))).trans (HB.out.block b hb)
    have hw : W.heap.size = w2.heap.size + 5 := by omega
    have hl1 := HNX.out
    have hl2 := HNY.out
    refine layered1_in (9 - 1) w2.heap.size (w2.heap.size + 1 + 1) (w2.heap.size + 1) xs ys A B c d l W hw HXC.out HYC.out (by omega) (by omega) (by omega) ?_ ?_ ?_ ?_ J Jx (fun pre A A' h hb => hJ pre A A' none h (grown_of_below' hb) (fun r e => by cases e)) hJR (fun pre x W1 hj hp => yield_any' (hY pre x W1 hj hp)) h0
    · intro W' hk
      rw [hl1]
      exact Boxed.cell ((hk.2 _ (by omega) (by omega) (by omega) (by omega) (hR.low (by omega))).1.trans e1)
    · intro W' hk
      rw [hl2]
      exact Boxed.cell ((hk.2 _ (by omega) (by omega) (by omega) (by omega) (hR.low (by omega))).1.trans e2)
    · exact fun W' hk => HF.out.blocks (by have := hk.1; omega) (blk W' hk)
    · exact fun W' hk => HG.out.blocks (by have := hk.1; omega) (blk W' hk)
  case hdone =>
    rintro D W hD1 hD2 ⟨v, b0, b1, b2, ho, hb, hl⟩ hK
    simp only [World.size_alloc] at hD1 hD2
    obtain ⟨v1, v2, rfl, hcap⟩ := own_cap ho
    have H : Hid (overE xs ys = (0, ovr xs ys)) := Lib.hid (by rw [HO.out, if_neg (by omega)])
    have g2 : W.cell? ⟨w2.heap.size, 0, none⟩ = some (.slice v1 (ovr xs ys).length v2) := b2.cell
    have g0 := b0.cell
    have g1 := b1.cell
    have z0 := b0.frozen
    have z1 := b1.frozen
    clear HO
    generalize hS : ovr xs ys = S at *
    gi_wp2
    obtain ⟨W2, hW2⟩ : ∃ W2, (W.setCell ⟨w.heap.size, 0, none⟩ (.slice v1 S.length v2)).setCell ⟨w.heap.size + 1, 0, none⟩ (.int .i64 0) = W2 := ⟨_, rfl⟩
    have hKD : W2.heap[D]? = some (.deferred (some [])) := by
      rw [← hW2]
      exact (Below.heap_setCell _ _ _ _ (by simp; omega)).trans ((Below.heap_setCell _ _ _ _ (by simp; omega)).trans hK)
    have c0 : Boxed W2 w.heap.size 22 (.slice v1 S.length v2) := by
      rw [← hW2]
      exact (Below.heap_setCell _ _ _ _ (by simp)).trans (Boxed.set _ b0)
    have c1 : Boxed W2 (w.heap.size + 1) 25 (.int .i64 0) := by
      rw [← hW2]
      exact Boxed.set _ ((Below.heap_setCell _ _ _ _ (by simp)).trans b1)
    have hbl : Below w.heap.size w W2 := by
      rw [← hW2]
      exact (hb.setCell (p := ⟨w.heap.size, 0, none⟩) (Nat.le_refl _) _).setCell (p := ⟨w.heap.size + 1, 0, none⟩) (by simp) _
    have hown2 : W2.ownsRow (w2.heap.size + 6) 33 4 (.slice v1 S.length v2) S.length (cellsE S) := by
      rw [← hW2]
      exact ownsRow_setCell_below (ownsRow_setCell_below ho (by first | (simp; done) | (simp; omega)) _) (by first | (simp; done) | (simp; omega)) _
    rw [hW2]
    have k0 : (W2.putObj D (.deferred none)).cell? ⟨w.heap.size, 0, none⟩ = some (.slice v1 S.length v2) := Boxed.cell ((World.putObj_heap_other (by omega)).trans c0)
    have k1 : (W2.putObj D (.deferred none)).cell? ⟨w.heap.size + 1, 0, none⟩ = some (.int .i64 0) := Boxed.cell ((World.putObj_heap_other (by omega)).trans c1)
    have hbf := hbl.grown (grownBy_putObj' W2 D (.deferred none)) hbl.size (fun k e => by cases e; omega)
    have hff := EsAt.of_own (own_base' hown2 (grownBy_putObj' W2 D (.deferred none)) (fun r e => by cases e; omega))
    refine ⟨by simp, .inl ⟨_, _, rfl, run_takeDeferred hKD, ?_⟩⟩
    refine ⟨.tuple #[.slice v1 S.length v2, .int .i64 0], ?_, ?_⟩
    · simp [results, Tryd.f13, go_sem, k0, k1]
    · exact ⟨v1, v2, by rw [H.out], by rw [H.out]; exact hff, by rw [H.out]; exact hcap, hbf⟩
  case hstop =>
    rintro D c' pre W hD1 hD2 hpre ⟨rfl, hn5, b0, b1, hb⟩ hK
    simp only [World.size_alloc] at hD1 hD2
    have H : Hid (overE xs ys = (3, [])) := Lib.hid (by rw [HO.out, if_pos (by have := hpre.length_le; omega)])
    have hfin : OverOut xs ys w (.returned (.tuple #[.slice none 0 0, .int .i64 3])) (W.putObj D (.deferred none)) :=
      ⟨none, 0, by rw [H.out]; rfl, by rw [H.out]; exact .inl rfl, by rw [H.out]; exact Nat.le_refl _, hb.grown (grownBy_putObj' W D _) hb.size (fun k e => by cases e; omega)⟩
    have g0 : (W.putObj D (.deferred none)).cell? ⟨w.heap.size, 0, none⟩ = some (.slice none 0 0) := Boxed.cell ((World.putObj_heap_other (by omega)).trans b0)
    have g1 : (W.putObj D (.deferred none)).cell? ⟨w.heap.size + 1, 0, none⟩ = some (.int .i64 3) := Boxed.cell ((World.putObj_heap_other (by omega)).trans b1)
    gi_wp2
    refine ⟨by simp, .inl ⟨_, _, rfl, run_takeDeferred hK, ?_⟩⟩
    refine ⟨.tuple #[.slice none 0 0, .int .i64 3], ?_, hfin⟩
    simp [results, Tryd.f13, go_sem, g0, g1]
set_option maxRecDepth 100000 in
set_option maxHeartbeats 1000000 in
theorem over_bad (A : Option Addr) (c : Nat) (xs : List El.En) (B : Option Addr) (d : Nat) (ys : List El.En) (w : World) (hf : EsAt w A xs) (hg : EsAt w B ys) (hn : xs.length ≤ 4294967295) (hm : ys.length ≤ 4294967295) (hs : Sized xs) (ht : Sized ys) (h1 : (listE xs).2 ≠ 0) :
    Calls Tryd.prog 13 #[.slice A xs.length c, .slice B ys.length d] w (OverOut xs ys w) := by
  have J1 := Lib.hid (fun w1 (h : Below w.heap.size w w1) => eList_any A c xs w1 (hf.below h (Nat.le_refl _)) hn hs)
  have HO : Hid (overE xs ys = ((listE xs).2, [])) := Lib.hid (by unfold overE; rw [if_pos h1])
  obtain ⟨n1, n2⟩ := ne_b h1
  clear hf hg hs ht h1
  generalize (listE xs).1 = r1 at *
  generalize (listE xs).2 = r2 at *
  go_enter Tryd.func13, Tryd.ntmps13
  go_wp2_with fail
  refine (J1.out _ (((Below.refl _ w).alloc (Nat.le_refl _) _).alloc (by simp) _)).mono ?_
  rintro e w1 ⟨rfl, hb⟩
  have q0 : Boxed w1 w.heap.size 22 (.slice none 0 0) := ((hb.block _ (by simp; omega)).trans (((Boxed.new w 22 (.slice none 0 0)).alloc _)))
  have q1 : Boxed w1 (w.heap.size + 1) 25 (.int .i64 0) := by
    have := Boxed.new (w.alloc (.cells #[.slice none 0 0] 22)) 25 (.int .i64 0)
    rw [World.size_alloc] at this
    exact (hb.block _ (by simp)).trans this
  have HB := Lib.hid ((((Below.refl _ w).alloc (Nat.le_refl _) (.cells #[.slice none 0 0] 22)).alloc (by simp) (.cells #[.int .i64 0] 25)).trans (hb.mono (by simp; omega)))
  have g0 := q0.cell
  have g1 := q1.cell
  have z0 := q0.frozen
  have z1 := q1.frozen
  have HQ0 := Lib.hid q0
  have HQ1 := Lib.hid q1
  clear hb J1 q0 q1
  go_wp2_with fail
  have k0 : ((w1.setCell ⟨w.heap.size, 0, none⟩ (.slice none 0 0)).setCell ⟨w.heap.size + 1, 0, none⟩ (.int .i64 r2)).cell? ⟨w.heap.size, 0, none⟩ = some (.slice none 0 0) := Boxed.cell ((Below.heap_setCell _ _ _ _ (by simp)).trans (Boxed.set _ HQ0.out))
  have k1 : ((w1.setCell ⟨w.heap.size, 0, none⟩ (.slice none 0 0)).setCell ⟨w.heap.size + 1, 0, none⟩ (.int .i64 r2)).cell? ⟨w.heap.size + 1, 0, none⟩ = some (.int .i64 r2) := Boxed.cell (Boxed.set _ ((Below.heap_setCell _ _ _ _ (by simp)).trans HQ1.out))
  refine bodyPost_ret (v := .tuple #[.slice none 0 0, .int .i64 r2]) (by simp [results, Tryd.f13, go_sem, k0, k1]) rfl ?_
  exact ⟨none, 0, by rw [HO.out]; rfl, by rw [HO.out]; exact .inl rfl, by rw [HO.out]; exact Nat.le_refl _, (HB.out.setCell (p := ⟨w.heap.size, 0, none⟩) (Nat.le_refl _) _).setCell (p := ⟨w.heap.size + 1, 0, none⟩) (by simp) _⟩
set_option maxRecDepth 100000 in
set_option maxHeartbeats 1000000 in
theorem over_bad2 (A : Option Addr) (c : Nat) (xs : List El.En) (B : Option Addr) (d : Nat) (ys : List El.En) (w : World) (hf : EsAt w A xs) (hg : EsAt w B ys) (hn : xs.length ≤ 4294967295) (hm : ys.length ≤ 4294967295) (hs : Sized xs) (ht : Sized ys) (h1 : (listE xs).2 = 0) (h2 : (listE ys).2 ≠ 0) :
    Calls Tryd.prog 13 #[.slice A xs.length c, .slice B ys.length d] w (OverOut xs ys w) := by
  have J1 := Lib.hid (fun w1 (h : Below w.heap.size w w1) => by have K := eList_any A c xs w1 (hf.below h (Nat.le_refl _)) hn hs; rw [h1] at K; exact K)
  have J2 := Lib.hid (fun w1 (h : Below w.heap.size w w1) => eList_any B d ys w1 (hg.below h (Nat.le_refl _)) hm ht)
  have HO : Hid (overE xs ys = ((listE ys).2, [])) := Lib.hid (by unfold overE; rw [if_neg (by rw [h1]; simp), if_pos h2])
  obtain ⟨n1, n2⟩ := ne_b h2
  clear hf hg hs ht h1 h2
  generalize (listE xs).1 = r1 at *
  generalize (listE ys).1 = r3 at *
  generalize (listE ys).2 = r2 at *
  go_enter Tryd.func13, Tryd.ntmps13
  go_wp2_with fail
  refine (J1.out _ (((Below.refl _ w).alloc (Nat.le_refl _) _).alloc (by simp) _)).mono ?_
  rintro e w1 ⟨rfl, hb⟩
  have q0 : Boxed w1 w.heap.size 22 (.slice none 0 0) := ((hb.block _ (by simp; omega)).trans (((Boxed.new w 22 (.slice none 0 0)).alloc _)))
  have q1 : Boxed w1 (w.heap.size + 1) 25 (.int .i64 0) := by
    have := Boxed.new (w.alloc (.cells #[.slice none 0 0] 22)) 25 (.int .i64 0)
    rw [World.size_alloc] at this
    exact (hb.block _ (by simp)).trans this
  have HB := Lib.hid ((((Below.refl _ w).alloc (Nat.le_refl _) (.cells #[.slice none 0 0] 22)).alloc (by simp) (.cells #[.int .i64 0] 25)).trans (hb.mono (by simp; omega)))
  clear hb J1
  have HQ0 := Lib.hid q0
  have HQ1 := Lib.hid q1
  clear q0 q1
  go_wp2_with fail
  refine (J2.out _ HB.out).mono ?_
  rintro e w2 ⟨rfl, hb⟩
  have q0 : Boxed w2 w.heap.size 22 (.slice none 0 0) := (hb.block _ HQ0.out.lt).trans HQ0.out
  have q1 : Boxed w2 (w.heap.size + 1) 25 (.int .i64 0) := (hb.block _ HQ1.out.lt).trans HQ1.out
  have HB := Lib.hid (eb_of HB.out hb (by first | exact Nat.le_refl _ | exact HB.out.size))
  clear hb J2 HQ0 HQ1
  have g0 := q0.cell
  have g1 := q1.cell
  have z0 := q0.frozen
  have z1 := q1.frozen
  have HQ0 := Lib.hid q0
  have HQ1 := Lib.hid q1
  clear q0 q1
  go_wp2_with fail
  have k0 : ((w2.setCell ⟨w.heap.size, 0, none⟩ (.slice none 0 0)).setCell ⟨w.heap.size + 1, 0, none⟩ (.int .i64 r2)).cell? ⟨w.heap.size, 0, none⟩ = some (.slice none 0 0) := Boxed.cell ((Below.heap_setCell _ _ _ _ (by simp)).trans (Boxed.set _ HQ0.out))
  have k1 : ((w2.setCell ⟨w.heap.size, 0, none⟩ (.slice none 0 0)).setCell ⟨w.heap.size + 1, 0, none⟩ (.int .i64 r2)).cell? ⟨w.heap.size + 1, 0, none⟩ = some (.int .i64 r2) := Boxed.cell (Boxed.set _ ((Below.heap_setCell _ _ _ _ (by simp)).trans HQ1.out))
  refine bodyPost_ret (v := .tuple #[.slice none 0 0, .int .i64 r2]) (by simp [results, Tryd.f13, go_sem, k0, k1]) rfl ?_
  exact ⟨none, 0, by rw [HO.out]; rfl, by rw [HO.out]; exact .inl rfl, by rw [HO.out]; exact Nat.le_refl _, (HB.out.setCell (p := ⟨w.heap.size, 0, none⟩) (Nat.le_refl _) _).setCell (p := ⟨w.heap.size + 1, 0, none⟩) (by simp) _⟩
theorem over_any (A : Option Addr) (c : Nat) (xs : List El.En) (B : Option Addr) (d : Nat) (ys : List El.En) (w : World) (hf : EsAt w A xs) (hg : EsAt w B ys) (hn : xs.length ≤ 4294967295) (hm : ys.length ≤ 4294967295) (hs : Sized xs) (ht : Sized ys) (hc : xs.length ≤ c) :
    Calls Tryd.prog 13 #[.slice A xs.length c, .slice B ys.length d] w (OverOut xs ys w) := by
  by_cases h1 : (listE xs).2 = 0
  · by_cases h2 : (listE ys).2 = 0
    · exact over_main A c xs B d ys w hf hg hn hm hs ht hc h1 h2
    · exact over_bad2 A c xs B d ys w hf hg hn hm hs ht h1 h2
  · exact over_bad A c xs B d ys w hf hg hn hm hs ht h1
end Go.Proofs.YtmobjpmkenpckaaDoor.KK
