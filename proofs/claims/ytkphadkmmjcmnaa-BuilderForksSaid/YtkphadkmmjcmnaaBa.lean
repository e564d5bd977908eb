/-
  Builders in memory; an append to what a builder has, whether it may grow in place or not.
-/
import Derived.Test.YtkphadkmmjcmnaaFa
import Derived.LaidEqlPtr
import Derived.Laws.AppendOwnNone
import Derived.Deep.RegionHeld3
import Derived.Deep.DeepCutAuto
namespace Go.Proofs.Ytkphadkmmjcmnaa.KK
open Go.ChangeShapes Go.WideShapes Go.ChangeAt Go.RowKit Go.Proofs

theorem alloc_below (w : World) (o : Obj) : Below w.heap.size w (w.alloc o) := (Below.refl _ _).alloc (Nat.le_refl _) _
theorem cell_lt {w : World} {b o : Nat} {v : Value} (h : w.cell? ⟨b, o, none⟩ = some v) : b < w.heap.size := World.block_lt_of_cell? w _ h
theorem abv_c {w1 : World} {b o : Nat} {v : Value} (h : w1.cell? ⟨b, o, none⟩ = some v) : ∀ p : Abv w1, p.world.cell? ⟨b, o, none⟩ = some v := abv_cell (cell_lt h) h
/-- what lies outside S is as it was -/
structure Chg (S : Nat → Prop) (w w' : World) : Prop where
  os : w'.os = w.os
  tape : w'.tape = w.tape
  output : w'.output = w.output
  size : w.heap.size ≤ w'.heap.size
  block : ∀ k, k < w.heap.size → ¬ S k → w'.heap[k]? = w.heap[k]?
theorem Chg.of_below {S : Nat → Prop} {w w' : World} (h : Below w.heap.size w w') : Chg S w w' := ⟨h.os, h.tape, h.output, h.size, fun k hk _ => h.block k hk⟩
theorem Chg.refl {S : Nat → Prop} (w : World) : Chg S w w := .of_below (Below.refl _ _)
theorem Chg.of_grown {w w' : World} {r : Option Nat} (h : w.grownBy w' r) : Chg (fun k => some k = r) w w' := ⟨h.os, h.tape, h.output, h.size, fun k hk hn => h.block k hk hn⟩
theorem Chg.trans {S : Nat → Prop} {a b c : World} (h : Chg S a b) (k : Chg S b c) : Chg S a c :=
  ⟨k.os.trans h.os, k.tape.trans h.tape, k.output.trans h.output, Nat.le_trans h.size k.size, fun i hi hn => (k.block i (Nat.lt_of_lt_of_le hi h.size) hn).trans (h.block i hi hn)⟩
theorem Chg.mono {S T : Nat → Prop} {a b : World} (h : Chg S a b) (hs : ∀ k, S k → T k) : Chg T a b := ⟨h.os, h.tape, h.output, h.size, fun k hk hn => h.block k hk (fun g => hn (hs k g))⟩
/-- what was made on the way may be written: it is new -/
theorem Chg.trans_new {S T : Nat → Prop} {a b c : World} (h : Chg S a b) (k : Chg T b c) (hn : ∀ i, T i → S i ∨ a.heap.size ≤ i) : Chg S a c :=
  ⟨k.os.trans h.os, k.tape.trans h.tape, k.output.trans h.output, Nat.le_trans h.size k.size, fun i hi hs => (k.block i (Nat.lt_of_lt_of_le hi h.size) (fun g => by rcases hn i g with g | g; exact hs g; omega)).trans (h.block i hi hs)⟩
theorem Chg.below {S : Nat → Prop} {B : Nat} {w w' : World} (h : Chg S w w') (hS : ∀ k, S k → B ≤ k) (hB : B ≤ w.heap.size) : Below B w w' :=
  ⟨h.os, h.tape, h.output, h.size, fun k hk => h.block k (by omega) (fun g => by have := hS k g; omega)⟩
theorem Chg.cell {S : Nat → Prop} {w w' : World} (h : Chg S w w') {b o : Nat} {v : Value} (hc : w.cell? ⟨b, o, none⟩ = some v) (hn : ¬ S b) : w'.cell? ⟨b, o, none⟩ = some v :=
  (World.cell?_of_block (a := ⟨b, o, none⟩) (h.block b (cell_lt hc) hn)).trans hc
theorem Chg.es {S : Nat → Prop} {w w' : World} {A : Option Addr} {xs : List El.En} (h : Chg S w w') (hf : EsAt w A xs) (hn : ∀ a, A = some a → ¬ S a.block) : EsAt w' A xs := by
  rcases hf with hf | ⟨b, off, rfl, hb, hc⟩
  · exact .inl hf
  · refine .inr ⟨b, off, rfl, Nat.lt_of_lt_of_le hb h.size, fun i hi => ?_⟩
    have hs : ¬ S b := hn _ rfl
    obtain ⟨a0, a1, a2, a3⟩ := hc i hi
    exact ⟨h.cell a0 hs, h.cell a1 hs, h.cell a2 hs, h.cell a3 hs⟩
theorem Chg.own {S : Nat → Prop} {w w' : World} {base sz n : Nat} {e : TypeId} {v : Value} {xs : List Value} (h : Chg S w w') (hf : w.ownsRow base e sz v n xs) (hn : ∀ g, v.ownBlock = some g → ¬ S g) : w'.ownsRow base e sz v n xs := by
  refine ⟨hf.1, ?_⟩
  rcases hf.2 with h1 | ⟨g, cap, cur, rfl, hb, hg, rest⟩
  · exact .inl h1
  · exact .inr ⟨g, cap, cur, rfl, hb, (h.block g (Array.getElem?_eq_some_iff.1 hg).1 (hn g rfl)).trans hg, rest⟩
theorem chg_set {w : World} (b o : Nat) (u : Value) : Chg (fun k => k = b) w (w.setCell ⟨b, o, none⟩ u) :=
  ⟨rfl, rfl, rfl, by simp [World.setCell], fun k _ hn => by simp [World.setCell, Array.getElem?_modify]; intro h; exact absurd h.symm hn⟩

/-- a builder lies there -/
def Bd (w : World) (M : Nat) (st : Int) (most : Nat) (v : Value) : Prop :=
  w.heap[M]? = some (.cells #[.pointer (some ⟨M, 0, none⟩), .int .i64 st, .int .i64 most, v] 55 (0, 0))
section
variable {w w' : World} {M most : Nat} {st : Int} {v : Value}
theorem Bd.lt (h : Bd w M st most v) : M < w.heap.size := (Array.getElem?_eq_some_iff.1 h).1
theorem Bd.c0 (h : Bd w M st most v) : w.cell? ⟨M, 0, none⟩ = some (.pointer (some ⟨M, 0, none⟩)) := cell_of_row w M 0 _ _ _ h
theorem Bd.c1 (h : Bd w M st most v) : w.cell? ⟨M, 1, none⟩ = some (.int .i64 st) := cell_of_row w M 1 _ _ _ h
theorem Bd.c2 (h : Bd w M st most v) : w.cell? ⟨M, 2, none⟩ = some (.int .i64 most) := cell_of_row w M 2 _ _ _ h
theorem Bd.c3 (h : Bd w M st most v) : w.cell? ⟨M, 3, none⟩ = some v := cell_of_row w M 3 _ _ _ h
theorem Bd.fz (h : Bd w M st most v) (i : Nat) : w.frozen? ⟨M, i, none⟩ = false := by
  unfold Bd at h; simp [World.frozen?, h]
theorem Bd.chg {S : Nat → Prop} (h : Bd w M st most v) (hg : Chg S w w') (hn : ¬ S M) : Bd w' M st most v := (hg.block M h.lt hn).trans h
theorem Bd.below (h : Bd w M st most v) (hg : Below w.heap.size w w') : Bd w' M st most v := (hg.block M h.lt).trans h
theorem Bd.set1 (h : Bd w M st most v) (s : Int) : Bd (w.setCell ⟨M, 1, none⟩ (.int .i64 s)) M s most v := by
  unfold Bd at h ⊢; simp [World.setCell, Array.getElem?_modify, h]
theorem Bd.set3 (h : Bd w M st most v) (u : Value) : Bd (w.setCell ⟨M, 3, none⟩ u) M st most u := by
  unfold Bd at h ⊢; simp [World.setCell, Array.getElem?_modify, h]
end

/-- what a builder has: a row of its own (wb: its block), or one that it shares and never writes -/
def Rv (w : World) (base : Nat) (v : Value) (ys : List El.En) (wb : Option Nat) : Prop :=
  (wb = v.ownBlock ∧ (ys = [] → v = .slice none 0 0) ∧ w.ownsRow base 36 4 v ys.length (cellsE ys)) ∨
  (wb = none ∧ ys ≠ [] ∧ ∃ g, v = .slice (some ⟨g, 0, none⟩) ys.length ys.length ∧ EsAt w (some ⟨g, 0, none⟩) ys)
theorem Rv.form {w : World} {base : Nat} {v : Value} {ys : List El.En} {wb : Option Nat} (h : Rv w base v ys wb) : ∃ A c, v = .slice A ys.length c ∧ ys.length ≤ c ∧ (A = none → c = 0) ∧ EsAt w A ys := by
  rcases h with ⟨_, _, h⟩ | ⟨_, _, g, rfl, h⟩
  · have h' := h
    rcases h.2 with ⟨rfl, h1⟩ | ⟨g, cap, cur, rfl, _, _, h5, _⟩
    · refine ⟨none, 0, by rw [h1], by omega, fun _ => rfl, .inl (List.eq_nil_of_length_eq_zero h1)⟩
    · exact ⟨_, _, rfl, h5, (fun e => by cases e), EsAt.of_own h'⟩
  · exact ⟨_, _, rfl, Nat.le_refl _, (fun e => by cases e), h⟩
theorem Rv.nil (w : World) (base : Nat) : Rv w base (.slice none 0 0) [] none := .inl ⟨rfl, fun _ => rfl, World.ownsRow_nil _ _ _ _⟩
theorem Rv.wlt {w : World} {base : Nat} {v : Value} {ys : List El.En} {wb : Option Nat} (h : Rv w base v ys wb) : ∀ k, wb = some k → base ≤ k ∧ k < w.heap.size := by
  rcases h with ⟨rfl, _, h⟩ | ⟨rfl, _⟩
  · exact h.lt
  · intro k hk; cases hk
/-- the row's block is one of entries -/
theorem Rv.wtype {w : World} {base : Nat} {v : Value} {ys : List El.En} {wb : Option Nat} (h : Rv w base v ys wb) : ∀ k, wb = some k → ∃ cur, w.heap[k]? = some (.cells cur 36 (0, 0)) := by
  rcases h with ⟨rfl, _, h⟩ | ⟨rfl, _⟩
  · intro k hk
    rcases h.2 with ⟨rfl, _⟩ | ⟨g, cap, cur, rfl, _, hg, _⟩
    · cases hk
    · injection hk with hk; subst hk; exact ⟨cur, hg⟩
  · intro k hk; cases hk
theorem Rv.notB {w : World} {base M most : Nat} {st : Int} {u v : Value} {ys : List El.En} {wb : Option Nat} (h : Rv w base v ys wb) (hb : Bd w M st most u) : wb ≠ some M := by
  intro e
  obtain ⟨cur, hc⟩ := h.wtype M e
  unfold Bd at hb
  rw [hc] at hb
  injection hb with hb; injection hb with _ hb _; exact absurd hb (by decide)
theorem Rv.null {w : World} {base : Nat} {v : Value} {wb : Option Nat} (h : Rv w base v [] wb) : v = .slice none 0 0 := by
  rcases h with ⟨_, hz, _⟩ | ⟨_, h0, _⟩
  · exact hz rfl
  · exact absurd rfl h0
theorem Rv.below {w w' : World} {base : Nat} {v : Value} {ys : List El.En} {wb : Option Nat} (h : Rv w base v ys wb) (hb : Below w.heap.size w w') : Rv w' base v ys wb := by
  rcases h with ⟨rfl, hz, h⟩ | ⟨rfl, h0, g, rfl, h⟩
  · exact .inl ⟨rfl, hz, (Chg.of_below (S := fun _ => False) hb).own h (fun _ _ g => g)⟩
  · exact .inr ⟨rfl, h0, g, rfl, h.below hb (Nat.le_refl _)⟩
theorem Rv.set {w : World} {base M o : Nat} {u : Value} {v : Value} {ys : List El.En} {wb : Option Nat} (h : Rv w base v ys wb) (hn : ∀ A n c, v = .slice (some A) n c → A.block ≠ M) : Rv (w.setCell ⟨M, o, none⟩ u) base v ys wb := by
  rcases h with ⟨rfl, hz, h⟩ | ⟨rfl, h0, g, rfl, h⟩
  · refine .inl ⟨rfl, hz, (chg_set M o u).own h fun g hg e => ?_⟩
    rcases h.2 with ⟨rfl, _⟩ | ⟨g', cap, cur, rfl, _⟩
    · cases hg
    · injection hg with hg; exact hn _ _ _ rfl (hg.trans e)
  · exact .inr ⟨rfl, h0, g, rfl, (chg_set M o u).es h fun a ha e => by injection ha with ha; subst ha; exact hn _ _ _ rfl e⟩

set_option maxRecDepth 100000 in
theorem run_append_grown {w : World} (base : Nat) (ty : TypeId) (g oc : Nat) (ys : List El.En) (holds : ∀ j u, (cellsE ys)[j]? = some u → w.cell? ((⟨g, 0, none⟩ : Addr).add j) = some u) (x : El.En) (ad : Addr) (c : Nat)
    (hnews : ∀ j u, ([.string x.1, .string x.2.1, .bool x.2.2.1, .int .i64 x.2.2.2] : List Value)[j]? = some u → w.cell? (ad.add j) = some u) (hlen : ys.length ≤ 100000) (hbase : base ≤ w.heap.size) (hoc : oc < ys.length + 1) :
    ∃ cap w', (Builtin.append_ #[41, 41] ty #[.slice (some ⟨g, 0, none⟩) ys.length oc, .slice (some ad) 1 c]).run Try.prog w = .ok (.slice (some ⟨w.heap.size, 0, none⟩) (ys.length + 1) cap) w' ∧
      w'.ownsRow base 36 4 (.slice (some ⟨w.heap.size, 0, none⟩) (ys.length + 1) cap) (ys.length + 1) (cellsE (ys ++ [x])) ∧ w.grownBy w' none ∧ w.heap.size < w'.heap.size := by
  obtain ⟨i0, hi, hz0, hz1, hz2⟩ := info_parts infoE
  have hr := run_append_grow (P := Try.prog) w 41 ty 36 i0 (.agg #[.string ⟨#[]⟩, .string ⟨#[]⟩, .bool false, .int .i64 0]) Try.underlying41 hi hz0 ⟨g, 0, none⟩ ys.length oc (cellsE ys) (by rw [hz1, cellsE_len]) holds ad 1 c [.string x.1, .string x.2.1, .bool x.2.2.1, .int .i64 x.2.2.2] (by rw [hz1]; rfl) hnews (by omega) (by omega) (by rw [hz2]; exact growslice_fits (by omega) (by omega))
  have hge := grownCap_ge w (ys.length + 1) oc 36
  have hcm : grownCap w (ys.length + 1) oc 36 ≤ maxLen := grownCap_le_maxLen w (ys.length + 1) oc _ (by unfold maxLen; omega)
  refine ⟨_, _, hr, ⟨by rw [cellsE_len, List.length_append]; rfl, .inr ⟨w.heap.size, _, _, rfl, hbase, heap_alloc_new w.drew _, hge, hcm, ?_, ?_⟩⟩, ⟨rfl, rfl, rfl, by simp, fun k hk _ => heap_alloc_old w.drew _ hk⟩, by simp⟩
  · rw [Array.size_append, Array.size_append, size_zeroCells]
    simp only [List.size_toArray, cellsE_len]
    have : ∀ n : Nat, n + 1 ≤ grownCap w (ys.length + 1) oc 36 → n * 4 + 4 + (grownCap w (ys.length + 1) oc 36 - (n + 1)) * 4 = grownCap w (ys.length + 1) oc 36 * 4 := fun n hn => by omega
    exact this _ hge
  · rw [Array.toList_append, Array.toList_append, cellsE_snoc, List.append_assoc]
    rw [← List.append_assoc]
    refine List.take_left' ?_
    simp [cellsE_len]; omega
theorem grown_none {w w' : World} (h : w.grownBy w' none) (r : Option Nat) : w.grownBy w' r := ⟨h.os, h.tape, h.output, h.size, fun k hk _ => h.block k hk (fun e => by cases e)⟩
set_option maxRecDepth 100000 in
theorem run_append_rv {w : World} (base : Nat) (ty : TypeId) (v : Value) (ys : List El.En) (wb : Option Nat) (hv : Rv w base v ys wb) (x : El.En) (ad : Addr) (c : Nat)
    (hnews : ∀ j u, ([.string x.1, .string x.2.1, .bool x.2.2.1, .int .i64 x.2.2.2] : List Value)[j]? = some u → w.cell? (ad.add j) = some u) (hlen : ys.length ≤ 100000) (hbase : base ≤ w.heap.size) :
    ∃ g cap w', (Builtin.append_ #[41, 41] ty #[v, .slice (some ad) 1 c]).run Try.prog w = .ok (.slice (some ⟨g, 0, none⟩) (ys.length + 1) cap) w' ∧
      w'.ownsRow base 36 4 (.slice (some ⟨g, 0, none⟩) (ys.length + 1) cap) (ys.length + 1) (cellsE (ys ++ [x])) ∧ w.grownBy w' wb ∧ (wb = some g ∨ (g = w.heap.size ∧ w.grownBy w' none)) ∧ g < w'.heap.size := by
  obtain ⟨i0, hi, hz0, hz1, hz2⟩ := info_parts infoE
  rcases hv with ⟨rfl, hz, hown⟩ | ⟨rfl, h0, g, rfl, hes⟩
  · rcases hown.2 with ⟨rfl, hn⟩ | ⟨g, cap, cur, rfl, hb, hg, h5, h6, h7, h8⟩
    · obtain ⟨g, cap, w', hr, h2, h3, h4, h5⟩ := run_append_lies (P := Try.prog) w 41 ty base 36 i0 (.agg #[.string ⟨#[]⟩, .string ⟨#[]⟩, .bool false, .int .i64 0]) 4 48 Try.underlying41 hi hz0 hz1 hz2 rfl (by decide) (.slice none 0 0) ys.length (cellsE ys) hown ad 1 c [.string x.1, .string x.2.1, .bool x.2.2.1, .int .i64 x.2.2.2] rfl hnews (by simp [Value.oneCell']) (by omega) (by unfold maxLen; omega) (by omega) hbase _ rfl
      refine ⟨g, cap, w', hr, by rw [cellsE_snoc]; exact h2, h3, ?_, h5⟩
      rcases h4 with h4 | h4
      · cases h4
      · exact .inr ⟨h4, h3⟩
    · by_cases hroom : ys.length + 1 ≤ cap
      · have hfit : ys.length * i0.size + ([.string x.1, .string x.2.1, .bool x.2.2.1, .int .i64 x.2.2.2] : List Value).length ≤ cur.size := by
          rw [hz1, h7]; simp only [List.length_cons, List.length_nil]; omega
        have hr := run_append_room (P := Try.prog) w 41 ty 36 i0 Try.underlying41 hi g ys.length cap cur hg ad 1 c [.string x.1, .string x.2.1, .bool x.2.2.1, .int .i64 x.2.2.2] (by rw [hz1]; rfl) hnews (by simp [Value.oneCell']) hroom hfit
        rw [hz1] at hr hfit
        have hl4 : (cur.toList.take (ys.length * 4)).length = ys.length * 4 := by rw [List.length_take]; simp only [Array.length_toList]; rw [h7]; omega
        refine ⟨g, cap, _, hr, ⟨by rw [cellsE_len, List.length_append]; rfl, .inr ⟨g, cap, _, rfl, hb, setRow_heap w g cur _ _ _ hg, hroom, h6, ?_, ?_⟩⟩, ⟨rfl, rfl, rfl, by simp, fun k hk hne => setRow_other w g k _ (fun e => hne (by rw [e]; rfl))⟩, .inl rfl, ?_⟩
        · simp only [List.size_toArray, List.length_append, hl4, List.length_drop, Array.length_toList, List.length_cons, List.length_nil]
          rw [h7]; omega
        · rw [cellsE_snoc, ← h8]
          show List.take ((ys.length + 1) * 4) ((_ ++ _) ++ _) = _
          refine List.take_left' ?_
          rw [List.length_append, hl4]; simp only [List.length_cons, List.length_nil]; omega
        · have := (Array.getElem?_eq_some_iff.1 hg).1
          simpa using this
      · have hne : ys ≠ [] := fun e => by have := hz e; cases this
        obtain ⟨cap', w', h1, h2, h3, h4⟩ := run_append_grown (w := w) base ty g cap ys (hown.cells (g := g) rfl) x ad c hnews hlen hbase (by omega)
        exact ⟨_, _, _, h1, h2, grown_none h3 _, .inr ⟨rfl, h3⟩, h4⟩
  · obtain ⟨b, off, e, hb, hc⟩ := hes.cells h0
    injection e with e; injection e with e1 e2; subst e1; subst e2
    have holds : ∀ j u, (cellsE ys)[j]? = some u → w.cell? ((⟨g, 0, none⟩ : Addr).add j) = some u := fun j u hj => by rw [add_at']; exact hc j u hj
    obtain ⟨cap', w', h1, h2, h3, h4⟩ := run_append_grown (w := w) base ty g ys.length ys holds x ad c hnews hlen hbase (by omega)
    exact ⟨_, _, _, h1, h2, h3, .inr ⟨rfl, h3⟩, h4⟩
/-- at a step of a region that draws -/
theorem step_append_rv {ops : Array Oper} {o : Oper} {a : Act} {w : World} {K : Act → World → Prop} {Q : Exit → Act → World → Prop} {E : Prop} (hgd : o.guard = none) (s x : Operand)
    (ho : o.op = .call { callee := .builtin .append, args := #[s, x], argTypes := #[41, 41] })
    (base : Nat) (v : Value) (ys : List El.En) (wb : Option Nat) (hs : a.eval s = v) (hv : Rv w base v ys wb) (y : El.En) (ad : Addr) (c : Nat) (hx : a.eval x = .slice (some ad) 1 c)
    (hnews : ∀ j u, ([.string y.1, .string y.2.1, .bool y.2.2.1, .int .i64 y.2.2.2] : List Value)[j]? = some u → w.cell? (ad.add j) = some u) (hlen : ys.length ≤ 100000) (hbase : base ≤ w.heap.size)
    (h : ∀ g cap w', w'.ownsRow base 36 4 (.slice (some ⟨g, 0, none⟩) (ys.length + 1) cap) (ys.length + 1) (cellsE (ys ++ [y])) → w.grownBy w' wb → (wb = some g ∨ (g = w.heap.size ∧ w.grownBy w' none)) → g < w'.heap.size → K (a.put o.dst (.slice (some ⟨g, 0, none⟩) (ys.length + 1) cap)) w') :
    if Region.wanted o (yielded ops a.tmps) = true then Oper.wp Try.prog o a w K Q else E := by
  have hw : Region.wanted o (yielded ops a.tmps) = true := by simp [Region.wanted, hgd]
  rw [if_pos hw]
  obtain ⟨g, cap, w', hr, h2, h3, h4, h5⟩ := run_append_rv base o.type v ys wb hv y ad c hnews hlen hbase
  unfold Oper.wp execOp
  simp only [ho, resolve, invoke, builtin, Sem.run_bind, Sem.run_pure, Result.andThen_ok, List.map_toArray, List.map_cons, List.map_nil, hs, hx, hr]
  exact h g cap w' h2 h3 h4 h5
end Go.Proofs.Ytkphadkmmjcmnaa.KK
