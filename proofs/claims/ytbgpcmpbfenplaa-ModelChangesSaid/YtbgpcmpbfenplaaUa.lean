/-
  A model in memory; its table of pins: a slot is given.
-/
import Derived.Test.YtbgpcmpbfenplaaVz
import Derived.Deep.AppendLies
import Derived.Laws.OwnMore
import Derived.Deep.RegionLaw
import Derived.Deep.RegionHeld3
namespace Go.Proofs.Ytbgpcmpbfenplaa.KK
open Go.ChangeShapes Go.WideShapes Go.ChangeAt Go.RowKit Go.Proofs

/-- what lies outside S is as it was -/
structure Chg (S : Nat → Prop) (w w' : World) : Prop where
  os : w'.os = w.os
  tape : w'.tape = w.tape
  output : w'.output = w.output
  size : w.heap.size ≤ w'.heap.size
  block : ∀ k, k < w.heap.size → ¬ S k → w'.heap[k]? = w.heap[k]?
theorem Chg.of_below {S : Nat → Prop} {w w' : World} (h : Below w.heap.size w w') : Chg S w w' := ⟨h.os, h.tape, h.output, h.size, fun k hk _ => h.block k hk⟩
theorem Chg.of_grown {w w' : World} {r : Option Nat} (h : w.grownBy w' r) : Chg (fun k => some k = r) w w' := ⟨h.os, h.tape, h.output, h.size, fun k hk hn => h.block k hk hn⟩
theorem Chg.trans {S : Nat → Prop} {a b c : World} (h : Chg S a b) (k : Chg S b c) : Chg S a c :=
  ⟨k.os.trans h.os, k.tape.trans h.tape, k.output.trans h.output, Nat.le_trans h.size k.size, fun i hi hn => (k.block i (Nat.lt_of_lt_of_le hi h.size) hn).trans (h.block i hi hn)⟩
theorem Chg.mono {S T : Nat → Prop} {a b : World} (h : Chg S a b) (hs : ∀ k, S k → T k) : Chg T a b := ⟨h.os, h.tape, h.output, h.size, fun k hk hn => h.block k hk (fun g => hn (hs k g))⟩
/-- what was made on the way may be written: it is new -/
theorem Chg.trans_new {S T : Nat → Prop} {a b c : World} (h : Chg S a b) (k : Chg T b c) (hn : ∀ i, T i → S i ∨ a.heap.size ≤ i) : Chg S a c :=
  ⟨k.os.trans h.os, k.tape.trans h.tape, k.output.trans h.output, Nat.le_trans h.size k.size, fun i hi hs => (k.block i (Nat.lt_of_lt_of_le hi h.size) (fun g => by rcases hn i g with g | g; exact hs g; omega)).trans (h.block i hi hs)⟩
theorem Chg.below {S : Nat → Prop} {B : Nat} {w w' : World} (h : Chg S w w') (hS : ∀ k, S k → B ≤ k) (hB : B ≤ w.heap.size) : Below B w w' :=
  ⟨h.os, h.tape, h.output, h.size, fun k hk => h.block k (by omega) (fun g => by have := hS k g; omega)⟩
theorem Chg.own {S : Nat → Prop} {w w' : World} {base sz n : Nat} {e : TypeId} {v : Value} {xs : List Value} (h : Chg S w w') (hf : w.ownsRow base e sz v n xs) (hn : ∀ g, v.ownBlock = some g → ¬ S g) : w'.ownsRow base e sz v n xs := by
  refine ⟨hf.1, ?_⟩
  rcases hf.2 with h1 | ⟨g, cap, cur, rfl, hb, hg, rest⟩
  · exact .inl h1
  · exact .inr ⟨g, cap, cur, rfl, hb, (h.block g (Array.getElem?_eq_some_iff.1 hg).1 (hn g rfl)).trans hg, rest⟩
theorem chg_set {w : World} (b o : Nat) (u : Value) : Chg (fun k => k = b) w (w.setCell ⟨b, o, none⟩ u) :=
  ⟨rfl, rfl, rfl, by simp [World.setCell], fun k _ hn => by simp [World.setCell, Array.getElem?_modify]; intro h; exact absurd h.symm hn⟩
/-- a model lies there: its head, its pins' slots, its cursors' slots -/
def Md (w : World) (M : Nat) (h p q : Value) : Prop :=
  w.heap[M]? = some (.cells #[.pointer (some ⟨M, 0, none⟩), h, .int .i64 16, p, .int .i64 16, q] 99 (0, 0))
section
variable {w w' : World} {M : Nat} {h p q : Value}
theorem Md.lt (k : Md w M h p q) : M < w.heap.size := (Array.getElem?_eq_some_iff.1 k).1
theorem Md.c (k : Md w M h p q) (i : Nat) : w.cell? ⟨M, i, none⟩ = #[.pointer (some ⟨M, 0, none⟩), h, .int .i64 16, p, .int .i64 16, q][i]? := cell_of_row w M i _ _ _ k
theorem Md.fz (k : Md w M h p q) (i : Nat) : w.frozen? ⟨M, i, none⟩ = false := by
  unfold Md at k; simp [World.frozen?, k]
theorem Md.chg {S : Nat → Prop} (k : Md w M h p q) (hg : Chg S w w') (hn : ¬ S M) : Md w' M h p q := (hg.block M k.lt hn).trans k
theorem Md.below (k : Md w M h p q) (hg : Below w.heap.size w w') : Md w' M h p q := (hg.block M k.lt).trans k
theorem Md.set3 (k : Md w M h p q) (u : Value) : Md (w.setCell ⟨M, 3, none⟩ u) M h u q := by
  unfold Md at k ⊢; simp [World.setCell, Array.getElem?_modify, k]
end
/-- the cells of slots -/
def cellsS (ss : List Sl) : List Value := ss.flatMap fun s => [.int .i64 s.1, .bool s.2.1, s.2.2]
theorem cellsS_cons (s : Sl) (ss : List Sl) : cellsS (s :: ss) = .int .i64 s.1 :: .bool s.2.1 :: s.2.2 :: cellsS ss := rfl
theorem cellsS_app (a b : List Sl) : cellsS (a ++ b) = cellsS a ++ cellsS b := by simp [cellsS]
theorem cellsS_len (ss : List Sl) : (cellsS ss).length = ss.length * 3 := by
  induction ss with
  | nil => rfl
  | cons x t ih => rw [cellsS_cons]; simp only [List.length_cons, ih]; omega
theorem cellsS_get : ∀ (ss : List Sl) (i : Nat) (h : i < ss.length), (cellsS ss)[i * 3]? = some (.int .i64 ss[i].1) ∧ (cellsS ss)[i * 3 + 1]? = some (.bool ss[i].2.1) ∧ (cellsS ss)[i * 3 + 2]? = some ss[i].2.2
  | s :: ss, 0, _ => ⟨rfl, rfl, rfl⟩
  | s :: ss, i + 1, h => by
    have := cellsS_get ss i (by simpa using h)
    have e : ∀ j, (cellsS (s :: ss))[j + 3]? = (cellsS ss)[j]? := fun j => by simp [cellsS_cons]
    rw [show (i + 1) * 3 = i * 3 + 3 by omega, show i * 3 + 3 + 1 = (i * 3 + 1) + 3 by omega, show i * 3 + 3 + 2 = (i * 3 + 2) + 3 by omega, e, e, e]
    simpa using this
theorem cellsS_set : ∀ (ss : List Sl) (i : Nat) (s : Sl), cellsS (ss.set i s) = (((cellsS ss).set (i * 3) (.int .i64 s.1)).set (i * 3 + 1) (.bool s.2.1)).set (i * 3 + 2) s.2.2
  | [], i, s => by simp [cellsS]
  | t :: ss, 0, s => rfl
  | t :: ss, i + 1, s => by
    rw [List.set_cons_succ, cellsS_cons, cellsS_set ss i s, cellsS_cons]
    rw [show (i + 1) * 3 = i * 3 + 1 + 1 + 1 by omega, show i * 3 + 1 + 1 + 1 + 1 = (i * 3 + 1) + 1 + 1 + 1 by omega, show i * 3 + 1 + 1 + 1 + 2 = (i * 3 + 2) + 1 + 1 + 1 by omega]
    simp only [List.set_cons_succ]
/-- the slots lie in a row of the call's own -/
def Sown (w : World) (base : Nat) (p : Value) (ss : List Sl) : Prop := w.ownsRow base 129 3 p ss.length (cellsS ss)
theorem Sown.form {w : World} {base : Nat} {p : Value} {ss : List Sl} (h : Sown w base p ss) : ∃ S c, p = .slice S ss.length c ∧ SlAt w S ss := by
  have h' := h
  rcases h.2 with ⟨rfl, h1⟩ | ⟨g, cap, cur, rfl, _, hg, h5, _⟩
  · exact ⟨none, 0, by rw [h1], .inl (List.eq_nil_of_length_eq_zero h1)⟩
  · refine ⟨some ⟨g, 0, none⟩, cap, rfl, ?_⟩
    by_cases h0 : ss = []
    · exact .inl h0
    · refine .inr ⟨g, 0, rfl, (Array.getElem?_eq_some_iff.1 hg).1, fun i hi => ?_⟩
      have hcell := World.ownsRow.cells h' (g := g) rfl
      obtain ⟨a0, a1, a2⟩ := cellsS_get ss i hi
      have b0 := hcell _ _ a0
      have b1 := hcell _ _ a1
      have b2 := hcell _ _ a2
      rw [add_at'] at b0 b1 b2
      exact ⟨b0, by rw [Nat.add_assoc]; exact b1, by rw [Nat.add_assoc]; exact b2⟩
theorem Sown.block {w : World} {base : Nat} {p : Value} {ss : List Sl} (h : Sown w base p ss) (hs : ss ≠ []) : ∃ g c, p = .slice (some ⟨g, 0, none⟩) ss.length c ∧ base ≤ g ∧ g < w.heap.size := by
  rcases h.2 with ⟨_, h1⟩ | ⟨g, cap, cur, rfl, hb, hg, _⟩
  · exact absurd (List.eq_nil_of_length_eq_zero h1) hs
  · exact ⟨g, cap, rfl, hb, (Array.getElem?_eq_some_iff.1 hg).1⟩
theorem Sown.notM {w : World} {base M : Nat} {p h' p' q' : Value} {ss : List Sl} (h : Sown w base p ss) (hm : Md w M h' p' q') : ∀ g, p.ownBlock = some g → g ≠ M := by
  rintro g hg rfl
  rcases h.2 with ⟨rfl, _⟩ | ⟨g2, cap, cur, rfl, _, hh, _⟩
  · cases hg
  · injection hg with hg; subst hg
    unfold Md at hm; rw [hh] at hm
    injection hm with hm; injection hm with _ hm _; exact absurd hm (by decide)
theorem Sown.set {w : World} {base g c : Nat} {ss : List Sl} (h : Sown w base (.slice (some ⟨g, 0, none⟩) ss.length c) ss) (i : Nat) (s : Sl) :
    Sown (((w.setCell ⟨g, i * 3, none⟩ (.int .i64 s.1)).setCell ⟨g, i * 3 + 1, none⟩ (.bool s.2.1)).setCell ⟨g, i * 3 + 2, none⟩ s.2.2) base (.slice (some ⟨g, 0, none⟩) ss.length c) (ss.set i s) := by
  unfold Sown
  rw [List.length_set, cellsS_set]
  have h1 := (World.ownsRow.stored h (i * 3) (.int .i64 s.1)).1
  have h2 := (World.ownsRow.stored h1 (i * 3 + 1) (.bool s.2.1)).1
  exact (World.ownsRow.stored h2 (i * 3 + 2) s.2.2).1
theorem chg_set3 {w : World} (g a b c : Nat) (x y z : Value) : Chg (fun k => k = g) w (((w.setCell ⟨g, a, none⟩ x).setCell ⟨g, b, none⟩ y).setCell ⟨g, c, none⟩ z) := ((chg_set g a x).trans (chg_set g b y)).trans (chg_set g c z)
theorem infoS : (Try.prog.info? 129).map (fun i => (i.zero, i.size, i.bytes)) = some (some (.agg #[.int .i64 0, .bool false, .slice none 0 0]), 3, 40) := by kernel_rfl
/-- behind a call that gives, drops, or leaves as they are, the slots of a model's pins -/
def GiveOut (base M : Nat) (h q p : Value) (w w' : World) (ss' : List Sl) : Prop :=
  ∃ p', Md w' M h p' q ∧ Sown w' base p' ss' ∧ Chg (fun k => k = M ∨ some k = p.ownBlock) w w' ∧ (p'.ownBlock = p.ownBlock ∨ ∃ g, p'.ownBlock = some g ∧ w.heap.size ≤ g)
theorem GiveOut.after {base M : Nat} {h q p : Value} {w w1 w' : World} {ss' : List Sl} (k : GiveOut base M h q p w1 w' ss') (hb : Below w.heap.size w w1) : GiveOut base M h q p w w' ss' := by
  obtain ⟨p', k1, k2, k3, k4⟩ := k
  refine ⟨p', k1, k2, (Chg.of_below hb).trans k3, ?_⟩
  rcases k4 with e | ⟨g, e, e2⟩
  · exact .inl e
  · exact .inr ⟨g, e, Nat.le_trans hb.size e2⟩
end Go.Proofs.Ytbgpcmpbfenplaa.KK
