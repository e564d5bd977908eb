/-
  Merges: Next.
-/
import Derived.Test.YtebjhjmlpodkgaaPn
import Derived.Test.YtebjhjmlpodkgaaPh
import Derived.Test.YtebjhjmlpodkgaaPt
import Derived.RegionIn
import Derived.Stop.RegionWithIn
namespace Go.Proofs.Ytebjhjmlpodkgaa.KK
open Go.ChangeShapes Go.WideShapes Go.ChangeAt Go.RowKit Go.Proofs
attribute [local go_sem] Oper.semAt_some

/-- Next's boxes: the state, the four results -/
structure NxB (W : World) (b : Nat) (v0 v1 v2 v3 v4 : Value) : Prop where
  s : Rw5 W b 30 v0 v1 v2 v3 v4
  x : Rw4 W (b + 1) 45 (.string ⟨#[]⟩) (.string ⟨#[]⟩) (.bool false) (.int .i64 0)
  r : Rw1 W (b + 2) 3 (.int .i64 0)
  t : Rw5 W (b + 3) 30 (.slice none 0 0) (.slice none 0 0) (.slice none 0 0) (.slice none 0 0) (.int .i64 0)
  e : Rw1 W (b + 4) 31 (.int .i64 0)
theorem NxB.below {n b : Nat} {W W' : World} {v0 v1 v2 v3 v4 : Value} (h : NxB W b v0 v1 v2 v3 v4) (hb : Below n W W') (hn : W.heap.size ≤ n) : NxB W' b v0 v1 v2 v3 v4 := ⟨h.s.below hb hn, h.x.below hb hn, h.r.below hb hn, h.t.below hb hn, h.e.below hb hn⟩
theorem NxB.chg {S : Nat → Prop} {b : Nat} {W W' : World} {v0 v1 v2 v3 v4 : Value} (h : NxB W b v0 v1 v2 v3 v4) (hg : Chg S W W') (hS : ∀ i, i < 5 → ¬ S (b + i)) : NxB W' b v0 v1 v2 v3 v4 := ⟨h.s.chg hg (hS 0 (by omega)), h.x.chg hg (hS 1 (by omega)), h.r.chg hg (hS 2 (by omega)), h.t.chg hg (hS 3 (by omega)), h.e.chg hg (hS 4 (by omega))⟩
theorem boxNx11 (v0 v1 v2 v3 v4 : Value) (w : World) : ∃ w1, ((((w.alloc (.cells #[v0, v1, v2, v3, v4] 30)).alloc (.cells #[.string ⟨#[]⟩, .string ⟨#[]⟩, .bool false, .int .i64 0] 45)).alloc (.cells #[.int .i64 0] 3)).alloc (.cells #[.slice none 0 0, .slice none 0 0, .slice none 0 0, .slice none 0 0, .int .i64 0] 30)).alloc (.cells #[.int .i64 0] 31) = w1 ∧ NxB w1 w.heap.size v0 v1 v2 v3 v4 ∧ w1.heap.size = w.heap.size + 5 ∧ Below w.heap.size w w1 := by
  refine ⟨_, rfl, ⟨?_, ?_, ?_, ?_, ?_⟩, by simp, ?_⟩
  · exact (heap_alloc_old _ _ (by first | (simp; done) | (simp; omega))).trans ((heap_alloc_old _ _ (by first | (simp; done) | (simp; omega))).trans ((heap_alloc_old _ _ (by first | (simp; done) | (simp; omega))).trans (hp2 w _ _)))
  · exact (heap_alloc_old _ _ (by first | (simp; done) | (simp; omega))).trans ((heap_alloc_old _ _ (by first | (simp; done) | (simp; omega))).trans ((heap_alloc_old _ _ (by first | (simp; done) | (simp; omega))).trans (hp3 w _ _ rfl)))
  · exact (heap_alloc_old _ _ (by first | (simp; done) | (simp; omega))).trans ((heap_alloc_old _ _ (by first | (simp; done) | (simp; omega))).trans (hp1 _ _ (by simp)))
  · exact (heap_alloc_old _ _ (by first | (simp; done) | (simp; omega))).trans (hp1 _ _ (by simp))
  · exact hp1 _ _ (by simp)
  · exact bA (bA (bA (bA (alloc_below w _) _) _) _) _
/-- what Next answers of a good state -/
def NextOut (n : Nat) (rs : List Rn) (a : List Int) (w : World) (e : Ending) (w' : World) : Prop :=
  (doneB (ess rs) a = true ∧ e = .returned (.tuple #[.agg #[.string ⟨#[]⟩, .string ⟨#[]⟩, .bool false, .int .i64 0], .int .i64 0, .agg #[.slice none 0 0, .slice none 0 0, .slice none 0 0, .slice none 0 0, .int .i64 0], .int .i64 12]) ∧ Below w.heap.size w w') ∨
  (doneB (ess rs) a = false ∧ ∃ gr ga gk gl c1 c2 c3 c4 : Nat, e = .returned (.tuple #[.agg #[.string (entA (ess rs) a).1, .string (entA (ess rs) a).2.1, .bool (entA (ess rs) a).2.2.1, .int .i64 (entA (ess rs) a).2.2.2], .int .i64 (winA (ess rs) a : Nat), stV gr ga gk gl c1 c2 c3 c4 n (winA (ess rs) (nextA (ess rs) a)), .int .i64 0]) ∧ StN w w' gr ga gk gl rs (nextA (ess rs) a))
/-- between two rounds -/
def NxI (w W0 : World) (b : Nat) (v0 v1 v2 v3 v4 : Value) (pre : List St) (W : World) : Prop := pre = [] ∧ NxB W b v0 v1 v2 v3 v4 ∧ Below w.heap.size w W ∧ W0.heap.size ≤ W.heap.size
/-- how the body is left -/
def NxX (n : Nat) (rs : List Rn) (w W0 : World) (c : Code) (pre : List St) (W : World) : Prop :=
  c = .ret ∧ ∃ (x : St) (gr ga gk gl c1 c2 c3 c4 : Nat), pre = [x] ∧ Rw4 W (w.heap.size + 1) 45 (.string x.1.1) (.string x.1.2.1) (.bool x.1.2.2.1) (.int .i64 x.1.2.2.2) ∧ Rw1 W (w.heap.size + 2) 3 (.int .i64 (x.2.1 : Int)) ∧
    Rw5 W (w.heap.size + 3) 30 (.slice (some ⟨gr, 0, none⟩) n c1) (.slice (some ⟨ga, 0, none⟩) n c2) (.slice (some ⟨gk, 0, none⟩) n c3) (.slice (some ⟨gl, 0, none⟩) n c4) (.int .i64 (winA (ess rs) x.2.2 : Nat)) ∧ Rw1 W (w.heap.size + 4) 31 (.int .i64 0) ∧ W0.heap.size + 2 ≤ gr ∧ StN w W gr ga gk gl rs x.2.2
/-- the frame behind the assignment -/
def NxA (n : Nat) (R : Option Addr) (cr : Nat) (rs : List Rn) (B0 : Nat) (F : Value → Value → Value → Value → Act) (x : St) (a' : Act) (W : World) : Prop :=
  ∃ (B : Nat) (A K L : Option Addr) (ca ck cl : Nat), B0 + 2 ≤ B ∧ Rw5 W B 91 (.string x.1.1) (.string x.1.2.1) (.bool x.1.2.2.1) (.int .i64 x.1.2.2.2) (.int .i64 (x.2.1 : Int)) ∧ Rw5 W (B + 1) 83 (.slice A n ca) (.slice K n ck) (.slice L n cl) (.int .i64 (winA (ess rs) x.2.2 : Nat)) (.slice R n cr) ∧ RdN (fun k => k = B0 ∨ k = B0 + 1) W A K L R rs x.2.2 ∧ Gd (ess rs) x.2.2 ∧
    a' = F (.pointer (some ⟨B, 0, none⟩)) (.pointer (some ⟨B + 1, 0, none⟩)) (nxtV x) (.agg #[.slice A n ca, .slice K n ck, .slice L n cl, .int .i64 (winA (ess rs) x.2.2 : Nat), .slice R n cr])
theorem NxI.kept {w W0 A A' : World} {b : Nat} {v0 v1 v2 v3 v4 : Value} {pre : List St} {row : Option Nat} (h : NxI w W0 b v0 v1 v2 v3 v4 pre A) (hN : b + 5 ≤ W0.heap.size) (hw : w.heap.size ≤ W0.heap.size) (hg : A.grownBy A' row) (hr : ∀ r, row = some r → W0.heap.size ≤ r) : NxI w W0 b v0 v1 v2 v3 v4 pre A' :=
  ⟨h.1, h.2.1.chg (cgr hg) (fun i hi e => by have := hr _ e.symm; omega), h.2.2.1.grown hg h.2.2.1.size (fun k e => by have := hr k e; omega), Nat.le_trans h.2.2.2 hg.size⟩
theorem StN.chg {S : Nat → Prop} {w A A' : World} {gr ga gk gl : Nat} {rs : List Rn} {a : List Int} (h : StN w A gr ga gk gl rs a) (hc : Chg S A A') (hS : ∀ k, gr ≤ k → ¬ S k) (hw : ∀ k, S k → w.heap.size ≤ k) : StN w A' gr ga gk gl rs a :=
  ⟨h.runs.chg hc (hS _ (Nat.le_refl _)), h.ats.chg hc (hS _ (by have := h.ord; omega)), h.keys.chg hc (hS _ (by have := h.ord; omega)), h.lose.chg hc (hS _ (by have := h.ord; omega)), h.ord, h.below.trans (hc.below hw h.below.size)⟩
theorem RdN.chg {O S : Nat → Prop} {W W' : World} {A K L R : Option Addr} {rs : List Rn} {a : List Int} (h : RdN O W A K L R rs a) (hc : Chg S W W') (hS : ∀ k, S k → O k) : RdN O W' A K L R rs a :=
  h.kept (Own := fun _ => O) (fun _ g => g) ⟨hc.mono hS, fun _ _ g => g⟩
theorem nx_cases {xss : List (List El.En)} {a : List Int} (h : Gd xss a) : (doneB xss a = true ∧ mS xss a = []) ∨ (doneB xss a = false ∧ mS xss a = (entA xss a, winA xss a, nextA xss a) :: mS xss (nextA xss a)) := by
  cases hd : doneB xss a with
  | true => exact .inl ⟨rfl, mS_done hd⟩
  | false => exact .inr ⟨rfl, h.step hd⟩
theorem nx_done {xss : List (List El.En)} {a : List Int} (h : Gd xss a) (hm : mS xss a = []) : doneB xss a = true := by
  rcases nx_cases h with ⟨h1, _⟩ | ⟨_, h2⟩
  · exact h1
  · rw [h2] at hm; cases hm
theorem nx_some {xss : List (List El.En)} {a : List Int} {y : St} (h : Gd xss a) (hm : [y] <+: mS xss a) : doneB xss a = false ∧ y = (entA xss a, winA xss a, nextA xss a) := by
  rcases nx_cases h with ⟨_, h2⟩ | ⟨h1, h2⟩
  · rw [h2] at hm; have := hm.length_le; simp at this
  · rw [h2] at hm; exact ⟨h1, (List.cons_prefix_cons.1 hm).1⟩
def NxZ (w Y : World) : Prop := Rw4 Y (w.heap.size + 1) 45 (.string ⟨#[]⟩) (.string ⟨#[]⟩) (.bool false) (.int .i64 0) ∧ Rw1 Y (w.heap.size + 2) 3 (.int .i64 0) ∧ Rw5 Y (w.heap.size + 3) 30 (.slice none 0 0) (.slice none 0 0) (.slice none 0 0) (.slice none 0 0) (.int .i64 0) ∧ Rw1 Y (w.heap.size + 4) 31 (.int .i64 12) ∧ Below w.heap.size w Y
theorem nx_fin0 {w W : World} {D : Nat} {v0 v1 v2 v3 v4 : Value} (hD : w.heap.size + 5 ≤ D) (hbx : NxB W w.heap.size v0 v1 v2 v3 v4) (hbw : Below w.heap.size w W) (hK : W.heap[D]? = some (.deferred (some []))) :
    (((((((((((W.setCell ⟨w.heap.size + 1, 0, none⟩ (.string ⟨#[]⟩)).setCell ⟨w.heap.size + 1, 1, none⟩ (.string ⟨#[]⟩)).setCell ⟨w.heap.size + 1, 2, none⟩ (.bool false)).setCell ⟨w.heap.size + 1, 3, none⟩ (.int .i64 0)).setCell ⟨w.heap.size + 2, 0, none⟩ (.int .i64 0)).setCell ⟨w.heap.size + 3, 0, none⟩ (.slice none 0 0)).setCell ⟨w.heap.size + 3, 1, none⟩ (.slice none 0 0)).setCell ⟨w.heap.size + 3, 2, none⟩ (.slice none 0 0)).setCell ⟨w.heap.size + 3, 3, none⟩ (.slice none 0 0)).setCell ⟨w.heap.size + 3, 4, none⟩ (.int .i64 0)).setCell ⟨w.heap.size + 4, 0, none⟩ (.int .i64 12)).heap[D]? = some (.deferred (some [])) ∧ NxZ w ((((((((((((W.setCell ⟨w.heap.size + 1, 0, none⟩ (.string ⟨#[]⟩)).setCell ⟨w.heap.size + 1, 1, none⟩ (.string ⟨#[]⟩)).setCell ⟨w.heap.size + 1, 2, none⟩ (.bool false)).setCell ⟨w.heap.size + 1, 3, none⟩ (.int .i64 0)).setCell ⟨w.heap.size + 2, 0, none⟩ (.int .i64 0)).setCell ⟨w.heap.size + 3, 0, none⟩ (.slice none 0 0)).setCell ⟨w.heap.size + 3, 1, none⟩ (.slice none 0 0)).setCell ⟨w.heap.size + 3, 2, none⟩ (.slice none 0 0)).setCell ⟨w.heap.size + 3, 3, none⟩ (.slice none 0 0)).setCell ⟨w.heap.size + 3, 4, none⟩ (.int .i64 0)).setCell ⟨w.heap.size + 4, 0, none⟩ (.int .i64 12)).putObj D (.deferred none)) := by
  have kx := hbx.x.set (.string ⟨#[]⟩) (.string ⟨#[]⟩) (.bool false) (.int .i64 0)
  have m1 : Chg (fun k => k = w.heap.size + 1) W ((((W.setCell ⟨w.heap.size + 1, 0, none⟩ (.string ⟨#[]⟩)).setCell ⟨w.heap.size + 1, 1, none⟩ (.string ⟨#[]⟩)).setCell ⟨w.heap.size + 1, 2, none⟩ (.bool false)).setCell ⟨w.heap.size + 1, 3, none⟩ (.int .i64 0)) := ((((chg_set _ _ _).trans (chg_set _ _ _)).trans (chg_set _ _ _)).trans (chg_set _ _ _))
  generalize ((((W.setCell ⟨w.heap.size + 1, 0, none⟩ (.string ⟨#[]⟩)).setCell ⟨w.heap.size + 1, 1, none⟩ (.string ⟨#[]⟩)).setCell ⟨w.heap.size + 1, 2, none⟩ (.bool false)).setCell ⟨w.heap.size + 1, 3, none⟩ (.int .i64 0)) = X1 at *
  have kr := (hbx.r.chg m1 (by omega)).set (.int .i64 0)
  have m2 : Chg (fun k => k = w.heap.size + 2) X1 (X1.setCell ⟨w.heap.size + 2, 0, none⟩ (.int .i64 0)) := chg_set _ _ _
  generalize (X1.setCell ⟨w.heap.size + 2, 0, none⟩ (.int .i64 0)) = X2 at *
  have kt := ((hbx.t.chg m1 (by omega)).chg m2 (by omega)).set (.slice none 0 0) (.slice none 0 0) (.slice none 0 0) (.slice none 0 0) (.int .i64 0)
  have m3 : Chg (fun k => k = w.heap.size + 3) X2 (((((X2.setCell ⟨w.heap.size + 3, 0, none⟩ (.slice none 0 0)).setCell ⟨w.heap.size + 3, 1, none⟩ (.slice none 0 0)).setCell ⟨w.heap.size + 3, 2, none⟩ (.slice none 0 0)).setCell ⟨w.heap.size + 3, 3, none⟩ (.slice none 0 0)).setCell ⟨w.heap.size + 3, 4, none⟩ (.int .i64 0)) := ((((chg_set _ _ _).trans (chg_set _ _ _)).trans (chg_set _ _ _)).trans (chg_set _ _ _)).trans (chg_set _ _ _)
  generalize (((((X2.setCell ⟨w.heap.size + 3, 0, none⟩ (.slice none 0 0)).setCell ⟨w.heap.size + 3, 1, none⟩ (.slice none 0 0)).setCell ⟨w.heap.size + 3, 2, none⟩ (.slice none 0 0)).setCell ⟨w.heap.size + 3, 3, none⟩ (.slice none 0 0)).setCell ⟨w.heap.size + 3, 4, none⟩ (.int .i64 0)) = X3 at *
  have ke := (((hbx.e.chg m1 (by omega)).chg m2 (by omega)).chg m3 (by omega)).set (.int .i64 12)
  have m4 : Chg (fun k => k = w.heap.size + 4) X3 (X3.setCell ⟨w.heap.size + 4, 0, none⟩ (.int .i64 12)) := chg_set _ _ _
  generalize (X3.setCell ⟨w.heap.size + 4, 0, none⟩ (.int .i64 12)) = X4 at *
  have m : Chg (fun k => w.heap.size + 1 ≤ k ∧ k ≤ w.heap.size + 4) W X4 := (((m1.mono (fun k h => by omega)).trans (m2.mono (fun k h => by omega))).trans (m3.mono (fun k h => by omega))).trans (m4.mono (fun k h => by omega))
  have hlt := (Array.getElem?_eq_some_iff.1 hK).1
  have m5 : Chg (fun k => some k = some D) X4 (X4.putObj D (.deferred none)) := cgr (grownBy_putObj' X4 D (.deferred none))
  have hbX : Below w.heap.size w X4 := hbw.trans (m.below (fun k h => by omega) hbw.size)
  refine ⟨(m.block _ hlt (by omega)).trans hK, (((kx.chg m2 (by omega)).chg m3 (by omega)).chg m4 (by omega)).chg m5 (by simp; omega), ((kr.chg m3 (by omega)).chg m4 (by omega)).chg m5 (by simp; omega), (kt.chg m4 (by omega)).chg m5 (by simp; omega), ke.chg m5 (by simp; omega), hbX.trans (m5.below (fun k h => by simp at h; omega) hbX.size)⟩
theorem nx_fin {w W0 W w5 : World} {v0 v1 v2 v3 v4 : Value} {n gr ga gk gl c1 c2 c3 c4 : Nat} {rs : List Rn} {x : St} {pre : List St} (hp : pre = []) (hN : w.heap.size + 5 ≤ W0.heap.size) (hsz : W0.heap.size + 2 ≤ W.heap.size) (hb : Below W.heap.size W w5) (hbx : NxB w5 w.heap.size v0 v1 v2 v3 v4) (hbw : Below w.heap.size w w5) (hst : StN W w5 gr ga gk gl rs x.2.2) :
    Two W0.heap.size W (((((((((((w5.setCell ⟨w.heap.size + 1, 0, none⟩ (.string x.1.1)).setCell ⟨w.heap.size + 1, 1, none⟩ (.string x.1.2.1)).setCell ⟨w.heap.size + 1, 2, none⟩ (.bool x.1.2.2.1)).setCell ⟨w.heap.size + 1, 3, none⟩ (.int .i64 x.1.2.2.2)).setCell ⟨w.heap.size + 2, 0, none⟩ (.int .i64 (x.2.1 : Int))).setCell ⟨w.heap.size + 3, 0, none⟩ (.slice (some ⟨gr, 0, none⟩) n c1)).setCell ⟨w.heap.size + 3, 1, none⟩ (.slice (some ⟨ga, 0, none⟩) n c2)).setCell ⟨w.heap.size + 3, 2, none⟩ (.slice (some ⟨gk, 0, none⟩) n c3)).setCell ⟨w.heap.size + 3, 3, none⟩ (.slice (some ⟨gl, 0, none⟩) n c4)).setCell ⟨w.heap.size + 3, 4, none⟩ (.int .i64 (winA (ess rs) x.2.2 : Nat))).setCell ⟨w.heap.size + 4, 0, none⟩ (.int .i64 0)) ∧
      NxX n rs w W0 .ret (pre ++ [x]) (((((((((((w5.setCell ⟨w.heap.size + 1, 0, none⟩ (.string x.1.1)).setCell ⟨w.heap.size + 1, 1, none⟩ (.string x.1.2.1)).setCell ⟨w.heap.size + 1, 2, none⟩ (.bool x.1.2.2.1)).setCell ⟨w.heap.size + 1, 3, none⟩ (.int .i64 x.1.2.2.2)).setCell ⟨w.heap.size + 2, 0, none⟩ (.int .i64 (x.2.1 : Int))).setCell ⟨w.heap.size + 3, 0, none⟩ (.slice (some ⟨gr, 0, none⟩) n c1)).setCell ⟨w.heap.size + 3, 1, none⟩ (.slice (some ⟨ga, 0, none⟩) n c2)).setCell ⟨w.heap.size + 3, 2, none⟩ (.slice (some ⟨gk, 0, none⟩) n c3)).setCell ⟨w.heap.size + 3, 3, none⟩ (.slice (some ⟨gl, 0, none⟩) n c4)).setCell ⟨w.heap.size + 3, 4, none⟩ (.int .i64 (winA (ess rs) x.2.2 : Nat))).setCell ⟨w.heap.size + 4, 0, none⟩ (.int .i64 0)) := by
  have kx := hbx.x.set (.string x.1.1) (.string x.1.2.1) (.bool x.1.2.2.1) (.int .i64 x.1.2.2.2)
  have m1 : Chg (fun k => k = w.heap.size + 1) w5 ((((w5.setCell ⟨w.heap.size + 1, 0, none⟩ (.string x.1.1)).setCell ⟨w.heap.size + 1, 1, none⟩ (.string x.1.2.1)).setCell ⟨w.heap.size + 1, 2, none⟩ (.bool x.1.2.2.1)).setCell ⟨w.heap.size + 1, 3, none⟩ (.int .i64 x.1.2.2.2)) := ((((chg_set _ _ _).trans (chg_set _ _ _)).trans (chg_set _ _ _)).trans (chg_set _ _ _))
  generalize ((((w5.setCell ⟨w.heap.size + 1, 0, none⟩ (.string x.1.1)).setCell ⟨w.heap.size + 1, 1, none⟩ (.string x.1.2.1)).setCell ⟨w.heap.size + 1, 2, none⟩ (.bool x.1.2.2.1)).setCell ⟨w.heap.size + 1, 3, none⟩ (.int .i64 x.1.2.2.2)) = X1 at *
  have kr := (hbx.r.chg m1 (by omega)).set (.int .i64 (x.2.1 : Int))
  have m2 : Chg (fun k => k = w.heap.size + 2) X1 (X1.setCell ⟨w.heap.size + 2, 0, none⟩ (.int .i64 (x.2.1 : Int))) := chg_set _ _ _
  generalize (X1.setCell ⟨w.heap.size + 2, 0, none⟩ (.int .i64 (x.2.1 : Int))) = X2 at *
  have kt := ((hbx.t.chg m1 (by omega)).chg m2 (by omega)).set (.slice (some ⟨gr, 0, none⟩) n c1) (.slice (some ⟨ga, 0, none⟩) n c2) (.slice (some ⟨gk, 0, none⟩) n c3) (.slice (some ⟨gl, 0, none⟩) n c4) (.int .i64 (winA (ess rs) x.2.2 : Nat))
  have m3 : Chg (fun k => k = w.heap.size + 3) X2 (((((X2.setCell ⟨w.heap.size + 3, 0, none⟩ (.slice (some ⟨gr, 0, none⟩) n c1)).setCell ⟨w.heap.size + 3, 1, none⟩ (.slice (some ⟨ga, 0, none⟩) n c2)).setCell ⟨w.heap.size + 3, 2, none⟩ (.slice (some ⟨gk, 0, none⟩) n c3)).setCell ⟨w.heap.size + 3, 3, none⟩ (.slice (some ⟨gl, 0, none⟩) n c4)).setCell ⟨w.heap.size + 3, 4, none⟩ (.int .i64 (winA (ess rs) x.2.2 : Nat))) := ((((chg_set _ _ _).trans (chg_set _ _ _)).trans (chg_set _ _ _)).trans (chg_set _ _ _)).trans (chg_set _ _ _)
  generalize (((((X2.setCell ⟨w.heap.size + 3, 0, none⟩ (.slice (some ⟨gr, 0, none⟩) n c1)).setCell ⟨w.heap.size + 3, 1, none⟩ (.slice (some ⟨ga, 0, none⟩) n c2)).setCell ⟨w.heap.size + 3, 2, none⟩ (.slice (some ⟨gk, 0, none⟩) n c3)).setCell ⟨w.heap.size + 3, 3, none⟩ (.slice (some ⟨gl, 0, none⟩) n c4)).setCell ⟨w.heap.size + 3, 4, none⟩ (.int .i64 (winA (ess rs) x.2.2 : Nat))) = X3 at *
  have ke := (((hbx.e.chg m1 (by omega)).chg m2 (by omega)).chg m3 (by omega)).set (.int .i64 0)
  have m4 : Chg (fun k => k = w.heap.size + 4) X3 (X3.setCell ⟨w.heap.size + 4, 0, none⟩ (.int .i64 0)) := chg_set _ _ _
  generalize (X3.setCell ⟨w.heap.size + 4, 0, none⟩ (.int .i64 0)) = X4 at *
  have m : Chg (fun k => w.heap.size + 1 ≤ k ∧ k ≤ w.heap.size + 4) w5 X4 := (((m1.mono (fun k h => by omega)).trans (m2.mono (fun k h => by omega))).trans (m3.mono (fun k h => by omega))).trans (m4.mono (fun k h => by omega))
  have ho := hst.ord
  have hs2 := m.size
  have hs1 := hb.size
  refine ⟨⟨by omega, ?_, ?_⟩, rfl, x, gr, ga, gk, gl, c1, c2, c3, c4, by rw [hp]; rfl, ((kx.chg m2 (by omega)).chg m3 (by omega)).chg m4 (by omega), (kr.chg m3 (by omega)).chg m4 (by omega), kt.chg m4 (by omega), ke, by omega, ?_⟩
  · exact (m.block _ (by omega) (by omega)).trans (hb.block _ (by omega))
  · exact (m.block _ (by omega) (by omega)).trans (hb.block _ (by omega))
  · have h2 : StN w w5 gr ga gk gl rs x.2.2 := ⟨hst.runs, hst.ats, hst.keys, hst.lose, by omega, hbw⟩
    exact h2.chg m (fun k h => by omega) (fun k h => by omega)
theorem NO.up {O : Nat → Prop} {W W' : World} {A : Option Addr} (h : NO (fun _ => False) W A) (hs : W.heap.size ≤ W'.heap.size) (hO : ∀ k, k < W.heap.size → ¬ O k) : NO O W' A := fun b e => ⟨Nat.lt_of_lt_of_le (h b e).1 hs, hO _ (h b e).1⟩
theorem RdN.up {O : Nat → Prop} {W W' : World} {A K L R : Option Addr} {rs : List Rn} {a : List Int} (h : RdN (fun _ => False) W A K L R rs a) (hb : Below W.heap.size W W') (hO : ∀ k, k < W.heap.size → ¬ O k) : RdN O W' A K L R rs a :=
  ⟨h.ok.below hb (Nat.le_refl _), h.na.up hb.size hO, h.nk.up hb.size hO, h.nl.up hb.size hO, h.nr.up hb.size hO, fun r hr he => (h.ns r hr he).up hb.size hO⟩
set_option maxRecDepth 100000 in
set_option maxHeartbeats 8000000 in
theorem next_ok (R A K L : Option Addr) (cr ca ck cl n : Nat) (rs : List Rn) (a : List Int) (w : World) (hn : rs.length = n) (hg : Gd (ess rs) a) (hr : RdN (fun _ => False) w A K L R rs a) (hsr : SizedR rs) (hcp : CapR rs)
    (hck : ∀ w', Below w.heap.size w w' → Calls Try.prog 22 #[.agg #[.slice R n cr, .slice A n ca, .slice K n ck, .slice L n cl, .int .i64 (winA (ess rs) a : Nat)]] w' fun e w'' => e = .returned (.tuple #[.int .i64 0, .int .i64 0]) ∧ Below w'.heap.size w' w'') :
    Calls Try.prog 26 #[.agg #[.slice R n cr, .slice A n ca, .slice K n ck, .slice L n cl, .int .i64 (winA (ess rs) a : Nat)]] w (NextOut n rs a w) := by
  obtain ⟨w1, hw1, hbx, hsz, hb⟩ := boxNx11 (.slice R n cr) (.slice A n ca) (.slice K n ck) (.slice L n cl) (.int .i64 (winA (ess rs) a : Nat)) w
  have HCK := Lib.hid hck
  have HRD := Lib.hid hr
  have HG := Lib.hid hg
  have HN := Lib.hid hn
  have HSR := Lib.hid hsr
  have HCP := Lib.hid hcp
  have HBX := Lib.hid hbx
  have HB := Lib.hid hb
  have HSZ := Lib.hid hsz
  have x0 := hbx.s.c0
  have x1 := hbx.s.c1
  have x2 := hbx.s.c2
  have x3 := hbx.s.c3
  have x4 := hbx.s.c4
  clear hck hr hg hn hsr hcp hbx hsz hb
  obtain ⟨p, hp⟩ : ∃ p, winA (ess rs) a = p := ⟨_, rfl⟩
  have HP := Lib.hid hp
  rw [hp] at HCK HBX x4 hw1 ⊢
  clear hp
  obtain ⟨post, hpost⟩ : ∃ post, NextOut n rs a w = post := ⟨_, rfl⟩
  have HPOST := Lib.hid hpost
  rw [hpost]
  clear hpost
  refine (callsIn_wide (n := 9)).1 ?_
  refine callsIn_of_wp_marks Try.func26 rfl trivial ?_
  simp only [Try.ntmps26, List.size_toArray, List.length_cons, List.length_nil, Nat.reduceAdd, Nat.reduceSub, Array.replicate_succ, Array.replicate_zero, List.push_toArray, List.append_toArray, List.nil_append, List.cons_append]
  gi_wp2_with fail
  refine ⟨trivial, ?_⟩
  refine (callsIn_wide.2 (HCK.out _ HB.out)).mono ?_
  rintro e w2 ⟨rfl, hb⟩
  have HBX2 := Lib.hid (HBX.out.below hb (Nat.le_refl _))
  have HB2 := Lib.hid (eb_of HB.out hb (Nat.le_refl _))
  clear hb x0 x1 x2 x3 x4 hw1 HBX
  have x0 := HBX2.out.s.c0
  have x1 := HBX2.out.s.c1
  have x2 := HBX2.out.s.c2
  have x3 := HBX2.out.s.c3
  have x4 := HBX2.out.s.c4
  gi_wp2_with fail
  refine ⟨trivial, ?_⟩
  refine (callsIn_wide.2 (resume_any (.slice R n cr) (.slice A n ca) (.slice K n ck) (.slice L n cl) (.int .i64 (p : Int)) w2 ⟨_, _, _, rfl⟩ ⟨_, _, _, rfl⟩ ⟨_, _, _, rfl⟩ ⟨_, _, _, rfl⟩ ⟨_, rfl⟩)).mono ?_
  rintro e w3 ⟨rfl, hb⟩
  have HBX3 := Lib.hid (HBX2.out.below hb (Nat.le_refl _))
  have HB3 := Lib.hid (eb_of HB2.out hb (Nat.le_refl _))
  have HS3 : Hid (w.heap.size + 5 ≤ w3.heap.size) := Lib.hid (by have := HBX3.out.e.lt; omega)
  clear hb x0 x1 x2 x3 x4 HBX2
  gi_wp2_with fail
  refine ⟨trivial, ?_⟩
  refine (callsIn_wide.2 (rest_any (.slice A n ca) (.slice K n ck) (.slice L n cl) (.int .i64 (p : Int)) (.slice R n cr) w3)).mono ?_
  rintro e w4 ⟨rfl, hw4⟩
  have hb4 : Below w3.heap.size w3 w4 := hw4 ▸ alloc_below _ _
  have HBX4 := Lib.hid (HBX3.out.below hb4 (Nat.le_refl _))
  have HRB := Lib.hid (show Rw5 w4 w3.heap.size 83 (.slice A n ca) (.slice K n ck) (.slice L n cl) (.int .i64 (p : Int)) (.slice R n cr) from hw4 ▸ heap_alloc_new w3 _)
  have HB4 := Lib.hid (eb_of HB3.out hb4 (Nat.le_refl _))
  clear hb4 hw4 HBX3
  gi_wp2_with fail
  have hN : w.heap.size + 5 ≤ w4.heap.size ∧ w3.heap.size < w4.heap.size := ⟨by have := HBX4.out.e.lt; omega, HRB.out.lt⟩
  have HFR := Lib.hid (HPOST.out)
  refine range_ownV (n := 9) (ps := #[23, 24]) (gf := 78) (lb := #[.pointer (some ⟨w3.heap.size, 0, none⟩)]) ?hg (enters_of Try.func78 (by kernel_rfl) rfl)
    (encs := encR n R cr rs (fun _ k => k = w4.heap.size ∨ k = w4.heap.size + 1)) ?hps (mS (ess rs) a) (Kpt (fun _ k => k = w4.heap.size ∨ k = w4.heap.size + 1)) (NxI w w4 w.heap.size (.slice R n cr) (.slice A n ca) (.slice K n ck) (.slice L n cl) (.int .i64 (p : Int))) (NxX n rs w w4) (fun W => w4.heap.size + 2 ≤ W.heap.size) ?hIR
    ?hI ?hIx ?hKt ?hKb ?hKn ?h0 ?hseq (NxA n R cr rs w4.heap.size (fun q8 q9 q23 q24 => { tmps := #[.agg #[.slice R n cr, .slice A n ca, .slice K n ck, .slice L n cl, .int .i64 (p : Int)], .pointer (some ⟨w.heap.size, 0, none⟩), .pointer (some ⟨w.heap.size + 1, 0, none⟩), .pointer (some ⟨w.heap.size + 1 + 1, 0, none⟩), .pointer (some ⟨w.heap.size + 1 + 1 + 1, 0, none⟩), .pointer (some ⟨w.heap.size + 1 + 1 + 1 + 1, 0, none⟩), .int .i64 0, .int .i64 0, q8, q9, .tuple #[.int .i64 0, .int .i64 0], .agg #[.slice R n cr, .slice A n ca, .slice K n ck, .slice L n cl, .int .i64 (p : Int)], .tuple #[.int .i64 0, .int .i64 0], .int .i64 0, .int .i64 0, .int .i64 0, .bool false, undef, undef, undef, .agg #[.slice R n cr, .slice A n ca, .slice K n ck, .slice L n cl, .int .i64 (p : Int)], .agg #[.slice A n ca, .slice K n ck, .slice L n cl, .int .i64 (p : Int), .slice R n cr], .func (.func 78) #[] #[.pointer (some ⟨w3.heap.size, 0, none⟩)], q23, q24, undef, undef, undef, undef, undef, undef, undef, undef], defers := [] })) ?hAx ?hassign ?hbody ?hdone ?hstop
  case hg => rfl
  case hps =>
    rintro x vs W ⟨A', K', L', ca', ck', cl', rfl, h⟩
    rfl
  case hIR => exact fun _ _ _ h => h
  case hI => exact fun pre B B' row h hg hr => h.kept hN.1 (by omega) hg (fun r e => (hr r e).1)
  case hIx =>
    rintro c pre B B' row ⟨rfl, y, gr, ga, gk, gl, c1, c2, c3, c4, rfl, h1, h2, h3, h4, h5, h6⟩ hg hr
    have hc := cgr hg
    exact ⟨rfl, y, gr, ga, gk, gl, c1, c2, c3, c4, rfl, h1.chg hc (fun e => by have := hr _ e.symm; omega), h2.chg hc (fun e => by have := hr _ e.symm; omega), h3.chg hc (fun e => by have := hr _ e.symm; omega), h4.chg hc (fun e => by have := hr _ e.symm; omega), h5, h6.chg hc (fun k hk e => by have := hr _ e.symm; omega) (fun k e => by have := hr _ e.symm; have := HB4.out.size; omega)⟩
  case hKt => exact fun h g => Kpt.trans h g
  case hKb => exact fun B B' hg hs => ⟨⟨hg.os, hg.tape, hg.output, hg.size, fun k hk hn => hg.block k hk (fun e => hn (.inr (by injection e)))⟩, fun _ _ h => h⟩
  case hKn => exact fun B B' hg hs => ⟨⟨hg.os, hg.tape, hg.output, hg.size, fun k hk hn => hg.block k hk (fun e => by cases e)⟩, fun _ _ h => h⟩
  case h0 => exact ⟨rfl, HBX4.out, HB4.out, Nat.le_refl _⟩
  case hseq =>
    intro l J Jx W hsz hbl hJ hJR hY h0
    have hbw : Below w.heap.size w W := eb_of HB4.out hbl (Nat.le_refl _)
    have hrd : RdN (fun k => k = w4.heap.size ∨ k = w4.heap.size + 1) W A K L R rs a := HRD.out.up hbw (fun k hk e => by rcases e with e | e <;> omega)
    have hrb := HRB.out.below hbl (Nat.le_refl _)
    rw [← HP.out] at hrb
    exact rest1_any (9 - 1) l w3.heap.size n A K L R ca ck cl cr rs a W HN.out HG.out HSR.out (fun _ k => k = w4.heap.size ∨ k = w4.heap.size + 1) J Jx (fun pre B B' h hb => hJ pre B B' h (grown_of_below' hb))
      (fun pre B h k hk => by have := hJR pre B h; rcases hk with hk | hk <;> omega) (fun _ _ _ _ _ _ h => h) (fun pre x vs W1 hj hp he => yield_any' (hY pre x vs W1 hj hp he)) h0 hrb hrd
  case hAx =>
    rintro x a' B B' ⟨Bx, A', K', L', ca', ck', cl', hBx, h1, h2, h3, h4, ha⟩ hg
    have hc := cgr hg
    refine ⟨Bx, A', K', L', ca', ck', cl', hBx, h1.chg hc (by simp; omega), h2.chg hc (by simp; omega), h3.chg hc (fun k e => by simp at e; exact .inr e), h4, ha⟩
  case hassign =>
    rintro l pre x vs W Q hi ⟨A', K', L', ca', ck', cl', rfl, hrd, hgd⟩ hsz hQ
    obtain ⟨⟨xk, xv, xd, xq⟩, xr, xa⟩ := x
    simp only [nxtV]
    gi_wp2
    refine hQ _ _ ((World.grownBy_alloc W _ none).trans (World.grownBy_alloc _ _ none)) ⟨W.heap.size, A', K', L', ca', ck', cl', hsz, ?_, ?_, ?_, hgd, rfl⟩
    · exact (heap_alloc_old _ _ (by first | (simp; done) | (simp; omega))).trans (heap_alloc_new W _)
    · exact hp3 W _ _ rfl
    · exact hrd.below (alloc2_below W _ _) (Nat.le_refl _)
  case hbody =>
    rintro l pre x a' W hpre ⟨rfl, hbx, hbw, hsw⟩ hsz ⟨Bx, A', K', L', ca', ck', cl', hBx, hx, hrw, hrd, hgd, rfl⟩
    obtain ⟨⟨xk, xv, xd, xq⟩, xr, xa⟩ := x
    simp only at hx hrw hrd hgd
    have hFIN := Lib.hid (fun (w5 : World) (gr ga gk gl c1 c2 c3 c4 : Nat) (hb : Below W.heap.size W w5) (hst : StN W w5 gr ga gk gl rs xa) => nx_fin (n := n) (c1 := c1) (c2 := c2) (c3 := c3) (c4 := c4) (x := ((xk, xv, xd, xq), xr, xa)) (pre := []) rfl hN.1 hsz hb (hbx.below hb (Nat.le_refl _)) (hbw.trans (hb.mono hbw.size)) hst)
    obtain ⟨pw, hpw⟩ : ∃ pw, winA (ess rs) xa = pw := ⟨_, rfl⟩
    have J1 : Hid (∀ w', Below W.heap.size W w' → Calls Try.prog 46 #[.agg #[.slice A' n ca', .slice K' n ck', .slice L' n cl', .int .i64 (pw : Nat), .slice R n cr]] w' fun e w'' => ∃ gr ga gk gl c1 c2 c3 c4 : Nat, e = .returned (.agg #[.slice (some ⟨gr, 0, none⟩) n c1, .slice (some ⟨ga, 0, none⟩) n c2, .slice (some ⟨gk, 0, none⟩) n c3, .slice (some ⟨gl, 0, none⟩) n c4, .int .i64 (pw : Int)]) ∧ StN w' w'' gr ga gk gl rs xa) := Lib.hid (fun w' hb => by rw [← hpw]; exact state_new A' K' L' R n ca' ck' cl' cr rs xa w' HN.out hgd (hrd.ok.below hb (Nat.le_refl _)) HCP.out)
    simp only [hpw, nxtV] at hrw hFIN ⊢
    have HSW := Lib.hid (And.intro hsw hsz)
    have HBX := Lib.hid hbx
    have HX := Lib.hid hx
    have HRW := Lib.hid hrw
    have HN4 := Lib.hid hN
    have HF := Lib.hid (show ∀ w', Below W.heap.size W w' → NxB w' w.heap.size (.slice R n cr) (.slice A n ca) (.slice K n ck) (.slice L n cl) (.int .i64 (p : Int)) ∧ Rw5 w' Bx 91 (.string xk) (.string xv) (.bool xd) (.int .i64 xq) (.int .i64 (xr : Int)) from fun w' hb => ⟨hbx.below hb (Nat.le_refl _), hx.below hb (Nat.le_refl _)⟩)
    have HB0 := Lib.hid ((Below.refl W.heap.size W).drew)
    have x0 := hx.c0
    have x1 := hx.c1
    have x2 := hx.c2
    have x3 := hx.c3
    have x4 := hx.c4
    have y0 := hrw.c0
    have y1 := hrw.c1
    have y2 := hrw.c2
    have y3 := hrw.c3
    have y4 := hrw.c4
    have hmo : Try.prog.follows .mixedOrders = true := by kernel_rfl
    have hn1 : ¬ (Bx = w.heap.size + 1) := by omega
    have hn2 : ¬ (w.heap.size + 1 = Bx) := by omega
    have hn3 : ¬ (Bx + 1 = w.heap.size + 1) := by omega
    have hn4 : ¬ (w.heap.size + 1 = Bx + 1) := by omega
    have hn5 : ¬ (w.heap.size = Bx) := by omega
    clear hx hrw hrd hgd hbx hbw hsw hsz hpre hBx hN hpw
    gi_wp2_with fail
    gi_region_with (refine ⟨trivial, ?_⟩; refine (CallsIn.inRound l (callsIn_wide.2 (J1.out _ HB0.out))).mono ?_; rintro e w5 ⟨gr, ga, gk, gl, c1, c2, c3, c4, rfl, hst⟩; have hb5 := eb_of HB0.out hst.below (Nat.le_refl _); have HFN := Lib.hid (hFIN.out w5 gr ga gk gl c1 c2 c3 c4 hb5 ⟨hst.runs, hst.ats, hst.keys, hst.lose, hst.ord, hb5⟩); clear hst; obtain ⟨nb, nx⟩ := HF.out _ hb5; have z0 := nx.c0; have z1 := nx.c1; have z2 := nx.c2; have z3 := nx.c3; have z4 := nx.c4; have u0 := nb.x.c0; have u1 := nb.x.c1; have u2 := nb.x.c2; have u3 := nb.x.c3; have f0 := nb.x.fz 0; have f1 := nb.x.fz 1; have f2 := nb.x.fz 2; have f3 := nb.x.fz 3; have u4 := nb.r.c0; have f4 := nb.r.fz 0; have t0 := nb.t.c0; have t1 := nb.t.c1; have t2 := nb.t.c2; have t3 := nb.t.c3; have t4 := nb.t.c4; have g0 := nb.t.fz 0; have g1 := nb.t.fz 1; have g2 := nb.t.fz 2; have g3 := nb.t.fz 3; have g4 := nb.t.fz 4; have e0 := nb.e.c0; have e1 := nb.e.fz 0; clear nb nx hb5)
    all_goals
      gi_wp2_with fail
      simp only [roundEnd]
      exact HFN.out
  case hdone =>
    rintro D W hD1 hD2 ⟨hpre, hbx, hbw, hsw⟩ hK
    have hd := Lib.hid (nx_done HG.out hpre)
    have HD := Lib.hid hD1
    have HK := Lib.hid hK
    have HBX := Lib.hid hbx
    have HBW := Lib.hid hbw
    have HN4 := Lib.hid hN.1
    have u0 := hbx.x.c0; have u1 := hbx.x.c1; have u2 := hbx.x.c2; have u3 := hbx.x.c3; have f0 := hbx.x.fz 0; have f1 := hbx.x.fz 1; have f2 := hbx.x.fz 2; have f3 := hbx.x.fz 3; have u4 := hbx.r.c0; have f4 := hbx.r.fz 0; have t0 := hbx.t.c0; have t1 := hbx.t.c1; have t2 := hbx.t.c2; have t3 := hbx.t.c3; have t4 := hbx.t.c4; have g0 := hbx.t.fz 0; have g1 := hbx.t.fz 1; have g2 := hbx.t.fz 2; have g3 := hbx.t.fz 3; have g4 := hbx.t.fz 4; have e0 := hbx.e.c0; have e1 := hbx.e.fz 0
    clear hpre hbx hbw hsw hK hD1 hD2 hN
    gi_wp2_with fail
    obtain ⟨k1, z1, z2, z3, z4, z5⟩ := nx_fin0 (D := D) (by have := HN4.out; have := HD.out; omega) HBX.out HBW.out HK.out
    refine ⟨by simp, .inl ⟨_, _, rfl, run_takeDeferred k1, ?_⟩⟩
    refine ⟨.tuple #[.agg #[.string ⟨#[]⟩, .string ⟨#[]⟩, .bool false, .int .i64 0], .int .i64 0, .agg #[.slice none 0 0, .slice none 0 0, .slice none 0 0, .slice none 0 0, .int .i64 0], .int .i64 12], ?_, by rw [← HPOST.out]; exact .inl ⟨hd.out, rfl, z5⟩⟩
    have u0 := z1.c0; have u1 := z1.c1; have u2 := z1.c2; have u3 := z1.c3; have u4 := z2.c0; have t0 := z3.c0; have t1 := z3.c1; have t2 := z3.c2; have t3 := z3.c3; have t4 := z3.c4; have e0 := z4.c0
    simp [results, Try.f26, go_sem, u0, u1, u2, u3, u4, t0, t1, t2, t3, t4, e0]
  case hstop =>
    rintro D c' pre W hD1 hD2 hpre ⟨rfl, y, gr, ga, gk, gl, c1, c2, c3, c4, rfl, h1, h2, h3, h4, h5, h6⟩ hK
    obtain ⟨hd, rfl⟩ := nx_some HG.out hpre
    have HD := Lib.hid hd
    have hc : Chg (fun k => some k = some D) W (W.putObj D (.deferred none)) := cgr (grownBy_putObj' W D (.deferred none))
    have H6 := Lib.hid (h6.chg hc (fun k hk e => by simp at e; omega) (fun k e => by have := HB4.out.size; simp at e; omega))
    simp only at h1 h2 h3 h4
    have h1 := h1.chg hc (by simp; omega)
    have h2 := h2.chg hc (by simp; omega)
    have h3 := h3.chg hc (by simp; omega)
    have h4 := h4.chg hc (by simp; omega)
    have u0 := h1.c0; have u1 := h1.c1; have u2 := h1.c2; have u3 := h1.c3; have u4 := h2.c0; have t0 := h3.c0; have t1 := h3.c1; have t2 := h3.c2; have t3 := h3.c3; have t4 := h3.c4; have e0 := h4.c0
    clear h1 h2 h3 h4 h6 hd
    gi_wp2_with fail
    refine ⟨by simp, .inl ⟨_, _, rfl, run_takeDeferred hK, ?_⟩⟩
    refine ⟨.tuple #[.agg #[.string (entA (ess rs) a).1, .string (entA (ess rs) a).2.1, .bool (entA (ess rs) a).2.2.1, .int .i64 (entA (ess rs) a).2.2.2], .int .i64 (winA (ess rs) a : Nat), stV gr ga gk gl c1 c2 c3 c4 n (winA (ess rs) (nextA (ess rs) a)), .int .i64 0], ?_, by rw [← HPOST.out]; exact .inr ⟨HD.out, gr, ga, gk, gl, c1, c2, c3, c4, rfl, H6.out⟩⟩
    simp [results, stV, Try.f26, go_sem, u0, u1, u2, u3, u4, t0, t1, t2, t3, t4, e0]
end Go.Proofs.Ytebjhjmlpodkgaa.KK
