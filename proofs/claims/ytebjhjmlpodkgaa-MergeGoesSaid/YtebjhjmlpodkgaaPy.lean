/-
  Merges: All of runs that are wrong; entries that follow each other.
-/
import Derived.Test.YtebjhjmlpodkgaaPs
namespace Go.Proofs.Ytebjhjmlpodkgaa.KK
open Go.ChangeShapes Go.WideShapes Go.ChangeAt Go.RowKit Go.Proofs

set_option maxRecDepth 100000 in
set_option maxHeartbeats 2000000 in
theorem all_bad (R : Option Addr) (cr : Nat) (rs : List Rn) (w : World) (hf : RsAt w R rs) (hn : rs.length ≤ 4294967295) (hs : SizedR rs) (h : (runsE (ess rs)).2 ≠ 0) :
    Calls Try.prog 17 #[.slice R rs.length cr] w fun e w' => e = .returned (.tuple #[.slice none 0 0, .slice none 0 0, .int .i64 (runsE (ess rs)).2]) ∧ Below w.heap.size w w' := by
  have J := Lib.hid (fun w' (hb : Below w.heap.size w w') => pRuns_any R cr rs w' (hf.below hb (Nat.le_refl _)) hn hs)
  obtain ⟨b1, b2⟩ := ne_b h
  clear hf h hs
  generalize (runsE (ess rs)).1 = r1 at *
  generalize (runsE (ess rs)).2 = r2 at *
  generalize rs.length = n at *
  obtain ⟨w1, hw1⟩ : ∃ w1, (w.alloc (.cells #[.slice none 0 0] 34)).alloc (.cells #[.slice none 0 0] 25) = w1 := ⟨_, rfl⟩
  have HBA : Hid (Rw1 w1 w.heap.size 34 (.slice none 0 0)) := Lib.hid (hw1 ▸ hp2 w _ _)
  have HBB : Hid (Rw1 w1 (w.heap.size + 1) 25 (.slice none 0 0)) := Lib.hid (hw1 ▸ hp3 w _ _ rfl)
  have HB := Lib.hid (show Below w.heap.size w w1 from hw1 ▸ alloc2_below _ _ _)
  go_enter Try.func17, Try.ntmps17
  go_wp2_with fail
  refine (J.out _ HB.out).mono ?_
  rintro e w2 ⟨rfl, hb⟩
  have HA2 := Lib.hid (HBA.out.below hb (Nat.le_refl _))
  have HB2 := Lib.hid (HBB.out.below hb (Nat.le_refl _))
  have HE2 := Lib.hid (eb_of HB.out hb (Nat.le_refl _))
  clear hb hw1 HBA HBB HB
  have k0 := HA2.out.c0
  have k1 := HB2.out.c0
  have z0 := HA2.out.fz 0
  have z1 := HB2.out.fz 0
  go_wp2_with fail
  have e1 : Rw1 ((w2.setCell ⟨w.heap.size, 0, none⟩ (.slice none 0 0)).setCell ⟨w.heap.size + 1, 0, none⟩ (.slice none 0 0)) w.heap.size 34 (.slice none 0 0) := (HA2.out.set _).chg (chg_set _ _ _) (by omega)
  have e2 : Rw1 ((w2.setCell ⟨w.heap.size, 0, none⟩ (.slice none 0 0)).setCell ⟨w.heap.size + 1, 0, none⟩ (.slice none 0 0)) (w.heap.size + 1) 25 (.slice none 0 0) := (HB2.out.chg (chg_set _ _ _) (by omega)).set _
  have u0 := e1.c0
  have u1 := e2.c0
  refine bodyPost_ret (v := .tuple #[.slice none 0 0, .slice none 0 0, .int .i64 r2]) (by simp [results, Try.results17, go_sem, u0, u1]) rfl ?_
  exact ⟨rfl, (HE2.out.setCell (p := ⟨w.heap.size, 0, none⟩) (Nat.le_refl _) _).setCell (p := ⟨w.heap.size + 1, 0, none⟩) (by simp) _⟩
/-- of two entries that follow each other the first one comes before the other one -/
theorem mS_lx {xss : List (List El.En)} {a : List Int} (h : Gd xss a) (hv : Inv xss a) {k : Nat} (hk : k + 1 < (mS xss a).length) : lx (mS xss a)[k].1.1 (mS xss a)[k].2.1 (mS xss a)[k + 1].1.1 (mS xss a)[k + 1].2.1 := by
  have hl := h.mS_len
  rw [h.mS_get (by omega), h.mS_get hk]
  obtain ⟨g, e⟩ := h.pN (i := k) (by omega)
  have hd := h.pN_done (i := k) (by omega)
  obtain ⟨g1, e1⟩ := h.pN (i := k + 1) (by omega)
  have hd1 := h.pN_done (i := k + 1) (by omega)
  have q := h.pN_inv hv (i := k + 1) (by omega) (winA xss (pN xss a k)) (winA xss (pN xss a (k + 1))) g.win g1.win (by
    show 0 < aA (nextA xss (pN xss a k)) _
    rw [g.aA_next, if_pos rfl]; omega) (g1.live_win hd1)
  have e2 : lastK xss (pN xss a (k + 1)) (winA xss (pN xss a k)) = (entA xss (pN xss a k)).1 := g.last_win hd
  rw [e2, g1.key_ent hd1] at q
  exact q
end Go.Proofs.Ytebjhjmlpodkgaa.KK
