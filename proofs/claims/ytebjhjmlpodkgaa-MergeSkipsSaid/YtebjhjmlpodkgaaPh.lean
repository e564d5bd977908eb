/-
  Merges: Begin.
-/
import Derived.Test.YtebjhjmlpodkgaaPg
namespace Go.Proofs.Ytebjhjmlpodkgaa.KK
open Go.ChangeShapes Go.WideShapes Go.ChangeAt Go.RowKit Go.Proofs

/-- a state that is new -/
structure StN (w w' : World) (gr ga gk gl : Nat) (rs : List Rn) (a : List Int) : Prop where
  runs : CR w' gr (hdsV (rs.map clipR))
  ats : CR w' ga (intsV a)
  keys : CR w' gk (keysV (nks (ess rs) a))
  lose : CR w' gl (intsV (loL (nks (ess rs) a)))
  ord : w.heap.size ≤ gr ∧ gr < ga ∧ ga < gk ∧ gk < gl
  below : Below w.heap.size w w'
def stV (gr ga gk gl c1 c2 c3 c4 n : Nat) (win : Nat) : Value := .agg #[.slice (some ⟨gr, 0, none⟩) n c1, .slice (some ⟨ga, 0, none⟩) n c2, .slice (some ⟨gk, 0, none⟩) n c3, .slice (some ⟨gl, 0, none⟩) n c4, .int .i64 (win : Int)]
theorem state_new (A K L R : Option Addr) (n ca ck cl cr : Nat) (rs : List Rn) (a : List Int) (w : World) (hn : rs.length = n) (h : Gd (ess rs) a) (hr : RdOk w A K L R rs a) (hc : CapR rs) :
    Calls Try.prog 46 #[.agg #[.slice A n ca, .slice K n ck, .slice L n cl, .int .i64 (winA (ess rs) a : Nat), .slice R n cr]] w fun e w' => ∃ gr ga gk gl c1 c2 c3 c4 : Nat, e = .returned (stV gr ga gk gl c1 c2 c3 c4 n (winA (ess rs) a)) ∧ StN w w' gr ga gk gl rs a :=
  (state_any A K L R n ca ck cl cr rs a w hn h hr hc).mono fun _ _ ⟨gr, ga, gk, gl, c1, c2, c3, c4, he, ⟨h1, h2, h3, h4⟩, h5, h6⟩ => ⟨gr, ga, gk, gl, c1, c2, c3, c4, he, h1, h2, h3, h4, h5, h6⟩
set_option maxRecDepth 100000 in
set_option maxHeartbeats 2000000 in
theorem begin_bad (A : Option Addr) (c : Nat) (rs : List Rn) (w : World) (hf : RsAt w A rs) (hn : rs.length ≤ 4294967295) (hs : SizedR rs) (h : (runsE (ess rs)).2 ≠ 0) :
    Calls Try.prog 15 #[.slice A rs.length c] w fun e w' => e = .returned (.tuple #[.agg #[.slice none 0 0, .slice none 0 0, .slice none 0 0, .slice none 0 0, .int .i64 0], .int .i64 (runsE (ess rs)).1, .int .i64 (runsE (ess rs)).2]) ∧ Below w.heap.size w w' := by
  have J := Lib.hid (fun w' (hb : Below w.heap.size w w') => pRuns_any A c rs w' (hf.below hb (Nat.le_refl _)) hn hs)
  obtain ⟨b1, b2⟩ := ne_b h
  clear hf h hs
  generalize (runsE (ess rs)).1 = r1 at *
  generalize (runsE (ess rs)).2 = r2 at *
  generalize rs.length = n at *
  go_enter Try.func15, Try.ntmps15
  go_wp2_with fail
  refine (J.out _ (alloc_below _ _)).mono ?_
  rintro e w1 ⟨rfl, hb⟩
  have HR := Lib.hid (show Rw5 w1 w.heap.size 30 (.slice none 0 0) (.slice none 0 0) (.slice none 0 0) (.slice none 0 0) (.int .i64 0) from (hb.block _ (by simp)).trans (heap_alloc_new w _))
  have HB1 := Lib.hid ((alloc_below w _).trans (hb.mono (by simp)))
  clear hb
  have k0 := HR.out.c0
  have k1 := HR.out.c1
  have k2 := HR.out.c2
  have k3 := HR.out.c3
  have k4 := HR.out.c4
  have z0 := HR.out.fz 0
  have z1 := HR.out.fz 1
  have z2 := HR.out.fz 2
  have z3 := HR.out.fz 3
  have z4 := HR.out.fz 4
  go_wp2_with fail
  have HX := Lib.hid (HR.out.set (.slice none 0 0) (.slice none 0 0) (.slice none 0 0) (.slice none 0 0) (.int .i64 0))
  have e0 := HX.out.c0
  have e1 := HX.out.c1
  have e2 := HX.out.c2
  have e3 := HX.out.c3
  have e4 := HX.out.c4
  refine bodyPost_ret (v := .tuple #[.agg #[.slice none 0 0, .slice none 0 0, .slice none 0 0, .slice none 0 0, .int .i64 0], .int .i64 r1, .int .i64 r2]) (by simp [results, Try.results15, go_sem, e0, e1, e2, e3, e4]) rfl ?_
  have hcF := set5C w1 w.heap.size (.slice none 0 0) (.slice none 0 0) (.slice none 0 0) (.slice none 0 0) (.int .i64 0)
  exact ⟨rfl, HB1.out.trans (hcF.below (fun k hk => by omega) HB1.out.size)⟩
set_option maxRecDepth 100000 in
set_option maxHeartbeats 2000000 in
theorem begin_ok (A : Option Addr) (c : Nat) (rs : List Rn) (w : World) (hf : RsAt w A rs) (hs : SizedR rs) (hc : CapR rs) (h : (runsE (ess rs)).2 = 0) :
    Calls Try.prog 15 #[.slice A rs.length c] w fun e w' => ∃ gr ga gk gl c1 c2 c3 c4 : Nat, e = .returned (.tuple #[stV gr ga gk gl c1 c2 c3 c4 rs.length (winA (ess rs) (zerosA rs.length)), .int .i64 0, .int .i64 0]) ∧ StN w w' gr ga gk gl rs (zerosA rs.length) := by
  have hg := Gd.zeros h
  have h1 := hg.len1
  have J := Lib.hid (fun w' (hb : Below w.heap.size w w') => by have K := pRuns_any A c rs w' (hf.below hb (Nat.le_refl _)) (by omega) hs; rw [(runsE_ok h).2.2.2] at K; exact K)
  have JS := Lib.hid (fun w' (hb : Below w.heap.size w w') => start_any A c rs w' (hf.below hb (Nat.le_refl _)) hs h)
  obtain ⟨n, hnn⟩ : ∃ n, rs.length = n := ⟨_, rfl⟩
  have JT := Lib.hid (fun (A K L R : Option Addr) (ca ck cl cr : Nat) (w' : World) (hr : RdOk w' A K L R rs (zerosA rs.length)) => state_new A K L R n ca ck cl cr rs (zerosA rs.length) w' hnn hg hr hc)
  clear hf hs hc h hg
  rw [hnn] at J JS JT h1 ⊢
  clear hnn
  generalize zerosA n = z at *
  generalize winA (ess rs) z = wv at *
  go_enter Try.func15, Try.ntmps15
  go_wp2_with fail
  refine (J.out _ (alloc_below _ _)).mono ?_
  rintro e w1 ⟨rfl, hb⟩
  have HR := Lib.hid (show Rw5 w1 w.heap.size 30 (.slice none 0 0) (.slice none 0 0) (.slice none 0 0) (.slice none 0 0) (.int .i64 0) from (hb.block _ (by simp)).trans (heap_alloc_new w _))
  have HB1 := Lib.hid ((alloc_below w _).trans (hb.mono (by simp)))
  clear hb J
  go_wp2_with fail
  refine (JS.out _ HB1.out).mono ?_
  rintro e w2 ⟨ab, kb, lb, ca, ck, cl, rfl, hrd⟩
  have HRD := Lib.hid hrd.ok
  have HR2 := Lib.hid (HR.out.below hrd.below (Nat.le_refl _))
  have HB2 := Lib.hid (eb_of HB1.out hrd.below (Nat.le_refl _))
  clear hrd HR HB1 JS
  go_wp2_with fail
  refine (JT.out _ _ _ _ ca ck cl c _ HRD.out).mono ?_
  rintro e w3 ⟨gr, ga, gk, gl, c1, c2, c3, c4, rfl, hst⟩
  have HST := Lib.hid hst
  have HR := Lib.hid (HR2.out.below hst.below (Nat.le_refl _))
  have HB3 := Lib.hid (eb_of HB2.out hst.below (Nat.le_refl _))
  have HW2 : Hid (w.heap.size < w2.heap.size) := Lib.hid HR2.out.lt
  clear hst HR2 JT HRD
  unfold stV
  have k0 := HR.out.c0
  have k1 := HR.out.c1
  have k2 := HR.out.c2
  have k3 := HR.out.c3
  have k4 := HR.out.c4
  have z0 := HR.out.fz 0
  have z1 := HR.out.fz 1
  have z2 := HR.out.fz 2
  have z3 := HR.out.fz 3
  have z4 := HR.out.fz 4
  go_wp2_with fail
  have HX := Lib.hid (HR.out.set (.slice (some ⟨gr, 0, none⟩) n c1) (.slice (some ⟨ga, 0, none⟩) n c2) (.slice (some ⟨gk, 0, none⟩) n c3) (.slice (some ⟨gl, 0, none⟩) n c4) (.int .i64 (wv : Int)))
  have e0 := HX.out.c0
  have e1 := HX.out.c1
  have e2 := HX.out.c2
  have e3 := HX.out.c3
  have e4 := HX.out.c4
  refine bodyPost_ret (v := .tuple #[stV gr ga gk gl c1 c2 c3 c4 n wv, .int .i64 0, .int .i64 0]) (by simp [results, Try.results15, go_sem, stV, e0, e1, e2, e3, e4]) rfl ?_
  have hcF := set5C w3 w.heap.size (.slice (some ⟨gr, 0, none⟩) n c1) (.slice (some ⟨ga, 0, none⟩) n c2) (.slice (some ⟨gk, 0, none⟩) n c3) (.slice (some ⟨gl, 0, none⟩) n c4) (.int .i64 (wv : Int))
  obtain ⟨o1, o2, o3, o4⟩ := HST.out.ord
  have q := HW2.out
  exact ⟨gr, ga, gk, gl, c1, c2, c3, c4, rfl, HST.out.runs.chg hcF (by omega), HST.out.ats.chg hcF (by omega), HST.out.keys.chg hcF (by omega), HST.out.lose.chg hcF (by omega), ⟨by omega, o2, o3, o4⟩, HB3.out.trans (hcF.below (fun k hk => by omega) HB3.out.size)⟩
end Go.Proofs.Ytebjhjmlpodkgaa.KK
