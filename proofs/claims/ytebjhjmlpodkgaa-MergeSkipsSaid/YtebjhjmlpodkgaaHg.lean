/-
  Merges: the reference's Same of equal states.
-/
import Derived.Test.YtebjhjmlpodkgaaPn
import Derived.Test.YtebjhjmlpodkgaaHa
import Derived.Test.YtebjhjmlpodkgaaLn
namespace Go.Proofs.Ytebjhjmlpodkgaa.KK
open Go.ChangeShapes Go.WideShapes Go.ChangeAt Go.RowKit Go.Proofs

set_option maxRecDepth 100000 in
set_option maxHeartbeats 4000000 in
theorem same11_eq (R R' A A' K K' L L' : Option Addr) (cr cr' ca ca' ck ck' cl cl' : Nat) (rs rs' : List Rn) (a : List Int) (ks : List LK) (ls : List Int) (win : Int) (w : World) (he : ess rs = ess rs') (hst : StAt w R A K L rs a ks ls) (hst' : StAt w R' A' K' L' rs' a ks ls) (hft : StFit rs a ks ls) :
    Calls Try.prog 19 #[.agg #[.slice R rs.length cr, .slice A a.length ca, .slice K ks.length ck, .slice L ls.length cl, .int .i64 win], .agg #[.slice R' rs.length cr', .slice A' a.length ca', .slice K' ks.length ck', .slice L' ls.length cl', .int .i64 win]] w fun e w' => e = .returned (.bool true) ∧ Below w.heap.size w w' := by
  have hlen : rs'.length = rs.length := by have := congrArg List.length he; simpa [ess] using this.symm
  obtain ⟨W, hW⟩ : ∃ W, (w.alloc (.cells #[.slice R rs.length cr, .slice A a.length ca, .slice K ks.length ck, .slice L ls.length cl, .int .i64 win] 30)).alloc (.cells #[.slice R' rs.length cr', .slice A' a.length ca', .slice K' ks.length ck', .slice L' ls.length cl', .int .i64 win] 30) = W := ⟨_, rfl⟩
  have hbW : Below w.heap.size w W := hW ▸ alloc2_below _ _ _
  have H1 : Hid (Rw5 W w.heap.size 30 (.slice R rs.length cr) (.slice A a.length ca) (.slice K ks.length ck) (.slice L ls.length cl) (.int .i64 win)) := Lib.hid (hW ▸ hp2 w _ _)
  have H2 : Hid (Rw5 W (w.heap.size + 1) 30 (.slice R' rs.length cr') (.slice A' a.length ca') (.slice K' ks.length ck') (.slice L' ls.length cl') (.int .i64 win)) := Lib.hid (hW ▸ hp3 w _ _ rfl)
  have HB := Lib.hid hbW
  have J1 := Lib.hid (fun w' (hb : Below W.heap.size W w') => ints_eq A A' ca ca' a w' ((hst.ats.below hbW (Nat.le_refl _)).below hb (Nat.le_refl _)) ((hst'.ats.below hbW (Nat.le_refl _)).below hb (Nat.le_refl _)) hft.m)
  have J2 := Lib.hid (fun w' (hb : Below W.heap.size W w') => same_eq K K' L L' ck ck' cl cl' ks ls win w' ((hst.keys.below hbW (Nat.le_refl _)).below hb (Nat.le_refl _)) ((hst'.keys.below hbW (Nat.le_refl _)).below hb (Nat.le_refl _)) ((hst.lose.below hbW (Nat.le_refl _)).below hb (Nat.le_refl _)) ((hst'.lose.below hbW (Nat.le_refl _)).below hb (Nat.le_refl _)) hft.k hft.l)
  have HR1 := Lib.hid (hst.runs.below hbW (Nat.le_refl _))
  have HR2 := Lib.hid (hst'.runs.below hbW (Nat.le_refl _))
  have HE : Hid (∀ i (h : i < rs.length) (h' : i < rs'.length), rs[i].2.2 = rs'[i].2.2) := Lib.hid (fun i h h' => by
    rw [← ess_get h, ← ess_get h']; simp only [he])
  have HS := Lib.hid hft.s
  have hn4 := hft.n
  have HLN := Lib.hid hlen
  clear hst hst' hft he hlen hbW
  obtain ⟨n, hn⟩ : ∃ n, rs.length = n := ⟨_, rfl⟩
  have HN := Lib.hid hn
  rw [hn] at H1 H2 HLN hn4 hW ⊢
  clear hn
  generalize a.length = an at *
  generalize ks.length = kn at *
  generalize ls.length = ln at *
  have x0 := H1.out.c0
  have x1 := H1.out.c1
  have x2 := H1.out.c2
  have x3 := H1.out.c3
  have x4 := H1.out.c4
  have y0 := H2.out.c0
  have y1 := H2.out.c1
  have y2 := H2.out.c2
  have y3 := H2.out.c3
  have y4 := H2.out.c4
  go_enter Try.func19, Try.ntmps19
  go_wp2_with fail
  refine (J1.out _ (Below.refl _ _)).mono ?_
  rintro e w1 ⟨rfl, hb⟩
  have HB1 := Lib.hid hb
  have G1 := Lib.hid (H1.out.below hb (Nat.le_refl _))
  have G2 := Lib.hid (H2.out.below hb (Nat.le_refl _))
  clear hb x0 x1 x2 x3 x4 y0 y1 y2 y3 y4 hW
  have x0 := G1.out.c0
  have x2 := G1.out.c2
  have x3 := G1.out.c3
  have x4 := G1.out.c4
  have y2 := G2.out.c2
  have y3 := G2.out.c3
  have y4 := G2.out.c4
  go_wp2_with fail
  refine (J2.out _ HB1.out).mono ?_
  rintro e w2 ⟨rfl, hb⟩
  have HB2 := Lib.hid (eb_of HB1.out hb (Nat.le_refl _))
  have G3 := Lib.hid (G1.out.below hb (Nat.le_refl _))
  have G4 := Lib.hid (G2.out.below hb (Nat.le_refl _))
  have HBX := Lib.hid (eb_of HB.out HB2.out (Nat.le_refl _))
  clear hb x0 x2 x3 x4 y2 y3 y4 G1 G2 J1 J2
  go_wp2_with fail
  go_loopw [5] (fun i wr => ∃ k : Nat, k ≤ n ∧ i = .int .i64 k ∧ Hid (Below w2.heap.size w2 wr)) (fun i _ => n - (intOf i).toNat)
  case atStart => exact ⟨0, Nat.zero_le _, rfl, Lib.hid (Below.refl _ _)⟩
  case round =>
    obtain ⟨k, hk, rfl, HH⟩ := hrel
    have g3 := G3.out.below HH.out (Nat.le_refl _)
    have g4 := G4.out.below HH.out (Nat.le_refl _)
    have x0 := g3.c0
    have y0 := g4.c0
    by_cases hlt : k < n
    rotate_left
    · clear g3 g4
      go_wp2_with fail
      go_ret
      exact ⟨rfl, eb_of HBX.out HH.out (Nat.le_refl _)⟩
    have hk1 : k < rs.length := by rw [HN.out]; exact hlt
    have hk2 : k < rs'.length := by rw [HLN.out]; exact hlt
    have hb2 := eb_of HB2.out HH.out (Nat.le_refl _)
    have r1 := HR1.out.below hb2 (Nat.le_refl _)
    have r2 := HR2.out.below hb2 (Nat.le_refl _)
    rcases r1 with h0 | ⟨b1, o1, rfl, hl1, hc1⟩
    · rw [h0] at hk1; simp at hk1
    rcases r2 with h0 | ⟨b2, o2, rfl, hl2, hc2⟩
    · rw [h0] at hk2; simp at hk2
    obtain ⟨c1, e1⟩ := hc1 k hk1
    obtain ⟨c2, e2⟩ := hc2 k hk2
    have hee := HE.out k hk1 hk2
    have hsz := (HS.out _ (List.getElem_mem hk1)).1
    have JE := Lib.hid (fun p : Abv wr => by
      have K := sameE_any rs[k].1 rs'[k].1 rs[k].2.1 rs'[k].2.1 rs[k].2.2 rs'[k].2.2 p.world (e1.below p.h (Nat.le_refl _)) (e2.below p.h (Nat.le_refl _)) (by omega) (by rw [← hee]; omega)
      rw [decide_eq_true hee] at K
      exact K)
    have z1 := abv_cell hl1 c1
    have z2 := abv_cell hl2 c2
    have u1 := abv_cell g3.lt x0
    have u2 := abv_cell g4.lt y0
    have hki : (k : Int) < (n : Int) := by omega
    clear hc1 hc2 c1 c2 e1 e2 hee hsz g3 g4 hb2
    go_wp2_with fail
    refine wp_region_abv (by first | assumption | kernel_rfl) (by kernel_rfl) ?_
    repeat (first | go_big_quiet_step (exact callAbv (JE.out _)) | quiet_step (exact callAbv (JE.out _)))
    refine wpQuiet_nil ?_
    intro w3 hw3
    obtain ⟨p, rfl⟩ := hw3
    go_wp2_with fail
    go_roundw
    case rel => exact ⟨k + 1, by omega, by go_num, Lib.hid (eb_of HH.out p.h (Nat.le_refl _))⟩
    case measure => simp [intOf]; omega
end Go.Proofs.Ytebjhjmlpodkgaa.KK
