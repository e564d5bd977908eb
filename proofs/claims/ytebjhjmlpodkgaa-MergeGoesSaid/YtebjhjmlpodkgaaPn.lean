/-
  Merges: Check.
-/
import Derived.Test.YtebjhjmlpodkgaaPm
namespace Go.Proofs.Ytebjhjmlpodkgaa.KK
open Go.ChangeShapes Go.WideShapes Go.ChangeAt Go.RowKit Go.Proofs

/-- what is wrong with a state -/
def chkS (xss : List (List El.En)) (a : List Int) (ks : List LK) (ls : List Int) (win : Int) : Int × Int :=
  if (runsE xss).2 ≠ 0 then runsE xss else if (atE11 xss a).2 ≠ 0 then atE11 xss a else if nxB xss a ks ls win = false then (-1, 6) else ordE xss a
/-- a state lies there -/
structure StAt (w : World) (R A K L : Option Addr) (rs : List Rn) (a : List Int) (ks : List LK) (ls : List Int) : Prop where
  runs : RsAt w R rs
  ats : IsAt w A a
  keys : KsAt w K ks
  lose : IsAt w L ls
theorem StAt.below {B : Nat} {w w' : World} {R A K L : Option Addr} {rs : List Rn} {a : List Int} {ks : List LK} {ls : List Int} (h : StAt w R A K L rs a ks ls) (hb : Below B w w') (hB : w.heap.size ≤ B) : StAt w' R A K L rs a ks ls :=
  ⟨h.runs.below hb hB, h.ats.below hb hB, h.keys.below hb hB, h.lose.below hb hB⟩
structure StFit (rs : List Rn) (a : List Int) (ks : List LK) (ls : List Int) : Prop where
  n : rs.length ≤ 4294967295
  m : a.length ≤ 4294967295
  k : ks.length ≤ 4294967295
  l : ls.length ≤ 4294967295
  s : SizedR rs
  i : ∀ x ∈ a, -9223372036854775808 ≤ x ∧ x ≤ 9223372036854775807
set_option maxRecDepth 100000 in
set_option maxHeartbeats 4000000 in
theorem check11_any (R A K L : Option Addr) (cr ca ck cl : Nat) (rs : List Rn) (a : List Int) (ks : List LK) (ls : List Int) (win : Int) (w : World) (hst : StAt w R A K L rs a ks ls) (hft : StFit rs a ks ls) :
    Calls Try.prog 22 #[.agg #[.slice R rs.length cr, .slice A a.length ca, .slice K ks.length ck, .slice L ls.length cl, .int .i64 win]] w fun e w' => e = .returned (.tuple #[.int .i64 (chkS (ess rs) a ks ls win).1, .int .i64 (chkS (ess rs) a ks ls win).2]) ∧ Below w.heap.size w w' := by
  obtain ⟨W, hW⟩ : ∃ W, W = w.alloc (.cells #[.slice R rs.length cr, .slice A a.length ca, .slice K ks.length ck, .slice L ls.length cl, .int .i64 win] 30) := ⟨_, rfl⟩
  have hbW : Below w.heap.size w W := hW ▸ alloc_below _ _
  have HR0 : Hid (Rw5 W w.heap.size 30 (.slice R rs.length cr) (.slice A a.length ca) (.slice K ks.length ck) (.slice L ls.length cl) (.int .i64 win)) := Lib.hid (hW ▸ heap_alloc_new w _)
  have HST := Lib.hid (fun w' (hb : Below W.heap.size W w') => (hst.below hbW (Nat.le_refl _)).below hb (Nat.le_refl _))
  have HBW := Lib.hid hbW
  have HFT := Lib.hid hft
  have J1 := Lib.hid (fun w' (hb : Below W.heap.size W w') => pRuns_any R cr rs w' (HST.out w' hb).runs hft.n hft.s)
  have y0 := HR0.out.c0
  have y1 := HR0.out.c1
  have y2 := HR0.out.c2
  have y3 := HR0.out.c3
  have y4 := HR0.out.c4
  rw [hW] at y0 y1 y2 y3 y4
  clear hst hft hbW
  by_cases e1 : (runsE (ess rs)).2 = 0
  rotate_left
  · have HV : Hid (chkS (ess rs) a ks ls win = ((runsE (ess rs)).1, (runsE (ess rs)).2)) := Lib.hid (if_pos e1)
    obtain ⟨b1, b2⟩ := ne_b e1
    clear e1 HST HFT
    generalize chkS (ess rs) a ks ls win = res at *
    generalize (runsE (ess rs)).1 = r1 at *
    generalize (runsE (ess rs)).2 = r2 at *
    generalize rs.length = n1 at *
    generalize a.length = n2 at *
    generalize ks.length = n3 at *
    generalize ls.length = n4 at *
    go_enter Try.func22, Try.ntmps22
    go_wp2_with fail
    rw [← hW]
    clear hW y0 y1 y2 y3 y4
    refine (J1.out _ (Below.refl _ _)).mono ?_
    rintro e w1 ⟨rfl, hb⟩
    have HB1 := Lib.hid (eb_of HBW.out hb (Nat.le_refl _))
    clear hb
    go_wp2_with fail
    go_ret2
    exact ⟨retP HV.out rfl rfl, HB1.out⟩
  obtain ⟨h1, h32, hall, hre⟩ := runsE_ok e1
  rw [ess_len] at h1 h32
  rw [hre] at J1
  have J2 := Lib.hid (fun w' (hb : Below W.heap.size W w') => checkAt_any R A cr ca rs a w' (HST.out w' hb).runs (HST.out w' hb).ats (by omega) HFT.out.m (fun r hr => (list_ok (hall r.2.2 (by simp only [ess, List.mem_map]; exact ⟨r, hr, rfl⟩))).1) HFT.out.i)
  have HE1 := Lib.hid e1
  by_cases e2 : (atE11 (ess rs) a).2 = 0
  rotate_left
  · have HV : Hid (chkS (ess rs) a ks ls win = ((atE11 (ess rs) a).1, (atE11 (ess rs) a).2)) := Lib.hid (by unfold chkS; rw [if_neg (by rw [e1]; simp), if_pos e2])
    obtain ⟨b1, b2⟩ := ne_b e2
    clear e1 e2 HST HFT HE1 hre hall h1 h32
    generalize chkS (ess rs) a ks ls win = res at *
    generalize (atE11 (ess rs) a).1 = r1 at *
    generalize (atE11 (ess rs) a).2 = r2 at *
    generalize rs.length = n1 at *
    generalize a.length = n2 at *
    generalize ks.length = n3 at *
    generalize ls.length = n4 at *
    go_enter Try.func22, Try.ntmps22
    go_wp2_with fail
    rw [← hW]
    clear hW y0 y1 y2 y3 y4
    refine (J1.out _ (Below.refl _ _)).mono ?_
    rintro e w1 ⟨rfl, hb⟩
    have HB1 := Lib.hid hb
    have hr := HR0.out.below hb (Nat.le_refl _)
    have y0 := hr.c0
    have y1 := hr.c1
    clear hb hr
    go_wp2_with fail
    refine (J2.out _ HB1.out).mono ?_
    rintro e w2 ⟨rfl, hb⟩
    have HB2 := Lib.hid (eb_of HBW.out (eb_of HB1.out hb (Nat.le_refl _)) (Nat.le_refl _))
    clear hb y0 y1
    go_wp2_with fail
    go_ret2
    exact ⟨retP HV.out rfl rfl, HB2.out⟩
  obtain ⟨hae, hat⟩ := atE_ok e2
  rw [hae] at J2
  have hal : a.length = rs.length := by rw [hat.1, ess_len]
  have J3 := Lib.hid (fun w' (hb : Below W.heap.size W w') => isNext_any R A K L cr ca ck cl rs a ks ls win w' (HST.out w' hb).runs (HST.out w' hb).ats (HST.out w' hb).keys (HST.out w' hb).lose (by omega) HFT.out.s hat HFT.out.k HFT.out.l)
  have HV0 : Hid (chkS (ess rs) a ks ls win = if nxB (ess rs) a ks ls win = false then (-1, 6) else ordE (ess rs) a) := Lib.hid (by unfold chkS; rw [if_neg (by rw [e1]; simp), if_neg (by rw [e2]; simp)])
  cases e3 : nxB (ess rs) a ks ls win with
  | false =>
    rw [e3] at J3
    have HV : Hid (chkS (ess rs) a ks ls win = (-1, 6)) := Lib.hid (by rw [HV0.out, if_pos e3])
    clear e1 e2 e3 HST HFT HE1 hre hall h1 h32 hae hat hal HV0
    generalize chkS (ess rs) a ks ls win = res at *
    generalize rs.length = n1 at *
    generalize a.length = n2 at *
    generalize ks.length = n3 at *
    generalize ls.length = n4 at *
    go_enter Try.func22, Try.ntmps22
    go_wp2_with fail
    rw [← hW]
    clear hW y0 y1 y2 y3 y4
    refine (J1.out _ (Below.refl _ _)).mono ?_
    rintro e w1 ⟨rfl, hb⟩
    have HB1 := Lib.hid hb
    have hr := HR0.out.below hb (Nat.le_refl _)
    have y0 := hr.c0
    have y1 := hr.c1
    clear hb hr
    go_wp2_with fail
    refine (J2.out _ HB1.out).mono ?_
    rintro e w2 ⟨rfl, hb⟩
    have HB2 := Lib.hid (eb_of HB1.out hb (Nat.le_refl _))
    have hr := HR0.out.below HB2.out (Nat.le_refl _)
    clear hb y0 y1
    have y0 := hr.c0
    have y1 := hr.c1
    have y2 := hr.c2
    have y3 := hr.c3
    have y4 := hr.c4
    clear hr
    go_wp2_with fail
    refine (J3.out _ HB2.out).mono ?_
    rintro e w3 ⟨rfl, hb⟩
    have HB3 := Lib.hid (eb_of HBW.out (eb_of HB2.out hb (Nat.le_refl _)) (Nat.le_refl _))
    clear hb y0 y1 y2 y3 y4
    go_wp2_with fail
    go_ret2
    exact ⟨retP HV.out rfl rfl, HB3.out⟩
  | true =>
    rw [e3] at J3
    have HV : Hid (chkS (ess rs) a ks ls win = ((ordE (ess rs) a).1, (ordE (ess rs) a).2)) := Lib.hid (by rw [HV0.out, if_neg (by rw [e3]; simp)])
    have e3' := e3
    unfold nxB at e3'
    simp only [Bool.and_eq_true, decide_eq_true_eq] at e3'
    obtain ⟨hk, hc⟩ := e3'
    obtain ⟨_, hl, hwn, _⟩ := chkT_good hc
    rw [hk] at hl hwn
    have hg : Gd (ess rs) a := ⟨HE1.out, hat⟩
    have hkl : ks.length = rs.length := by rw [hk, hg.len, ess_len]
    have hll : ls.length = rs.length := by rw [hl, loL_len, hg.len, ess_len]
    have J4 := Lib.hid (fun w' (hb : Below W.heap.size W w') => by
      have q := order11_any R A K L cr ca ck cl rs.length rs a w' rfl hg ⟨(HST.out w' hb).ats, by have := (HST.out w' hb).keys; rw [hk] at this; exact this, by have := (HST.out w' hb).lose; rw [hl] at this; exact this, (HST.out w' hb).runs⟩
      rw [show ((winA (ess rs) a : Nat) : Int) = win from hwn.symm] at q
      exact q)
    rw [hal] at J2 J3 HR0 y1 ⊢
    rw [hkl] at J3 HR0 y2 ⊢
    rw [hll] at J3 HR0 y3 ⊢
    rw [hal, hkl, hll] at hW
    clear e1 e2 e3 HST HFT HE1 hre hall h1 h32 hae hat HV0 hk hc hl hwn hg
    generalize chkS (ess rs) a ks ls win = res at *
    generalize (ordE (ess rs) a).1 = r1 at *
    generalize (ordE (ess rs) a).2 = r2 at *
    clear hal hkl hll
    generalize rs.length = n1 at *
    go_enter Try.func22, Try.ntmps22
    go_wp2_with fail
    rw [← hW]
    clear hW y0 y1 y2 y3 y4
    refine (J1.out _ (Below.refl _ _)).mono ?_
    rintro e w1 ⟨rfl, hb⟩
    have HB1 := Lib.hid hb
    have hr := HR0.out.below hb (Nat.le_refl _)
    have y0 := hr.c0
    have y1 := hr.c1
    clear hb hr
    go_wp2_with fail
    refine (J2.out _ HB1.out).mono ?_
    rintro e w2 ⟨rfl, hb⟩
    have HB2 := Lib.hid (eb_of HB1.out hb (Nat.le_refl _))
    have hr := HR0.out.below HB2.out (Nat.le_refl _)
    clear hb y0 y1
    have y0 := hr.c0
    have y1 := hr.c1
    have y2 := hr.c2
    have y3 := hr.c3
    have y4 := hr.c4
    clear hr
    go_wp2_with fail
    refine (J3.out _ HB2.out).mono ?_
    rintro e w3 ⟨rfl, hb⟩
    have HB3 := Lib.hid (eb_of HB2.out hb (Nat.le_refl _))
    have hr := HR0.out.below HB3.out (Nat.le_refl _)
    clear hb y0 y1 y2 y3 y4
    have y0 := hr.c0
    have y1 := hr.c1
    have y2 := hr.c2
    have y3 := hr.c3
    have y4 := hr.c4
    clear hr
    go_wp2_with fail
    refine (J4.out _ HB3.out).mono ?_
    rintro e w4 ⟨rfl, hb⟩
    have HB4 := Lib.hid (eb_of HBW.out (eb_of HB3.out hb (Nat.le_refl _)) (Nat.le_refl _))
    clear hb y0 y1 y2 y3 y4
    go_wp2_with fail
    go_ret2
    exact ⟨retP HV.out rfl rfl, HB4.out⟩
end Go.Proofs.Ytebjhjmlpodkgaa.KK
