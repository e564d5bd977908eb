/-
  Merges: readings; whether one is done, its first entry.
-/
import Derived.Test.YtebjhjmlpodkgaaPc
import Derived.StillTailTactics
import Derived.Deep.RegionHeld3
namespace Go.Proofs.Ytebjhjmlpodkgaa.KK
open Go.ChangeShapes Go.WideShapes Go.ChangeAt Go.RowKit Go.Proofs

def Rw4 (W : World) (B : Nat) (t : TypeId) (v0 v1 v2 v3 : Value) : Prop := W.heap[B]? = some (.cells #[v0, v1, v2, v3] t (0, 0))
section
variable {W W' : World} {B : Nat} {t : TypeId} {v0 v1 v2 v3 : Value}
theorem Rw4.lt (h : Rw4 W B t v0 v1 v2 v3) : B < W.heap.size := (Array.getElem?_eq_some_iff.1 h).1
theorem Rw4.c0 (h : Rw4 W B t v0 v1 v2 v3) : W.cell? ⟨B, 0, none⟩ = some v0 := by unfold Rw4 at h; simp [World.cell?, h]
theorem Rw4.c1 (h : Rw4 W B t v0 v1 v2 v3) : W.cell? ⟨B, 1, none⟩ = some v1 := by unfold Rw4 at h; simp [World.cell?, h]
theorem Rw4.c2 (h : Rw4 W B t v0 v1 v2 v3) : W.cell? ⟨B, 2, none⟩ = some v2 := by unfold Rw4 at h; simp [World.cell?, h]
theorem Rw4.c3 (h : Rw4 W B t v0 v1 v2 v3) : W.cell? ⟨B, 3, none⟩ = some v3 := by unfold Rw4 at h; simp [World.cell?, h]
theorem Rw4.fz (h : Rw4 W B t v0 v1 v2 v3) (i : Nat) : W.frozen? ⟨B, i, none⟩ = false := by unfold Rw4 at h; simp [World.frozen?, h]
theorem Rw4.set (h : Rw4 W B t v0 v1 v2 v3) (u0 u1 u2 u3 : Value) : Rw4 ((((W.setCell ⟨B, 0, none⟩ u0).setCell ⟨B, 1, none⟩ u1).setCell ⟨B, 2, none⟩ u2).setCell ⟨B, 3, none⟩ u3) B t u0 u1 u2 u3 := by
  unfold Rw4 at h ⊢; simp [World.setCell, Array.getElem?_modify, h]
theorem Rw4.below {n : Nat} (h : Rw4 W B t v0 v1 v2 v3) (hb : Below n W W') (hn : W.heap.size ≤ n) : Rw4 W' B t v0 v1 v2 v3 := (hb.block B (Nat.lt_of_lt_of_le h.lt hn)).trans h
theorem Rw4.chg {S : Nat → Prop} (h : Rw4 W B t v0 v1 v2 v3) (hg : Chg S W W') (hn : ¬ S B) : Rw4 W' B t v0 v1 v2 v3 := (hg.block B h.lt hn).trans h
end
def Rw5 (W : World) (B : Nat) (t : TypeId) (v0 v1 v2 v3 v4 : Value) : Prop := W.heap[B]? = some (.cells #[v0, v1, v2, v3, v4] t (0, 0))
section
variable {W W' : World} {B : Nat} {t : TypeId} {v0 v1 v2 v3 v4 : Value}
theorem Rw5.lt (h : Rw5 W B t v0 v1 v2 v3 v4) : B < W.heap.size := (Array.getElem?_eq_some_iff.1 h).1
theorem Rw5.c0 (h : Rw5 W B t v0 v1 v2 v3 v4) : W.cell? ⟨B, 0, none⟩ = some v0 := by unfold Rw5 at h; simp [World.cell?, h]
theorem Rw5.c1 (h : Rw5 W B t v0 v1 v2 v3 v4) : W.cell? ⟨B, 1, none⟩ = some v1 := by unfold Rw5 at h; simp [World.cell?, h]
theorem Rw5.c2 (h : Rw5 W B t v0 v1 v2 v3 v4) : W.cell? ⟨B, 2, none⟩ = some v2 := by unfold Rw5 at h; simp [World.cell?, h]
theorem Rw5.c3 (h : Rw5 W B t v0 v1 v2 v3 v4) : W.cell? ⟨B, 3, none⟩ = some v3 := by unfold Rw5 at h; simp [World.cell?, h]
theorem Rw5.c4 (h : Rw5 W B t v0 v1 v2 v3 v4) : W.cell? ⟨B, 4, none⟩ = some v4 := by unfold Rw5 at h; simp [World.cell?, h]
theorem Rw5.fz (h : Rw5 W B t v0 v1 v2 v3 v4) (i : Nat) : W.frozen? ⟨B, i, none⟩ = false := by unfold Rw5 at h; simp [World.frozen?, h]
theorem Rw5.set (h : Rw5 W B t v0 v1 v2 v3 v4) (u0 u1 u2 u3 u4 : Value) : Rw5 (((((W.setCell ⟨B, 0, none⟩ u0).setCell ⟨B, 1, none⟩ u1).setCell ⟨B, 2, none⟩ u2).setCell ⟨B, 3, none⟩ u3).setCell ⟨B, 4, none⟩ u4) B t u0 u1 u2 u3 u4 := by
  unfold Rw5 at h ⊢; simp [World.setCell, Array.getElem?_modify, h]
theorem Rw5.set4 (h : Rw5 W B t v0 v1 v2 v3 v4) (u0 u1 u2 u3 : Value) : Rw5 ((((W.setCell ⟨B, 0, none⟩ u0).setCell ⟨B, 1, none⟩ u1).setCell ⟨B, 2, none⟩ u2).setCell ⟨B, 3, none⟩ u3) B t u0 u1 u2 u3 v4 := by
  unfold Rw5 at h ⊢; simp [World.setCell, Array.getElem?_modify, h]
theorem Rw5.below {n : Nat} (h : Rw5 W B t v0 v1 v2 v3 v4) (hb : Below n W W') (hn : W.heap.size ≤ n) : Rw5 W' B t v0 v1 v2 v3 v4 := (hb.block B (Nat.lt_of_lt_of_le h.lt hn)).trans h
theorem Rw5.chg {S : Nat → Prop} (h : Rw5 W B t v0 v1 v2 v3 v4) (hg : Chg S W W') (hn : ¬ S B) : Rw5 W' B t v0 v1 v2 v3 v4 := (hg.block B h.lt hn).trans h
end
theorem set5C (W : World) (g : Nat) (a b c d e : Value) : Chg (fun k => k = g) W (((((W.setCell ⟨g, 0, none⟩ a).setCell ⟨g, 1, none⟩ b).setCell ⟨g, 2, none⟩ c).setCell ⟨g, 3, none⟩ d).setCell ⟨g, 4, none⟩ e) :=
  ((((chg_set g 0 a).trans (chg_set g 1 b)).trans (chg_set g 2 c)).trans (chg_set g 3 d)).trans (chg_set g 4 e)
theorem set4C (W : World) (g : Nat) (a b c d : Value) : Chg (fun k => k = g) W ((((W.setCell ⟨g, 0, none⟩ a).setCell ⟨g, 1, none⟩ b).setCell ⟨g, 2, none⟩ c).setCell ⟨g, 3, none⟩ d) :=
  (((chg_set g 0 a).trans (chg_set g 1 b)).trans (chg_set g 2 c)).trans (chg_set g 3 d)
/-- a reading lies there: its numbers, its tree's keys and losers, its runs -/
structure RdOk (w : World) (A K L R : Option Addr) (rs : List Rn) (a : List Int) : Prop where
  ats : IsAt w A a
  keys : KsAt w K (nks (ess rs) a)
  lose : IsAt w L (loL (nks (ess rs) a))
  runs : RsAt w R rs
theorem RdOk.below {B : Nat} {w w' : World} {A K L R : Option Addr} {rs : List Rn} {a : List Int} (h : RdOk w A K L R rs a) (hb : Below B w w') (hB : w.heap.size ≤ B) : RdOk w' A K L R rs a :=
  ⟨h.ats.below hb hB, h.keys.below hb hB, h.lose.below hb hB, h.runs.below hb hB⟩
theorem Gd.len1 {rs : List Rn} {a : List Int} (h : Gd (ess rs) a) : 1 ≤ rs.length ∧ rs.length ≤ 32 := by have := h.one; rwa [ess_len] at this
set_option maxRecDepth 100000 in
set_option maxHeartbeats 1000000 in
theorem isDone_any (A K L R : Option Addr) (n ca ck cl cr : Nat) (rs : List Rn) (a : List Int) (w : World) (hn : rs.length = n) (h : Gd (ess rs) a) (hr : RdOk w A K L R rs a) :
    Calls Try.prog 79 #[.agg #[.slice A n ca, .slice K n ck, .slice L n cl, .int .i64 (winA (ess rs) a : Nat), .slice R n cr]] w fun e w' => e = .returned (.bool (doneB (ess rs) a)) ∧ Below w.heap.size w w' := by
  have hb0 := alloc_below w (.cells #[.slice A n ca, .slice K n ck, .slice L n cl, .int .i64 (winA (ess rs) a : Nat), .slice R n cr] 83)
  have hk := hr.keys.below hb0 (Nat.le_refl _)
  have hl := h.len
  rw [ess_len, hn] at hl
  have hw := h.win
  rw [ess_len, hn] at hw
  have h1 := h.len1
  rw [hn] at h1
  rcases hk with h0 | ⟨b, off, rfl, hbl, hc⟩
  · rw [h0] at hl; simp at hl; omega
  obtain ⟨g0, g1⟩ := hc (winA (ess rs) a) (by rw [hl]; exact hw)
  have hd : (nks (ess rs) a)[winA (ess rs) a]'(by rw [hl]; exact hw) = kAt (nks (ess rs) a) (winA (ess rs) a) := (kAt_lt (by rw [hl]; exact hw)).symm
  rw [hd] at g1
  have HD : Hid ((kAt (nks (ess rs) a) (winA (ess rs) a)).2 = doneB (ess rs) a) := Lib.hid rfl
  rw [HD.out] at g1
  have HB := Lib.hid hb0
  clear hc g0 hd hr hb0 h hl HD
  generalize doneB (ess rs) a = d at *
  generalize winA (ess rs) a = p at *
  have l1 : (p : Int) < (n : Int) := by omega
  have l0 : (0 : Int) ≤ (p : Int) := by omega
  go_enter Try.func79, Try.ntmps79
  go_wp2_with fail
  go_ret
  exact ⟨rfl, HB.out⟩
set_option maxRecDepth 100000 in
set_option maxHeartbeats 2000000 in
theorem first_any (A K L R : Option Addr) (n ca ck cl cr : Nat) (rs : List Rn) (a : List Int) (w : World) (hn : rs.length = n) (h : Gd (ess rs) a) (hd : doneB (ess rs) a = false) (hr : RdOk w A K L R rs a) :
    Calls Try.prog 80 #[.agg #[.slice A n ca, .slice K n ck, .slice L n cl, .int .i64 (winA (ess rs) a : Nat), .slice R n cr]] w fun e w' => e = .returned (.agg #[.string (entA (ess rs) a).1, .string (entA (ess rs) a).2.1, .bool (entA (ess rs) a).2.2.1, .int .i64 (entA (ess rs) a).2.2.2, .int .i64 (winA (ess rs) a : Nat)]) ∧ Below w.heap.size w w' := by
  have hb0 := alloc_below w (.cells #[.slice A n ca, .slice K n ck, .slice L n cl, .int .i64 (winA (ess rs) a : Nat), .slice R n cr] 83)
  have hz : (w.alloc (.cells #[.slice A n ca, .slice K n ck, .slice L n cl, .int .i64 (winA (ess rs) a : Nat), .slice R n cr] 83)).heap.size = w.heap.size + 1 := by simp
  have hb1 := alloc_below (w.alloc (.cells #[.slice A n ca, .slice K n ck, .slice L n cl, .int .i64 (winA (ess rs) a : Nat), .slice R n cr] 83)) (.cells #[.string ⟨#[]⟩, .string ⟨#[]⟩, .bool false, .int .i64 0, .int .i64 0] 91)
  have hw := h.win
  rw [ess_len, hn] at hw
  have hlt := h.lt hd
  have hent := h.ent hd
  have hii := h.int h.win (by rw [h.at_.1]; exact h.win)
  have hlen := h.at_.1
  rw [ess_len, hn] at hlen
  have hA := hr.ats
  have hR := hr.runs
  rcases hA with h0 | ⟨b1, o1, rfl, hbl1, hc1⟩
  · rw [h0] at hlen; simp at hlen; omega
  rcases hR with h0 | ⟨b2, o2, rfl, hbl2, hc2⟩
  · rw [h0] at hn; simp at hn; omega
  have x1 := hc1 _ (by rw [hlen]; exact hw)
  rw [hii] at x1
  obtain ⟨x2, x3⟩ := hc2 _ (by rw [hn]; exact hw)
  rw [xsA_eq (by rw [ess_len, hn]; exact hw)] at hlt
  simp only [ess_get (show winA (ess rs) a < rs.length by rw [hn]; exact hw)] at hlt
  have hent' : entA (ess rs) a = (rs[winA (ess rs) a]'(by rw [hn]; exact hw)).2.2[aA a (winA (ess rs) a)]'hlt := by
    rw [hent]; simp only [xsA_eq (show winA (ess rs) a < (ess rs).length by rw [ess_len, hn]; exact hw), ess_get (show winA (ess rs) a < rs.length by rw [hn]; exact hw)]
  rcases x3 with h0 | ⟨b3, o3, hr3, hbl3, hc3⟩
  · rw [h0] at hlt; simp at hlt
  obtain ⟨y0, y1, y2, y3⟩ := hc3 _ hlt
  rw [← hent'] at y0 y1 y2 y3
  rw [hr3] at x2
  have HB := Lib.hid (eb_of hb0 hb1 (Nat.le_refl _))
  clear hc1 hc2 hc3 hent hent' hii hr h hd hb0 hb1 hr3 hz
  generalize hm : (rs[winA (ess rs) a]'(by rw [hn]; exact hw)).2.2.length = m at *
  generalize hmc : (rs[winA (ess rs) a]'(by rw [hn]; exact hw)).2.1 = mc at *
  generalize entA (ess rs) a = x at *
  clear hm hmc hlen
  generalize aA a (winA (ess rs) a) = i at *
  clear hn
  generalize winA (ess rs) a = p at *
  have l1 : (p : Int) < (n : Int) := by omega
  have l0 : (0 : Int) ≤ (p : Int) := by omega
  have l2 : (i : Int) < (m : Int) := by omega
  have l3 : (0 : Int) ≤ (i : Int) := by omega
  obtain ⟨W, hW⟩ : ∃ W, W = (w.alloc (.cells #[.slice (some ⟨b1, o1, none⟩) n ca, .slice K n ck, .slice L n cl, .int .i64 (p : Int), .slice (some ⟨b2, o2, none⟩) n cr] 83)).alloc (.cells #[.string ⟨#[]⟩, .string ⟨#[]⟩, .bool false, .int .i64 0, .int .i64 0] 91) := ⟨_, rfl⟩
  have HR1 : Hid (Rw5 W w.heap.size 83 (.slice (some ⟨b1, o1, none⟩) n ca) (.slice K n ck) (.slice L n cl) (.int .i64 (p : Int)) (.slice (some ⟨b2, o2, none⟩) n cr)) := Lib.hid (hW ▸ hp2 w _ _)
  have HR2 : Hid (Rw5 W (w.heap.size + 1) 91 (.string ⟨#[]⟩) (.string ⟨#[]⟩) (.bool false) (.int .i64 0) (.int .i64 0)) := Lib.hid (hW ▸ hp3 w _ _ rfl)
  have HBW : Hid (Below w.heap.size w W) := Lib.hid (hW ▸ HB.out)
  have HS : Hid (∀ w', Chg (fun k => k = w.heap.size + 1) W w' → Chg (fun k => k = w.heap.size + 1) W w' ∧ w'.cell? ⟨w.heap.size, 0, none⟩ = some (.slice (some ⟨b1, o1, none⟩) n ca) ∧ w'.cell? ⟨w.heap.size, 4, none⟩ = some (.slice (some ⟨b2, o2, none⟩) n cr) ∧ w'.cell? ⟨b1, o1 + p, none⟩ = some (.int .i64 (i : Int)) ∧ w'.cell? ⟨b2, o2 + p, none⟩ = some (.slice (some ⟨b3, o3, none⟩) m mc) ∧ w'.cell? ⟨b3, o3 + i * 4, none⟩ = some (.string x.1) ∧ w'.cell? ⟨b3, o3 + i * 4 + 1, none⟩ = some (.string x.2.1) ∧ w'.cell? ⟨b3, o3 + i * 4 + 2, none⟩ = some (.bool x.2.2.1) ∧ w'.cell? ⟨b3, o3 + i * 4 + 3, none⟩ = some (.int .i64 x.2.2.2)) := Lib.hid (fun w' h => by
    have r := HR1.out.chg h (by omega)
    exact ⟨h, r.c0, r.c4, h.cell (((Chg.of_below (S := fun _ => False) HBW.out).cell x1 id)) (by omega), h.cell (((Chg.of_below (S := fun _ => False) HBW.out).cell x2 id)) (by omega), h.cell (((Chg.of_below (S := fun _ => False) HBW.out).cell y0 id)) (by omega), h.cell (((Chg.of_below (S := fun _ => False) HBW.out).cell y1 id)) (by omega), h.cell (((Chg.of_below (S := fun _ => False) HBW.out).cell y2 id)) (by omega), h.cell (((Chg.of_below (S := fun _ => False) HBW.out).cell y3 id)) (by omega)⟩)
  have HFF := Lib.hid (Chg.refl (S := fun k => k = w.heap.size + 1) W)
  clear x1 x2 y0 y1 y2 y3 hbl1 hbl2 hbl3 HB
  go_enter Try.func80, Try.ntmps80
  go_wp2_with fail
  rw [← hW]
  clear hW
  have z0 := HR2.out.fz 0
  have z1 := HR2.out.fz 1
  have z2 := HR2.out.fz 2
  have z3 := HR2.out.fz 3
  have z4 := HR2.out.fz 4
  have k0 := HR2.out.c0
  have k1 := HR2.out.c1
  have k2 := HR2.out.c2
  have k3 := HR2.out.c3
  have k4 := HR2.out.c4
  go_region_held3 (fun w' => Chg (fun k => k = w.heap.size + 1) W w' ∧ w'.cell? ⟨w.heap.size, 0, none⟩ = some (.slice (some ⟨b1, o1, none⟩) n ca) ∧ w'.cell? ⟨w.heap.size, 4, none⟩ = some (.slice (some ⟨b2, o2, none⟩) n cr) ∧ w'.cell? ⟨b1, o1 + p, none⟩ = some (.int .i64 (i : Int)) ∧ w'.cell? ⟨b2, o2 + p, none⟩ = some (.slice (some ⟨b3, o3, none⟩) m mc) ∧ w'.cell? ⟨b3, o3 + i * 4, none⟩ = some (.string x.1) ∧ w'.cell? ⟨b3, o3 + i * 4 + 1, none⟩ = some (.string x.2.1) ∧ w'.cell? ⟨b3, o3 + i * 4 + 2, none⟩ = some (.bool x.2.2.1) ∧ w'.cell? ⟨b3, o3 + i * 4 + 3, none⟩ = some (.int .i64 x.2.2.2))
    (first
      | (exact HS.out _ (by assumption))
      | (exact HS.out _ HFF.out)
      | (exact HS.out _ (Chg.of_below (below_drewN' 1)))
      | (exact HS.out _ ((set5C W (w.heap.size + 1) _ _ _ _ _).trans (Chg.of_below (below_drewN' 1)))))
    (fail)
  all_goals
    go_wp2_with fail
    have HX := Lib.hid (HR2.out.set (.string x.1) (.string x.2.1) (.bool x.2.2.1) (.int .i64 x.2.2.2) (.int .i64 (p : Int)))
    have e0 := HX.out.c0
    have e1 := HX.out.c1
    have e2 := HX.out.c2
    have e3 := HX.out.c3
    have e4 := HX.out.c4
    refine bodyPost_ret (v := .agg #[.string x.1, .string x.2.1, .bool x.2.2.1, .int .i64 x.2.2.2, .int .i64 (p : Int)]) (by simp [results, Try.results80, go_sem, e0, e1, e2, e3, e4]) rfl ?_
    have hc := (set5C W (w.heap.size + 1) (.string x.1) (.string x.2.1) (.bool x.2.2.1) (.int .i64 x.2.2.2) (.int .i64 (p : Int))).trans (Chg.of_below (below_drewN' 1))
    exact ⟨rfl, HBW.out.trans (hc.below (fun k hk => by omega) HBW.out.size)⟩
end Go.Proofs.Ytebjhjmlpodkgaa.KK
