/-
  Merges: the state of a reading.
-/
import Derived.Test.YtebjhjmlpodkgaaPf
namespace Go.Proofs.Ytebjhjmlpodkgaa.KK
open Go.ChangeShapes Go.WideShapes Go.ChangeAt Go.RowKit Go.Proofs

/-- the first runs clipped -/
def clipTo (rs : List Rn) (i : Nat) : List Rn := rs.mapIdx fun j r => if j < i then clipR r else r
theorem clipTo_len (rs : List Rn) (i : Nat) : (clipTo rs i).length = rs.length := by simp [clipTo]
theorem clip_zero (rs : List Rn) : clipTo rs 0 = rs := by
  refine List.ext_getElem (by simp [clipTo]) fun j h1 h2 => ?_
  simp [clipTo]
theorem clip_all (rs : List Rn) {i : Nat} (h : rs.length ≤ i) : clipTo rs i = rs.map clipR := by
  refine List.ext_getElem (by simp [clipTo]) fun j h1 h2 => ?_
  simp only [clipTo, List.getElem_mapIdx, List.getElem_map]
  rw [if_pos (by simp at h2; omega)]
theorem clip_get (rs : List Rn) {i : Nat} (h : i < rs.length) {h' : i < (hdsV (clipTo rs i)).length} : (hdsV (clipTo rs i))[i] = .slice rs[i].1 rs[i].2.2.length rs[i].2.1 := by
  simp [hdsV, clipTo]
theorem clip_set (rs : List Rn) {i : Nat} (h : i < rs.length) : (hdsV (clipTo rs i)).set i (.slice rs[i].1 rs[i].2.2.length rs[i].2.2.length) = hdsV (clipTo rs (i + 1)) := by
  refine List.ext_getElem (by simp [hdsV, clipTo]) fun j h1 h2 => ?_
  simp only [hdsV, clipTo, List.getElem_set, List.getElem_map, List.getElem_mapIdx]
  by_cases e : i = j
  · subst e; simp [clipR]
  · rw [if_neg e]
    by_cases g : j < i
    · rw [if_pos g, if_pos (by omega)]
    · rw [if_neg g, if_neg (by omega)]
/-- a state whose parts are new: what is in the variable, and in its parts -/
structure Stt (W F : World) (H : List Value) (a : List Int) (ks : List LK) (ls : List Int) (win : Int) (n tb gr ga gk gl c1 c2 c3 c4 : Nat) : Prop where
  row : Rw5 F tb 30 (.slice (some ⟨gr, 0, none⟩) n c1) (.slice (some ⟨ga, 0, none⟩) n c2) (.slice (some ⟨gk, 0, none⟩) n c3) (.slice (some ⟨gl, 0, none⟩) n c4) (.int .i64 win)
  runs : CR F gr H
  ats : CR F ga (intsV a)
  keys : CR F gk (keysV ks)
  lose : CR F gl (intsV ls)
  new : W.heap.size ≤ tb ∧ W.heap.size ≤ gr ∧ gr < ga ∧ ga < gk ∧ gk < gl
  ne : tb ≠ gr ∧ tb ≠ ga ∧ tb ≠ gk ∧ tb ≠ gl
  below : Below W.heap.size W F
theorem Rw5.drew {W : World} {B : Nat} {t : TypeId} {v0 v1 v2 v3 v4 : Value} (h : Rw5 W B t v0 v1 v2 v3 v4) : Rw5 W.drew B t v0 v1 v2 v3 v4 := h
theorem bA {w w1 : World} (h : Below w.heap.size w w1) (o : Obj) : Below w.heap.size w (w1.alloc o) := eb_of h (alloc_below _ _) (Nat.le_refl _)
theorem bD {w w1 : World} (h : Below w.heap.size w w1) : Below w.heap.size w w1.drew := h.drew
theorem bS5 {w w1 : World} {g : Nat} (h : Below w.heap.size w w1) (hg : w.heap.size ≤ g) (a b c d e : Value) : Below w.heap.size w (((((w1.setCell ⟨g, 0, none⟩ a).setCell ⟨g, 1, none⟩ b).setCell ⟨g, 2, none⟩ c).setCell ⟨g, 3, none⟩ d).setCell ⟨g, 4, none⟩ e) := ((((h.setCell hg _).setCell hg _).setCell hg _).setCell hg _).setCell hg _
theorem rw5n {W w : World} {v0 v1 v2 v3 v4 : Value} {t : TypeId} (hb : Below (W.alloc (.cells #[v0, v1, v2, v3, v4] t)).heap.size (W.alloc (.cells #[v0, v1, v2, v3, v4] t)) w) : Hid (Rw5 w W.heap.size t v0 v1 v2 v3 v4) := Lib.hid (Rw5.below (heap_alloc_new _ _) hb (Nat.le_refl _))
theorem rw5d {W w : World} {v0 v1 v2 v3 v4 : Value} {t : TypeId} (hb : Below (W.alloc (.cells #[v0, v1, v2, v3, v4] t)).drew.heap.size (W.alloc (.cells #[v0, v1, v2, v3, v4] t)).drew w) : Hid (Rw5 w W.heap.size t v0 v1 v2 v3 v4) := Lib.hid (Rw5.below (Rw5.drew (heap_alloc_new _ _)) hb (Nat.le_refl _))
theorem set5B {B : Nat} {w w1 : World} {g : Nat} (h : Below B w w1) (hg : B ≤ g) (a b c d e : Value) : Below B w (((((w1.setCell ⟨g, 0, none⟩ a).setCell ⟨g, 1, none⟩ b).setCell ⟨g, 2, none⟩ c).setCell ⟨g, 3, none⟩ d).setCell ⟨g, 4, none⟩ e) := ((((h.setCell hg _).setCell hg _).setCell hg _).setCell hg _).setCell hg _
theorem stt_of {W V5 w5 V6 w6 V7 w7 V8 w8 F : World} {H : List Value} {a : List Int} {ks : List LK} {ls : List Int} {win : Int} {n tb gr ga gk gl c1 c2 c3 c4 : Nat}
    (b5 : Below W.heap.size W V5) (h5 : Hid (Below V5.heap.size V5 w5)) (b6 : Below w5.heap.size w5 V6) (h6 : Hid (Below V6.heap.size V6 w6)) (b7 : Below w6.heap.size w6 V7) (h7 : Hid (Below V7.heap.size V7 w7)) (b8 : Below w7.heap.size w7 V8) (h8 : Hid (Below V8.heap.size V8 w8)) (hF : Chg (fun k => k = tb) w8 F)
    (g5 : Hid (V5.heap.size ≤ gr)) (r5 : Hid (CR w5 gr H)) (g6 : Hid (V6.heap.size ≤ ga)) (r6 : Hid (CR w6 ga (intsV a))) (g7 : Hid (V7.heap.size ≤ gk)) (r7 : Hid (CR w7 gk (keysV ks))) (g8 : Hid (V8.heap.size ≤ gl)) (r8 : Hid (CR w8 gl (intsV ls)))
    (ht : Rw5 F tb 30 (.slice (some ⟨gr, 0, none⟩) n c1) (.slice (some ⟨ga, 0, none⟩) n c2) (.slice (some ⟨gk, 0, none⟩) n c3) (.slice (some ⟨gl, 0, none⟩) n c4) (.int .i64 win))
    (hn : W.heap.size ≤ tb ∧ (tb < V5.heap.size ∨ (w5.heap.size ≤ tb ∧ tb < V6.heap.size) ∨ (w6.heap.size ≤ tb ∧ tb < V7.heap.size) ∨ (w7.heap.size ≤ tb ∧ tb < V8.heap.size) ∨ w8.heap.size ≤ tb)) : Stt W F H a ks ls win n tb gr ga gk gl c1 c2 c3 c4 := by
  have h5 := h5.out; have h6 := h6.out; have h7 := h7.out; have h8 := h8.out
  have g5 := g5.out; have g6 := g6.out; have g7 := g7.out; have g8 := g8.out
  have r5 := r5.out; have r6 := r6.out; have r7 := r7.out; have r8 := r8.out
  have l5 := r5.lt; have l6 := r6.lt; have l7 := r7.lt; have l8 := r8.lt
  have s1 := b5.size; have s2 := h5.size; have s3 := b6.size; have s4 := h6.size; have s5 := b7.size; have s6 := h7.size; have s7 := b8.size; have s8 := h8.size
  have e78 := eb_of b8 h8 (Nat.le_refl _)
  have e67 := eb_of b7 h7 (Nat.le_refl _)
  have e56 := eb_of b6 h6 (Nat.le_refl _)
  have e68 := eb_of e67 e78 (Nat.le_refl _)
  have e58 := eb_of e56 e68 (Nat.le_refl _)
  have e5 := eb_of (eb_of b5 h5 (Nat.le_refl _)) e58 (Nat.le_refl _)
  exact ⟨ht, (r5.below e58 l5).chg hF (fun e => by omega), (r6.below e68 l6).chg hF (fun e => by omega), (r7.below e78 l7).chg hF (fun e => by omega), r8.chg hF (fun e => by omega), ⟨hn.1, by omega, by omega, by omega, by omega⟩, ⟨by omega, by omega, by omega, by omega⟩, e5.trans (hF.below (fun k hk => by omega) e5.size)⟩
set_option maxRecDepth 100000 in
set_option maxHeartbeats 8000000 in
theorem state_any (A K L R : Option Addr) (n ca ck cl cr : Nat) (rs : List Rn) (a : List Int) (w : World) (hn : rs.length = n) (h : Gd (ess rs) a) (hr : RdOk w A K L R rs a) (hc : CapR rs) :
    Calls Try.prog 46 #[.agg #[.slice A n ca, .slice K n ck, .slice L n cl, .int .i64 (winA (ess rs) a : Nat), .slice R n cr]] w fun e w' => ∃ gr ga gk gl c1 c2 c3 c4 : Nat, e = .returned (.agg #[.slice (some ⟨gr, 0, none⟩) n c1, .slice (some ⟨ga, 0, none⟩) n c2, .slice (some ⟨gk, 0, none⟩) n c3, .slice (some ⟨gl, 0, none⟩) n c4, .int .i64 (winA (ess rs) a : Nat)]) ∧
      (CR w' gr (hdsV (rs.map clipR)) ∧ CR w' ga (intsV a) ∧ CR w' gk (keysV (nks (ess rs) a)) ∧ CR w' gl (intsV (loL (nks (ess rs) a)))) ∧ (w.heap.size ≤ gr ∧ gr < ga ∧ ga < gk ∧ gk < gl) ∧ Below w.heap.size w w' := by
  obtain ⟨W, hW⟩ : ∃ W, W = (w.alloc (.cells #[.slice A n ca, .slice K n ck, .slice L n cl, .int .i64 (winA (ess rs) a : Nat), .slice R n cr] 83)).alloc (.cells #[.slice none 0 0, .slice none 0 0, .slice none 0 0, .slice none 0 0, .int .i64 0] 30) := ⟨_, rfl⟩
  have hbW : Below w.heap.size w W := hW ▸ alloc2_below _ _ _
  have hsW : W.heap.size = w.heap.size + 2 := by rw [hW]; simp
  have HR1 : Hid (Rw5 W w.heap.size 83 (.slice A n ca) (.slice K n ck) (.slice L n cl) (.int .i64 (winA (ess rs) a : Nat)) (.slice R n cr)) := Lib.hid (hW ▸ hp2 w _ _)
  have HR2 : Hid (Rw5 W (w.heap.size + 1) 30 (.slice none 0 0) (.slice none 0 0) (.slice none 0 0) (.slice none 0 0) (.int .i64 0)) := Lib.hid (hW ▸ hp3 w _ _ rfl)
  have h1 := h.len1
  have hal : a.length = n := by rw [h.at_.1, ess_len, hn]
  have hkl : (nks (ess rs) a).length = n := by rw [h.len, ess_len, hn]
  have hll : (loL (nks (ess rs) a)).length = n := by rw [loL_len, hkl]
  rw [hn] at h1
  have JR := Lib.hid (fun w' (hb : Below W.heap.size W w') => by
    have K := cloneR_any R cr rs w' ((hr.runs.below hbW (Nat.le_refl _)).below hb (Nat.le_refl _)) (fun e => by rw [e] at hn; simp at hn; omega) (by omega)
    rw [hn] at K; exact K)
  have JA := Lib.hid (fun w' (hb : Below W.heap.size W w') => by
    have K := cloneI_any A ca a w' ((hr.ats.below hbW (Nat.le_refl _)).below hb (Nat.le_refl _)) (fun e => by rw [e] at hal; simp at hal; omega) (by omega)
    rw [hal] at K; exact K)
  have JK := Lib.hid (fun w' (hb : Below W.heap.size W w') => by
    have K := cloneK_any K ck (nks (ess rs) a) w' ((hr.keys.below hbW (Nat.le_refl _)).below hb (Nat.le_refl _)) (fun e => by rw [e] at hkl; simp at hkl; omega) (by omega)
    rw [hkl] at K; exact K)
  have JL := Lib.hid (fun w' (hb : Below W.heap.size W w') => by
    have K := cloneI_any L cl (loL (nks (ess rs) a)) w' ((hr.lose.below hbW (Nat.le_refl _)).below hb (Nat.le_refl _)) (fun e => by rw [e] at hll; simp at hll; omega) (by omega)
    rw [hll] at K; exact K)
  have HCAP : Hid (∀ i (hi : i < rs.length), rs[i].2.2.length ≤ rs[i].2.1 ∧ (rs[i].1 = none → rs[i].2.1 = 0) ∧ rs[i].2.2.length ≤ 5000) := Lib.hid (fun i hi => by
    have q := hc _ (List.getElem_mem hi)
    have q2 := (list_ok ((runsE_ok h.ok).2.2.1 rs[i].2.2 (by simp only [ess, List.mem_map]; exact ⟨_, List.getElem_mem hi, rfl⟩))).1
    exact ⟨q.1, q.2, q2⟩)
  have HN := Lib.hid hn
  have HBW := Lib.hid hbW
  have HSW := Lib.hid hsW
  clear hr hc h hn hal hkl hll hbW hsW
  generalize winA (ess rs) a = p at *
  generalize hks : nks (ess rs) a = ks at *
  generalize hls : loL ks = ls at *
  clear hks hls
  have HS : Hid (∀ w', Below W.heap.size W w' → Below W.heap.size W w' ∧ w'.cell? ⟨w.heap.size, 0, none⟩ = some (.slice A n ca) ∧ w'.cell? ⟨w.heap.size, 1, none⟩ = some (.slice K n ck) ∧ w'.cell? ⟨w.heap.size, 2, none⟩ = some (.slice L n cl) ∧ w'.cell? ⟨w.heap.size, 3, none⟩ = some (.int .i64 (p : Int)) ∧ w'.cell? ⟨w.heap.size, 4, none⟩ = some (.slice R n cr)) := Lib.hid (fun w' h => by
    have r := HR1.out.below h (Nat.le_refl _)
    exact ⟨h, r.c0, r.c1, r.c2, r.c3, r.c4⟩)
  have HFF := Lib.hid (Below.refl W.heap.size W)
  go_enter Try.func46, Try.ntmps46
  go_upto_region 1 with fail
  rw [← hW]
  clear hW
  go_cut [3] (fun tv wx => ∃ tb gr ga gk gl c1 c2 c3 c4, tv = .pointer (some ⟨tb, 0, none⟩) ∧ Stt W wx (hdsV rs) a ks ls (p : Int) n tb gr ga gk gl c1 c2 c3 c4)
  case first =>
    clear HR1 HR2 HCAP HN HBW HSW h1
    go_region_held3? (fun w' => Below W.heap.size W w' ∧ w'.cell? ⟨w.heap.size, 0, none⟩ = some (.slice A n ca) ∧ w'.cell? ⟨w.heap.size, 1, none⟩ = some (.slice K n ck) ∧ w'.cell? ⟨w.heap.size, 2, none⟩ = some (.slice L n cl) ∧ w'.cell? ⟨w.heap.size, 3, none⟩ = some (.int .i64 (p : Int)) ∧ w'.cell? ⟨w.heap.size, 4, none⟩ = some (.slice R n cr))
      ((refine HS.out _ ?_; first | with_reducible assumption | with_reducible exact HFF.out | with_reducible exact bA (by assumption) _ | with_reducible exact bD HFF.out | with_reducible exact bD (bA HFF.out _) | with_reducible exact bA (bD HFF.out) _ | (with_reducible refine bS5 (by assumption) ?_ _ _ _ _ _; first | exact Nat.le_refl _ | exact Below.size (by assumption))))
      (first
        | (go_at_call 73; refine (JR.out _ (by first | with_reducible assumption | with_reducible exact HFF.out | with_reducible exact bA (by assumption) _ | with_reducible exact bD HFF.out | with_reducible exact bD (bA HFF.out _) | with_reducible exact bA (bD HFF.out) _)).mono ?_; rintro e w5 ⟨gr, c1, rfl, hg, hc, hb⟩; have hbW5 : Below W.heap.size W w5 := eb_of (by first | with_reducible assumption | with_reducible exact HFF.out | with_reducible exact bA (by assumption) _ | with_reducible exact bD HFF.out | with_reducible exact bD (bA HFF.out _) | with_reducible exact bA (bD HFF.out) _) hb (Nat.le_refl _); have HG5 := Lib.hid hg; have HC5 := Lib.hid hc; have HB5 := Lib.hid hb; (first | with_reducible (have HT5 : Hid (Rw5 w5 _ 30 (.slice none 0 0) (.slice none 0 0) (.slice none 0 0) (.slice none 0 0) (.int .i64 0)) := rw5n hb) | with_reducible (have HT5 : Hid (Rw5 w5 _ 30 (.slice none 0 0) (.slice none 0 0) (.slice none 0 0) (.slice none 0 0) (.int .i64 0)) := rw5d hb) | skip); clear hg hc hb)
        | (have hq := HC7.out; clear hq; go_at_call 74; refine (JL.out _ (by first | with_reducible assumption | with_reducible exact HFF.out | with_reducible exact bA (by assumption) _ | with_reducible exact bD HFF.out | with_reducible exact bD (bA HFF.out _) | with_reducible exact bA (bD HFF.out) _)).mono ?_; rintro e w8 ⟨gl, c4, rfl, hg, hc, hb⟩; have hbW8 : Below W.heap.size W w8 := eb_of (by first | with_reducible assumption | with_reducible exact HFF.out | with_reducible exact bA (by assumption) _ | with_reducible exact bD HFF.out | with_reducible exact bD (bA HFF.out _) | with_reducible exact bA (bD HFF.out) _) hb (Nat.le_refl _); have HG8 := Lib.hid hg; have HC8 := Lib.hid hc; have HB8 := Lib.hid hb; (first | with_reducible (have HT8 : Hid (Rw5 w8 _ 30 (.slice none 0 0) (.slice none 0 0) (.slice none 0 0) (.slice none 0 0) (.int .i64 0)) := rw5n hb) | with_reducible (have HT8 : Hid (Rw5 w8 _ 30 (.slice none 0 0) (.slice none 0 0) (.slice none 0 0) (.slice none 0 0) (.int .i64 0)) := rw5d hb) | (have HT8 := Lib.hid (HT7.out.below hb (Nat.le_refl _))) | skip); (try (have k0 := HT8.out.c0; have k1 := HT8.out.c1; have k2 := HT8.out.c2; have k3 := HT8.out.c3; have k4 := HT8.out.c4; have z0 := HT8.out.fz 0; have z1 := HT8.out.fz 1; have z2 := HT8.out.fz 2; have z3 := HT8.out.fz 3; have z4 := HT8.out.fz 4)); clear hg hc hb)
        | (go_at_call 74; refine (JA.out _ (by first | with_reducible assumption | with_reducible exact HFF.out | with_reducible exact bA (by assumption) _ | with_reducible exact bD HFF.out | with_reducible exact bD (bA HFF.out _) | with_reducible exact bA (bD HFF.out) _)).mono ?_; rintro e w6 ⟨ga, c2, rfl, hg, hc, hb⟩; have hbW6 : Below W.heap.size W w6 := eb_of (by first | with_reducible assumption | with_reducible exact HFF.out | with_reducible exact bA (by assumption) _ | with_reducible exact bD HFF.out | with_reducible exact bD (bA HFF.out _) | with_reducible exact bA (bD HFF.out) _) hb (Nat.le_refl _); have HG6 := Lib.hid hg; have HC6 := Lib.hid hc; have HB6 := Lib.hid hb; (first | with_reducible (have HT6 : Hid (Rw5 w6 _ 30 (.slice none 0 0) (.slice none 0 0) (.slice none 0 0) (.slice none 0 0) (.int .i64 0)) := rw5n hb) | with_reducible (have HT6 : Hid (Rw5 w6 _ 30 (.slice none 0 0) (.slice none 0 0) (.slice none 0 0) (.slice none 0 0) (.int .i64 0)) := rw5d hb) | (have HT6 := Lib.hid (HT5.out.below hb (Nat.le_refl _))) | skip); clear hg hc hb)
        | (go_at_call 75; refine (JK.out _ (by first | with_reducible assumption | with_reducible exact HFF.out | with_reducible exact bA (by assumption) _ | with_reducible exact bD HFF.out | with_reducible exact bD (bA HFF.out _) | with_reducible exact bA (bD HFF.out) _)).mono ?_; rintro e w7 ⟨gk, c3, rfl, hg, hc, hb⟩; have hbW7 : Below W.heap.size W w7 := eb_of (by first | with_reducible assumption | with_reducible exact HFF.out | with_reducible exact bA (by assumption) _ | with_reducible exact bD HFF.out | with_reducible exact bD (bA HFF.out _) | with_reducible exact bA (bD HFF.out) _) hb (Nat.le_refl _); have HG7 := Lib.hid hg; have HC7 := Lib.hid hc; have HB7 := Lib.hid hb; (first | with_reducible (have HT7 : Hid (Rw5 w7 _ 30 (.slice none 0 0) (.slice none 0 0) (.slice none 0 0) (.slice none 0 0) (.int .i64 0)) := rw5n hb) | with_reducible (have HT7 : Hid (Rw5 w7 _ 30 (.slice none 0 0) (.slice none 0 0) (.slice none 0 0) (.slice none 0 0) (.int .i64 0)) := rw5d hb) | (have HT7 := Lib.hid (HT6.out.below hb (Nat.le_refl _))) | skip); clear hg hc hb))
    all_goals
      go_wp2_with fail
      go_meet
    · exact ⟨_, gr, ga, gk, gl, c1, c2, c3, c4, rfl, stt_of (by first | with_reducible exact Below.refl _ _ | with_reducible exact alloc_below _ _ | with_reducible exact bD (Below.refl _ _) | with_reducible exact bD (alloc_below _ _) | with_reducible exact bA (bD (Below.refl _ _)) _) HB5 (by first | with_reducible exact Below.refl _ _ | with_reducible exact alloc_below _ _ | with_reducible exact bD (Below.refl _ _) | with_reducible exact bD (alloc_below _ _) | with_reducible exact bA (bD (Below.refl _ _)) _) HB6 (by first | with_reducible exact Below.refl _ _ | with_reducible exact alloc_below _ _ | with_reducible exact bD (Below.refl _ _) | with_reducible exact bD (alloc_below _ _) | with_reducible exact bA (bD (Below.refl _ _)) _) HB7 (by first | with_reducible exact Below.refl _ _ | with_reducible exact alloc_below _ _ | with_reducible exact bD (Below.refl _ _) | with_reducible exact bD (alloc_below _ _) | with_reducible exact bA (bD (Below.refl _ _)) _) HB8 (Chg.of_below (alloc_below _ _)) HG5 HC5 HG6 HC6 HG7 HC7 HG8 HC8 (heap_alloc_new _ _) (by have t5 := HB5.out.size; have t6 := HB6.out.size; have t7 := HB7.out.size; have t8 := HB8.out.size; have s5 := hbW5.size; have s6 := hbW6.size; have s7 := hbW7.size; have s8 := hbW8.size; (try simp only [World.size_alloc, hdr] at t5 t6 t7 t8 ⊢); refine ⟨?_, ?_⟩ <;> omega)⟩
    · exact ⟨_, gr, ga, gk, gl, c1, c2, c3, c4, rfl, stt_of (by first | with_reducible exact Below.refl _ _ | with_reducible exact alloc_below _ _ | with_reducible exact bD (Below.refl _ _) | with_reducible exact bD (alloc_below _ _) | with_reducible exact bA (bD (Below.refl _ _)) _) HB5 (by first | with_reducible exact Below.refl _ _ | with_reducible exact alloc_below _ _ | with_reducible exact bD (Below.refl _ _) | with_reducible exact bD (alloc_below _ _) | with_reducible exact bA (bD (Below.refl _ _)) _) HB6 (by first | with_reducible exact Below.refl _ _ | with_reducible exact alloc_below _ _ | with_reducible exact bD (Below.refl _ _) | with_reducible exact bD (alloc_below _ _) | with_reducible exact bA (bD (Below.refl _ _)) _) HB7 (by first | with_reducible exact Below.refl _ _ | with_reducible exact alloc_below _ _ | with_reducible exact bD (Below.refl _ _) | with_reducible exact bD (alloc_below _ _) | with_reducible exact bA (bD (Below.refl _ _)) _) HB8 (set5C w8 _ (.slice (some ⟨gr, 0, none⟩) n c1) (.slice (some ⟨ga, 0, none⟩) n c2) (.slice (some ⟨gk, 0, none⟩) n c3) (.slice (some ⟨gl, 0, none⟩) n c4) (.int .i64 (p : Int))) HG5 HC5 HG6 HC6 HG7 HC7 HG8 HC8 (HT8.out.set (.slice (some ⟨gr, 0, none⟩) n c1) (.slice (some ⟨ga, 0, none⟩) n c2) (.slice (some ⟨gk, 0, none⟩) n c3) (.slice (some ⟨gl, 0, none⟩) n c4) (.int .i64 (p : Int))) (by have t5 := HB5.out.size; have t6 := HB6.out.size; have t7 := HB7.out.size; have t8 := HB8.out.size; have s5 := hbW5.size; have s6 := hbW6.size; have s7 := hbW7.size; have s8 := hbW8.size; (try simp only [World.size_alloc, hdr] at t5 t6 t7 t8 ⊢); refine ⟨?_, ?_⟩ <;> omega)⟩
    · exact ⟨_, gr, ga, gk, gl, c1, c2, c3, c4, rfl, stt_of (by first | with_reducible exact Below.refl _ _ | with_reducible exact alloc_below _ _ | with_reducible exact bD (Below.refl _ _) | with_reducible exact bD (alloc_below _ _) | with_reducible exact bA (bD (Below.refl _ _)) _) HB5 (by first | with_reducible exact Below.refl _ _ | with_reducible exact alloc_below _ _ | with_reducible exact bD (Below.refl _ _) | with_reducible exact bD (alloc_below _ _) | with_reducible exact bA (bD (Below.refl _ _)) _) HB6 (by first | with_reducible exact Below.refl _ _ | with_reducible exact alloc_below _ _ | with_reducible exact bD (Below.refl _ _) | with_reducible exact bD (alloc_below _ _) | with_reducible exact bA (bD (Below.refl _ _)) _) HB7 (by first | with_reducible exact Below.refl _ _ | with_reducible exact alloc_below _ _ | with_reducible exact bD (Below.refl _ _) | with_reducible exact bD (alloc_below _ _) | with_reducible exact bA (bD (Below.refl _ _)) _) HB8 (set5C w8 _ (.slice (some ⟨gr, 0, none⟩) n c1) (.slice (some ⟨ga, 0, none⟩) n c2) (.slice (some ⟨gk, 0, none⟩) n c3) (.slice (some ⟨gl, 0, none⟩) n c4) (.int .i64 (p : Int))) HG5 HC5 HG6 HC6 HG7 HC7 HG8 HC8 (HT8.out.set (.slice (some ⟨gr, 0, none⟩) n c1) (.slice (some ⟨ga, 0, none⟩) n c2) (.slice (some ⟨gk, 0, none⟩) n c3) (.slice (some ⟨gl, 0, none⟩) n c4) (.int .i64 (p : Int))) (by have t5 := HB5.out.size; have t6 := HB6.out.size; have t7 := HB7.out.size; have t8 := HB8.out.size; have s5 := hbW5.size; have s6 := hbW6.size; have s7 := hbW7.size; have s8 := hbW8.size; (try simp only [World.size_alloc, hdr] at t5 t6 t7 t8 ⊢); refine ⟨?_, ?_⟩ <;> omega)⟩
    · exact ⟨_, gr, ga, gk, gl, c1, c2, c3, c4, rfl, stt_of (by first | with_reducible exact Below.refl _ _ | with_reducible exact alloc_below _ _ | with_reducible exact bD (Below.refl _ _) | with_reducible exact bD (alloc_below _ _) | with_reducible exact bA (bD (Below.refl _ _)) _) HB5 (by first | with_reducible exact Below.refl _ _ | with_reducible exact alloc_below _ _ | with_reducible exact bD (Below.refl _ _) | with_reducible exact bD (alloc_below _ _) | with_reducible exact bA (bD (Below.refl _ _)) _) HB6 (by first | with_reducible exact Below.refl _ _ | with_reducible exact alloc_below _ _ | with_reducible exact bD (Below.refl _ _) | with_reducible exact bD (alloc_below _ _) | with_reducible exact bA (bD (Below.refl _ _)) _) HB7 (by first | with_reducible exact Below.refl _ _ | with_reducible exact alloc_below _ _ | with_reducible exact bD (Below.refl _ _) | with_reducible exact bD (alloc_below _ _) | with_reducible exact bA (bD (Below.refl _ _)) _) HB8 (set5C w8 _ (.slice (some ⟨gr, 0, none⟩) n c1) (.slice (some ⟨ga, 0, none⟩) n c2) (.slice (some ⟨gk, 0, none⟩) n c3) (.slice (some ⟨gl, 0, none⟩) n c4) (.int .i64 (p : Int))) HG5 HC5 HG6 HC6 HG7 HC7 HG8 HC8 (HT8.out.set (.slice (some ⟨gr, 0, none⟩) n c1) (.slice (some ⟨ga, 0, none⟩) n c2) (.slice (some ⟨gk, 0, none⟩) n c3) (.slice (some ⟨gl, 0, none⟩) n c4) (.int .i64 (p : Int))) (by have t5 := HB5.out.size; have t6 := HB6.out.size; have t7 := HB7.out.size; have t8 := HB8.out.size; have s5 := hbW5.size; have s6 := hbW6.size; have s7 := hbW7.size; have s8 := hbW8.size; (try simp only [World.size_alloc, hdr] at t5 t6 t7 t8 ⊢); refine ⟨?_, ?_⟩ <;> omega)⟩
    · exact ⟨_, gr, ga, gk, gl, c1, c2, c3, c4, rfl, stt_of (by first | with_reducible exact Below.refl _ _ | with_reducible exact alloc_below _ _ | with_reducible exact bD (Below.refl _ _) | with_reducible exact bD (alloc_below _ _) | with_reducible exact bA (bD (Below.refl _ _)) _) HB5 (by first | with_reducible exact Below.refl _ _ | with_reducible exact alloc_below _ _ | with_reducible exact bD (Below.refl _ _) | with_reducible exact bD (alloc_below _ _) | with_reducible exact bA (bD (Below.refl _ _)) _) HB6 (by first | with_reducible exact Below.refl _ _ | with_reducible exact alloc_below _ _ | with_reducible exact bD (Below.refl _ _) | with_reducible exact bD (alloc_below _ _) | with_reducible exact bA (bD (Below.refl _ _)) _) HB7 (by first | with_reducible exact Below.refl _ _ | with_reducible exact alloc_below _ _ | with_reducible exact bD (Below.refl _ _) | with_reducible exact bD (alloc_below _ _) | with_reducible exact bA (bD (Below.refl _ _)) _) HB8 (set5C w8 _ (.slice (some ⟨gr, 0, none⟩) n c1) (.slice (some ⟨ga, 0, none⟩) n c2) (.slice (some ⟨gk, 0, none⟩) n c3) (.slice (some ⟨gl, 0, none⟩) n c4) (.int .i64 (p : Int))) HG5 HC5 HG6 HC6 HG7 HC7 HG8 HC8 (HT8.out.set (.slice (some ⟨gr, 0, none⟩) n c1) (.slice (some ⟨ga, 0, none⟩) n c2) (.slice (some ⟨gk, 0, none⟩) n c3) (.slice (some ⟨gl, 0, none⟩) n c4) (.int .i64 (p : Int))) (by have t5 := HB5.out.size; have t6 := HB6.out.size; have t7 := HB7.out.size; have t8 := HB8.out.size; have s5 := hbW5.size; have s6 := hbW6.size; have s7 := hbW7.size; have s8 := hbW8.size; (try simp only [World.size_alloc, hdr] at t5 t6 t7 t8 ⊢); refine ⟨?_, ?_⟩ <;> omega)⟩
  case rest =>
    obtain ⟨tb, gr, ga, gk, gl, c1, c2, c3, c4, rfl, hO⟩ := hcut
    clear JR JA JK JL HS HFF
    have HRES := Lib.hid (HR2.out.below hO.below (by rw [HSW.out]; exact Nat.le_refl _))
    have HROW := Lib.hid hO.row
    have HNE := Lib.hid hO.ne
    have HNW : Hid (w.heap.size + 2 ≤ tb ∧ w.heap.size + 2 ≤ gr ∧ gr < ga ∧ ga < gk ∧ gk < gl) := Lib.hid (by have := hO.new; rw [HSW.out] at this; exact this)
    have HRUN : Hid (CR wc gr (hdsV (clipTo rs 0))) := Lib.hid (by rw [clip_zero]; exact hO.runs)
    have HPRT := Lib.hid (And.intro hO.ats (And.intro hO.keys hO.lose))
    have HBC := Lib.hid (eb_of HBW.out hO.below (Nat.le_refl _))
    have hlt0 := hO.row.lt
    clear hO HR1 HR2 HBW HSW
    have x0 := HROW.out.c0
    go_wp2_with fail
    go_loopw [4, 5, 32] (fun _ _ iv wr => ∃ i : Nat, iv = .int .i64 i ∧ i ≤ n ∧ Hid (CR wr gr (hdsV (clipTo rs i)) ∧ Chg (fun k => k = gr) wc wr)) (fun _ _ iv _ => n - (intOf iv).toNat)
    case atStart => exact ⟨0, by first | rfl | go_num, Nat.zero_le _, Lib.hid ⟨HRUN.out, Chg.refl _⟩⟩
    case round =>
      obtain ⟨i, rfl, hin, HI⟩ := hrel
      have HRW := Lib.hid (HROW.out.chg HI.out.2 HNE.out.1)
      by_cases hlt : i < n
      · have hl : i < rs.length := by rw [HN.out]; exact hlt
        have hk : i < (hdsV (clipTo rs i)).length := by rw [hdsV_len, clipTo_len]; exact hl
        have e0 := HI.out.1.cell i hk
        rw [clip_get rs hl] at e0
        have f0 := HI.out.1.frz i hk
        obtain ⟨q1, q2, q3⟩ := HCAP.out i hl
        have JCL := Lib.hid (fun w' => clip_any rs[i].1 rs[i].2.2.length rs[i].2.1 w' q1 q2 (by omega))
        have HNXT := Lib.hid (HI.out.1.set hk (.slice rs[i].1 rs[i].2.2.length rs[i].2.2.length))
        rw [clip_set rs hl] at HNXT
        have HCH := Lib.hid HI.out.2
        have hgl := HI.out.1.lt
        have y0 := HRW.out.c0
        have l1 : (i : Int) < (n : Int) := by omega
        clear HI q1 q2 q3 hk
        generalize rs[i].1 = A1 at *
        generalize rs[i].2.1 = d1 at *
        generalize rs[i].2.2.length = m1 at *
        go_wp2_with fail
        go_region_with (go_at_call 76; refine (JCL.out _).mono ?_; rintro e w' ⟨rfl, rfl⟩)
        all_goals
          go_wp2_with fail
          go_roundw
          case rel => exact ⟨i + 1, by go_num, by omega, Lib.hid ⟨HNXT.out.below (B := (wr.setCell ⟨gr, i, none⟩ (.slice A1 m1 m1)).heap.size) (Below.refl _ _).drew (by simpa [World.setCell] using hgl), (HCH.out.trans (chg_set gr i _)).trans (Chg.of_below (Below.refl _ _).drew)⟩⟩
          case measure => simp [intOf]; omega
      · obtain rfl : i = n := by omega
        have hC := HI.out.2
        have HRES2 := Lib.hid (HRES.out.chg hC (by have := HNW.out; omega))
        have HG : Hid (CR wr gr (hdsV (rs.map clipR))) := Lib.hid (by have := HI.out.1; rw [clip_all rs (by rw [HN.out]; exact Nat.le_refl _)] at this; exact this)
        have HA2 := Lib.hid (HPRT.out.1.chg hC (by have := HNW.out; omega))
        have HK2 := Lib.hid (HPRT.out.2.1.chg hC (by have := HNW.out; omega))
        have HL2 := Lib.hid (HPRT.out.2.2.chg hC (by have := HNW.out; omega))
        have HBF := Lib.hid (HBC.out.trans (hC.below (fun k hk => by have := HNW.out; omega) HBC.out.size))
        have y0 := HRW.out.c0
        have y1 := HRW.out.c1
        have y2 := HRW.out.c2
        have y3 := HRW.out.c3
        have y4 := HRW.out.c4
        have k0 := HRES2.out.c0
        have k1 := HRES2.out.c1
        have k2 := HRES2.out.c2
        have k3 := HRES2.out.c3
        have k4 := HRES2.out.c4
        have z0 := HRES2.out.fz 0
        have z1 := HRES2.out.fz 1
        have z2 := HRES2.out.fz 2
        have z3 := HRES2.out.fz 3
        have z4 := HRES2.out.fz 4
        clear hC HI x0
        go_wp2_with fail
        have HX := Lib.hid (HRES2.out.set (.slice (some ⟨gr, 0, none⟩) i c1) (.slice (some ⟨ga, 0, none⟩) i c2) (.slice (some ⟨gk, 0, none⟩) i c3) (.slice (some ⟨gl, 0, none⟩) i c4) (.int .i64 (p : Int)))
        have e0 := HX.out.c0
        have e1 := HX.out.c1
        have e2 := HX.out.c2
        have e3 := HX.out.c3
        have e4 := HX.out.c4
        refine bodyPost_ret (v := .agg #[.slice (some ⟨gr, 0, none⟩) i c1, .slice (some ⟨ga, 0, none⟩) i c2, .slice (some ⟨gk, 0, none⟩) i c3, .slice (some ⟨gl, 0, none⟩) i c4, .int .i64 (p : Int)]) (by simp [results, Try.results46, go_sem, e0, e1, e2, e3, e4]) rfl ?_
        have hcF := set5C wr (w.heap.size + 1) (.slice (some ⟨gr, 0, none⟩) i c1) (.slice (some ⟨ga, 0, none⟩) i c2) (.slice (some ⟨gk, 0, none⟩) i c3) (.slice (some ⟨gl, 0, none⟩) i c4) (.int .i64 (p : Int))
        obtain ⟨m0, m1, m2, m3, m4⟩ := HNW.out
        exact ⟨gr, ga, gk, gl, c1, c2, c3, c4, rfl, ⟨HG.out.chg hcF (by omega), HA2.out.chg hcF (by omega), HK2.out.chg hcF (by omega), HL2.out.chg hcF (by omega)⟩, ⟨by omega, m2, m3, m4⟩, HBF.out.trans (hcF.below (fun k hk => by omega) HBF.out.size)⟩
end Go.Proofs.Ytebjhjmlpodkgaa.KK
