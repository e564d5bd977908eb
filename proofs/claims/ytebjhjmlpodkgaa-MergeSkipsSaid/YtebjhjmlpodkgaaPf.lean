/-
  Merges: the reading of runs; clones of runs, Clip.
-/
import Derived.Test.YtebjhjmlpodkgaaPe
namespace Go.Proofs.Ytebjhjmlpodkgaa.KK
open Go.ChangeShapes Go.WideShapes Go.ChangeAt Go.RowKit Go.Proofs

def zerosA (n : Nat) : List Int := List.replicate n 0
theorem Gd.zeros {rs : List Rn} (h : (runsE (ess rs)).2 = 0) : Gd (ess rs) (zerosA rs.length) := by
  refine ⟨h, by rw [ess_len]; simp [zerosA], fun i hi hi' => ?_⟩
  simp [zerosA]
/-- a new reading: what is new lies above -/
structure RdNew (w w' : World) (A K L : Nat) (R : Option Addr) (rs : List Rn) (a : List Int) : Prop where
  ok : RdOk w' (some ⟨A, 0, none⟩) (some ⟨K, 0, none⟩) (some ⟨L, 0, none⟩) R rs a
  new : w.heap.size ≤ A ∧ w.heap.size ≤ K ∧ w.heap.size ≤ L
  below : Below w.heap.size w w'
set_option maxRecDepth 100000 in
set_option maxHeartbeats 4000000 in
theorem start_any (R : Option Addr) (cr : Nat) (rs : List Rn) (w : World) (hf : RsAt w R rs) (hs : SizedR rs) (h : (runsE (ess rs)).2 = 0) :
    Calls Try.prog 45 #[.slice R rs.length cr] w fun e w' => ∃ ab kb lb ca ck cl : Nat, e = .returned (.agg #[.slice (some ⟨ab, 0, none⟩) rs.length ca, .slice (some ⟨kb, 0, none⟩) rs.length ck, .slice (some ⟨lb, 0, none⟩) rs.length cl, .int .i64 (winA (ess rs) (zerosA rs.length) : Nat), .slice R rs.length cr]) ∧ RdNew w w' ab kb lb R rs (zerosA rs.length) := by
  have hg := Gd.zeros h
  have h1 := hg.len1
  have hks := hg.keys
  have hkl : (nks (ess rs) (zerosA rs.length)).length = rs.length := by rw [hg.len, ess_len]
  have JK := Lib.hid (fun (B : Option Addr) (d : Nat) (w' : World) (hb : Below w.heap.size w w') (hi : IsAt w' B (zerosA rs.length)) => nextKeys_any R B cr d rs (zerosA rs.length) w' (hf.below hb (Nat.le_refl _)) hi (by omega) hs hg.at_)
  have JB := Lib.hid (fun (B : Option Addr) (d : Nat) (w' : World) (hk : KsAt w' B (nks (ess rs) (zerosA rs.length))) => by
    have K := build_ok B d (nks (ess rs) (zerosA rs.length)) w' hk hks
    rw [hkl] at K; exact K)
  have HF := Lib.hid hf
  have HWIN : Hid (wnr (nks (ess rs) (zerosA rs.length)) = winA (ess rs) (zerosA rs.length)) := Lib.hid rfl
  rw [HWIN.out] at JB
  clear hf h hg hks hkl HWIN
  obtain ⟨Z, HZ, hmk⟩ := make_row rs.length (by omega)
  obtain ⟨z, hz⟩ : ∃ z, zerosA rs.length = z := ⟨_, rfl⟩
  have HZZ : Hid (Z.toList = intsV z) := Lib.hid (by rw [← hz]; exact HZ.out)
  rw [hz] at JK JB ⊢
  clear hz HZ
  have HMK := Lib.hid hmk
  clear hmk
  generalize winA (ess rs) z = wv at *
  obtain ⟨n, hn⟩ : ∃ n, rs.length = n := ⟨_, rfl⟩
  rw [hn] at JK JB HMK h1 ⊢
  clear hn
  have hmk := HMK.out
  clear HMK
  obtain ⟨W, hW⟩ : ∃ W, W = (w.alloc (.cells #[.slice none 0 0, .slice none 0 0, .slice none 0 0, .int .i64 0, .slice none 0 0] 83)).alloc (.cells Z 3) := ⟨_, rfl⟩
  have hbW : Below w.heap.size w W := hW ▸ alloc2_below _ _ _
  have hsW : W.heap.size = w.heap.size + 2 := by rw [hW]; simp
  have HR : Hid (Rw5 W w.heap.size 83 (.slice none 0 0) (.slice none 0 0) (.slice none 0 0) (.int .i64 0) (.slice none 0 0)) := Lib.hid (hW ▸ hp2 w _ _)
  have HI : Hid (CR W (w.heap.size + 1) (intsV z)) := Lib.hid (by
    have := CR.new (w := w.alloc (.cells #[.slice none 0 0, .slice none 0 0, .slice none 0 0, .int .i64 0, .slice none 0 0] 83)) (t := 3) HZZ.out
    rw [World.size_alloc] at this
    rw [hW]; exact this)
  have HBW := Lib.hid hbW
  have HSW := Lib.hid hsW
  clear hbW hsW
  go_enter Try.func45, Try.ntmps45
  go_wp2_with fail
  rw [← hW]
  clear hW hmk HZZ
  refine (JK.out _ _ _ HBW.out HI.out.is).mono ?_
  rintro e w1 ⟨gk, cg, rfl, hk1, _, hb1⟩
  have HI1 := Lib.hid (HI.out.below hb1 HI.out.lt)
  have HR1 := Lib.hid (HR.out.below hb1 (Nat.le_refl _))
  have HB1 := Lib.hid (eb_of HBW.out hb1 (Nat.le_refl _))
  have HS1 : Hid (w.heap.size + 2 ≤ w1.heap.size) := Lib.hid (by have := hb1.size; rw [HSW.out] at this; exact this)
  have HK1 := Lib.hid hk1
  clear hk1 hb1 HI HR HBW HSW JK
  go_wp2_with fail
  refine (JB.out _ _ _ HK1.out).mono ?_
  rintro e w2 ⟨kb, lb, cp, cl, rfl, ht⟩
  obtain ⟨w3, hw3⟩ : ∃ w3, w3 = w2.alloc (.cells #[.slice (some ⟨kb, 0, none⟩) n cp, .slice (some ⟨lb, 0, none⟩) n cl, .int .i64 (wv : Int)] 28) := ⟨_, rfl⟩
  have hb23 : Below w2.heap.size w2 w3 := hw3 ▸ alloc_below _ _
  have hb13 := eb_of ht.below hb23 (Nat.le_refl _)
  have HT : Hid (Row3 w3 w2.heap.size 28 (.slice (some ⟨kb, 0, none⟩) n cp) (.slice (some ⟨lb, 0, none⟩) n cl) (.int .i64 (wv : Int))) := Lib.hid (hw3 ▸ heap_alloc_new w2 _)
  have HI3 := Lib.hid (HI1.out.below hb13 HI1.out.lt)
  have HR3 := Lib.hid (HR1.out.below hb13 (Nat.le_refl _))
  have HK3 := Lib.hid (ht.keys.below hb23 ht.keys.lt)
  have HL3 := Lib.hid (ht.lose.below hb23 ht.lose.lt)
  have HN3 : Hid (w.heap.size + 2 ≤ kb ∧ w.heap.size + 2 ≤ lb) := Lib.hid (by have := ht.new; have := HS1.out; omega)
  have HB3 := Lib.hid (eb_of HB1.out hb13 (Nat.le_refl _))
  have hlt : w2.heap.size < w3.heap.size := HT.out.lt
  have hlt2 : w.heap.size ≠ w2.heap.size := by have := ht.below.size; have := HS1.out; omega
  have hlt3 : w2.heap.size ≠ w.heap.size := fun e => hlt2 e.symm
  have t0 := HT.out.c0
  have t1 := HT.out.c1
  have t2 := HT.out.c2
  have k0 := HR3.out.c0
  have k1 := HR3.out.c1
  have k2 := HR3.out.c2
  have k3 := HR3.out.c3
  have k4 := HR3.out.c4
  have z0 := HR3.out.fz 0
  have z1 := HR3.out.fz 1
  have z2 := HR3.out.fz 2
  have z3 := HR3.out.fz 3
  have z4 := HR3.out.fz 4
  clear ht hb23 hb13 HI1 HR1 HB1 HK1 HS1 JB
  rw [hw3] at t0 t1 t2 k0 k1 k2 k3 k4 z0 z1 z2 z3 z4
  go_wp2_with fail
  rw [← hw3]
  clear hw3 t0 t1 t2 k0 k1 k2 k3 k4 z0 z1 z2 z3 z4
  have HX := Lib.hid (HR3.out.set (.slice (some ⟨w.heap.size + 1, 0, none⟩) n n) (.slice (some ⟨kb, 0, none⟩) n cp) (.slice (some ⟨lb, 0, none⟩) n cl) (.int .i64 (wv : Int)) (.slice R n cr))
  have e0 := HX.out.c0
  have e1 := HX.out.c1
  have e2 := HX.out.c2
  have e3 := HX.out.c3
  have e4 := HX.out.c4
  have hcF := set5C w3 w.heap.size (.slice (some ⟨w.heap.size + 1, 0, none⟩) n n) (.slice (some ⟨kb, 0, none⟩) n cp) (.slice (some ⟨lb, 0, none⟩) n cl) (.int .i64 (wv : Int)) (.slice R n cr)
  obtain ⟨m1, m2⟩ := HN3.out
  have hbF := HB3.out.trans (hcF.below (fun k hk => by omega) HB3.out.size)
  refine bodyPost_ret (v := .agg #[.slice (some ⟨w.heap.size + 1, 0, none⟩) n n, .slice (some ⟨kb, 0, none⟩) n cp, .slice (some ⟨lb, 0, none⟩) n cl, .int .i64 (wv : Int), .slice R n cr]) (by simp [results, Try.results45, go_sem, e0, e1, e2, e3, e4]) rfl ?_
  exact ⟨w.heap.size + 1, kb, lb, n, cp, cl, rfl, ⟨⟨(HI3.out.chg hcF (by omega)).is, (HK3.out.chg hcF (by omega)).ks, (HL3.out.chg hcF (by omega)).is, HF.out.below hbF (Nat.le_refl _)⟩, ⟨by omega, by omega, by omega⟩, hbF⟩⟩

/-- the headers of runs -/
def hdsV (rs : List Rn) : List Value := rs.map fun r => .slice r.1 r.2.2.length r.2.1
theorem hdsV_len (rs : List Rn) : (hdsV rs).length = rs.length := by simp [hdsV]
theorem hdsV_one (rs : List Rn) : ∀ u ∈ hdsV rs, u.oneCell' = true := by
  intro u hu
  simp only [hdsV, List.mem_map] at hu
  obtain ⟨x, _, rfl⟩ := hu; rfl
theorem infoSl : (Try.prog.info? 34).map (fun i => (i.zero, i.size, i.bytes)) = some (some (.slice none 0 0), 1, 24) := by kernel_rfl
set_option maxRecDepth 100000 in
set_option maxHeartbeats 1000000 in
theorem cloneR_any (A : Option Addr) (c : Nat) (rs : List Rn) (w : World) (hf : RsAt w A rs) (hne : rs ≠ []) (hn : rs.length ≤ 5000) :
    Calls Try.prog 73 #[.slice A rs.length c] w fun e w' => ∃ g cap, e = .returned (.slice (some ⟨g, 0, none⟩) rs.length cap) ∧ w.heap.size ≤ g ∧ CR w' g (hdsV rs) ∧ Below w.heap.size w w' := by
  rcases hf with h0 | ⟨b, off, rfl, hb, hc0⟩
  · exact absurd h0 hne
  have hc : ∀ j u, (hdsV rs)[j]? = some u → w.cell? ⟨b, off + j, none⟩ = some u := fun j u hj => by
    obtain ⟨hl, rfl⟩ := List.getElem?_eq_some_iff.1 hj
    rw [(hc0 j (by rw [← hdsV_len]; exact hl)).1]
    simp [hdsV]
  obtain ⟨i0, hi, hz0, hz1, hz2⟩ := info_parts infoSl
  have hl : 0 < rs.length := List.length_pos_iff.2 hne
  have HC := Lib.hid hc
  have HL := Lib.hid (hdsV_len rs)
  have HBL := Lib.hid hb
  obtain ⟨n, hnn⟩ : ∃ n, rs.length = n := ⟨_, rfl⟩
  rw [hnn] at hn HL hl ⊢
  clear hc hc0 hb hnn
  have hmade : (w.alloc (.cells #[] 34)).ownsRow w.heap.size 34 1 (.slice (some ⟨w.heap.size, 0, none⟩) 0 0) 0 [] := World.ownsRow_made w #[] 0 (Nat.le_refl _) (Nat.zero_le _) rfl
  have q33 : ∀ (w : World) (a : Option Addr) (n c n' c' : Nat), (binOp .eql 22 (.slice a n c) (.slice none n' c')).run Try.prog w = .ok (.bool a.isNone) w := fun w a n c n' c' => Lib.run_eql_slice_nil w _ _ a n c n' c' Try.underlying22
  go_enter Try.func73, Try.ntmps73
  go_wp2_with (at_builtin; refine wpList_append_own _ rfl (.tmp 5) (.tmp 6) 22 rfl w.heap.size 34 i0 (.slice none 0 0) 1 24 Try.underlying22 hi hz0 hz1 hz2 rfl (by decide) _ 0 [] rfl hmade ⟨b, off, none⟩ n c (hdsV rs) rfl (by rw [HL.out, Nat.mul_one]) (fun j u hj => by rw [add_at']; exact Lib.cell?_alloc_some _ (HC.out j u hj)) (hdsV_one _) (by unfold maxLen; omega) (by omega) (by simp) ?_; intro v' w1 hown hg _; have hb1 : Below w.heap.size w w1 := ((Below.refl w.heap.size w).alloc (Nat.le_refl _) _).grown hg (by simp) (fun k hk => (hmade.lt k hk).1); have HB1 := Lib.hid hb1; rw [Nat.zero_add, List.nil_append] at hown; obtain ⟨g, cap, rfl⟩ : ∃ g cap, v' = .slice (some ⟨g, 0, none⟩) n cap := (by rcases hown.2 with ⟨_, h0⟩ | ⟨g, cap, cur, hv, _⟩; exact absurd h0 (by omega); exact ⟨g, cap, hv⟩); have HO := Lib.hid hown; clear hown hg hb1)
  go_ret
  have hlt := HO.out.lt g rfl
  exact ⟨g, cap, rfl, hlt.1, CR.of_own HO.out hlt.2, HB1.out⟩
/-- what is appended to such a run is new -/
def clipR (r : Rn) : Rn := (r.1, r.2.2.length, r.2.2)
theorem ess_clip (rs : List Rn) : ess (rs.map clipR) = ess rs := by simp [ess, clipR, Function.comp_def]
def CapR (rs : List Rn) : Prop := ∀ r ∈ rs, r.2.2.length ≤ r.2.1 ∧ (r.1 = none → r.2.1 = 0)
set_option maxHeartbeats 1000000 in
theorem clip_any (A : Option Addr) (n c : Nat) (w : World) (hn : n ≤ c) (hnil : A = none → c = 0) (hl : n ≤ 4294967295) :
    Calls Try.prog 76 #[.slice A n c] w fun e w' => e = .returned (.slice A n n) ∧ w = w' := by
  cases A with
  | none =>
    obtain rfl : c = 0 := hnil rfl
    obtain rfl : n = 0 := by omega
    go_enter Try.func76, Try.ntmps76
    go_wp2_with fail
    go_ret
    exact ⟨rfl, rfl⟩
  | some a =>
    have h1 : (n : Int) ≤ (c : Int) := by omega
    obtain ⟨b, off, sp⟩ := a
    go_enter Try.func76, Try.ntmps76
    go_wp2_with fail
    go_ret
    exact ⟨rfl, rfl⟩
end Go.Proofs.Ytebjhjmlpodkgaa.KK
