/-
  slices.symMergeCmpFunc over entries: two ascending neighbours merged, equal ones as they were.
-/
import Derived.Test.YtmobjpmkenpckaaDoorGd
import Derived.Deep.DeepCutAuto
namespace Go.Proofs.YtmobjpmkenpckaaDoor.KK
open Go.ChangeShapes Go.WideShapes Go.ChangeAt Go.RowKit Go.Proofs Go.Sort

/-- what is asked of a merge of N entries or fewer -/
def MergeOk (N : Nat) : Prop := ∀ (base bk o cap n : Nat) (P U W R : List V) (w : World), U.length + W.length ≤ N → 0 < U.length → 0 < W.length → Stb.Asc leV U → Stb.Asc leV W → ERow w bk o (P ++ (U ++ (W ++ R))) → bk < w.heap.size → base ≤ bk → (P ++ (U ++ (W ++ R))).length = n → n ≤ 4000000000 →
    Calls Tryd.prog 53 #[.slice (some ⟨bk, o, none⟩) n cap, .int .i64 P.length, .int .i64 (P.length + U.length : Nat), .int .i64 (P.length + U.length + W.length : Nat), .func (.func 27) #[.agg #[]] #[]] w
      fun e w' => e = .returned (.tuple #[]) ∧ ∃ X, Stb.Stab leV (U ++ W) X ∧ ERow w' bk o (P ++ (X ++ R)) ∧ Below base w w'
/-- the same where one of both has no entry: nothing is called -/
theorem mergeNone {bk o base : Nat} {P U W R : List V} {w : World} (hU : Stb.Asc leV U) (hW : Stb.Asc leV W) (h : U.length = 0 ∨ W.length = 0) (hr : ERow w bk o (P ++ (U ++ (W ++ R)))) :
    ∃ X, Stb.Stab leV (U ++ W) X ∧ ERow w bk o (P ++ (X ++ R)) ∧ Below base w w := by
  refine ⟨U ++ W, Stb.Stab.refl ?_, by simpa using hr, Below.refl _ _⟩
  rcases h with h | h
  · rw [List.eq_nil_of_length_eq_zero h]; exact hW
  · rw [List.eq_nil_of_length_eq_zero h, List.append_nil]; exact hU
set_option maxRecDepth 100000 in
set_option maxHeartbeats 16000000 in
theorem sm_gen (N : Nat) (IH : MergeOk N) (base bk o cap n : Nat) (P U W R : List V) (w : World) (hN : U.length + W.length ≤ N + 1) (hu2 : 2 ≤ U.length) (hw2 : 2 ≤ W.length) (hU : Stb.Asc leV U) (hW : Stb.Asc leV W) (hrow : ERow w bk o (P ++ (U ++ (W ++ R)))) (hb : bk < w.heap.size) (hbase : base ≤ bk) (hlen : (P ++ (U ++ (W ++ R))).length = n) (hn : n ≤ 4000000000) :
    Calls Tryd.prog 53 #[.slice (some ⟨bk, o, none⟩) n cap, .int .i64 P.length, .int .i64 (P.length + U.length : Nat), .int .i64 (P.length + U.length + W.length : Nat), .func (.func 27) #[.agg #[]] #[]] w
      fun e w' => e = .returned (.tuple #[]) ∧ ∃ X, Stb.Stab leV (U ++ W) X ∧ ERow w' bk o (P ++ (X ++ R)) ∧ Below base w w' := by
  obtain ⟨a, haa⟩ : ∃ a, P.length = a := ⟨_, rfl⟩
  obtain ⟨u, huu⟩ : ∃ u, U.length = u := ⟨_, rfl⟩
  obtain ⟨v, hvv⟩ : ∃ v, W.length = v := ⟨_, rfl⟩
  rw [haa, huu, hvv]
  rw [huu] at hu2 hN
  rw [hvv] at hw2 hN
  have hsum : a + u + v ≤ n := by rw [← hlen, ← haa, ← huu, ← hvv]; simp; omega
  have HA := Lib.hid haa
  have HUU := Lib.hid huu
  have HVV := Lib.hid hvv
  have HR := Lib.hid hrow
  have HU := Lib.hid hU
  have HW := Lib.hid hW
  have HLEN := Lib.hid hlen
  have JC := Lib.hid cmpV_any
  clear haa huu hvv hrow hlen hU hW
  obtain ⟨m, hm⟩ : ∃ m, a + u = m := ⟨_, rfl⟩
  obtain ⟨b, hbb⟩ : ∃ b, m + v = b := ⟨_, rfl⟩
  obtain ⟨e, he⟩ : ∃ e, (u + v) / 2 = e := ⟨_, rfl⟩
  obtain ⟨d, hd⟩ : ∃ d, a + e = d := ⟨_, rfl⟩
  obtain ⟨nn, hnn⟩ : ∃ nn, d + m = nn := ⟨_, rfl⟩
  obtain ⟨s0, hs0⟩ : ∃ s0, (if e < u then e - v else 0) = s0 := ⟨_, rfl⟩
  obtain ⟨t0, ht0⟩ : ∃ t0, (if e < u then e else u) = t0 := ⟨_, rfl⟩
  rw [hm, hbb]
  rw [hm, hbb] at hsum
  -- the frame's numbers
  have k1 : IntKind.i64.wrap ((m : Int) - (a : Int)) = (u : Int) := by rw [IntKind.wrap_i64]; omega
  have k2 : ((u : Int) == 1) = false := by rw [beq_eq_false_iff_ne]; omega
  have k2' : ¬ u = 1 := by omega
  have k3 : IntKind.i64.wrap ((b : Int) - (m : Int)) = (v : Int) := by rw [IntKind.wrap_i64]; omega
  have k4 : ((v : Int) == 1) = false := by rw [beq_eq_false_iff_ne]; omega
  have k4' : ¬ v = 1 := by omega
  have k5 : ((a : Int) + (b : Int)) / 2 = (d : Int) := by omega
  have k6 : IntKind.i64.wrap ((d : Int) + (m : Int)) = (nn : Int) := by rw [IntKind.wrap_i64]; omega
  have k8 : IntKind.i64.wrap ((nn : Int) - 1) = ((nn - 1 : Nat) : Int) := by rw [IntKind.wrap_i64]; omega
  have hev : ¬ e < u → e ≤ v ∧ u ≤ e := by omega
  have heu : e < u → v ≤ e := by omega
  have HS := Lib.hid (show m = a + u ∧ b = m + v ∧ e = (u + v) / 2 ∧ d = a + e ∧ nn = d + m ∧ (if e < u then e - v else 0) = s0 ∧ (if e < u then e else u) = t0 from ⟨hm.symm, hbb.symm, he.symm, hd.symm, hnn.symm, hs0, ht0⟩)
  have hst0 : s0 ≤ t0 ∧ t0 ≤ u ∧ t0 ≤ e ∧ e ≤ v + s0 := by
    by_cases h : e < u
    · rw [if_pos h] at hs0 ht0; have := heu h; omega
    · rw [if_neg h] at hs0 ht0; have := hev h; omega
  have bnd : a ≤ 4000000000 ∧ m ≤ 4000000000 ∧ b ≤ 4000000000 ∧ d ≤ 4000000000 ∧ nn ≤ 8000000000 ∧ a ≤ m ∧ m ≤ b ∧ a ≤ d ∧ u ≤ 4000000000 ∧ v ≤ 4000000000 ∧ 1 ≤ nn := by omega
  obtain ⟨b1, b2, b3, b4, b5, b6, b7, b8, b9, b10, b11⟩ := bnd
  go_enter Tryd.func53, Tryd.ntmps53
  by_cases hmd : e < u
  · rw [if_pos hmd] at hs0 ht0
    have k9 : (d : Int) < (m : Int) := by omega
    have k10 : IntKind.i64.wrap ((nn : Int) - (b : Int)) = ((a + s0 : Nat) : Int) := by have := heu hmd; rw [IntKind.wrap_i64]; omega
    have H12 := Lib.hid (show d = a + t0 by omega)
    have HT1 : Hid (∀ (x : V) (T S : List V) (y : V), U.drop t0 = x :: T → W.take (e - t0) = S ++ [y] → leV x y = false) := Lib.hid (fun x T S y _ h => by rw [← ht0, Nat.sub_self] at h; simp at h)
    have HT2 : Hid (∀ (S : List V) (x y : V) (T : List V), U.take s0 = S ++ [x] → W.drop (e - s0) = y :: T → leV x y = true) := Lib.hid (fun S x y T _ h => by rw [List.drop_of_length_le (by rw [HVV.out]; have := heu hmd; omega)] at h; cases h)
    obtain ⟨i0, hi0⟩ : ∃ i0, a + s0 = i0 := ⟨_, rfl⟩
    rw [hi0] at k10
    have HI0 := Lib.hid hi0
    clear hs0 ht0 hm hbb he hd hnn hi0 hev heu
    go_wp2_with fail
    go_loopw [20, 21] (fun vi vj wr => ∃ (i j s t : Nat), vi = .int .i64 i ∧ vj = .int .i64 j ∧ i = a + s ∧ j = a + t ∧ s0 ≤ s ∧ s ≤ t ∧ t ≤ t0 ∧ (∀ (S : List V) (x y : V) (T : List V), U.take s = S ++ [x] → W.drop (e - s) = y :: T → leV x y = true) ∧ (∀ (x : V) (T S : List V) (y : V), U.drop t = x :: T → W.take (e - t) = S ++ [y] → leV x y = false) ∧ ERow wr bk o (P ++ (U ++ (W ++ R))) ∧ Below base w wr) (fun vi vj _ => (intOf vj).toNat - (intOf vi).toNat)
    case atStart => exact ⟨i0, d, s0, t0, by first | rfl | go_num, by first | rfl | go_num, HI0.out.symm, H12.out, Nat.le_refl _, hst0.1, Nat.le_refl _, HT2.out, HT1.out, HR.out, Below.refl _ _⟩
    case round =>
      obtain ⟨i, j, s, t, rfl, rfl, hi, hj, hs0, hst, htt, h2, h1, hr, hbl⟩ := hrel
      have hbw : bk < wr.heap.size := Nat.lt_of_lt_of_le hb hbl.size
      have HI := Lib.hid hi
      have HJ := Lib.hid hj
      have H1 := Lib.hid h1
      have H2 := Lib.hid h2
      have HR2 := Lib.hid hr
      have HB := Lib.hid hbl
      obtain ⟨hm, hbb, he, hd, hnn, -, -⟩ := HS.out
      have hin : i ≤ 4000000000 ∧ j ≤ 4000000000 := by omega
      obtain ⟨hin, hjn⟩ := hin
      clear h1 h2 hr hbl
      by_cases hlt : s < t
      rotate_left
      · have hij : i = j := by omega
        have hst' : s = t := by omega
        subst hst'
        obtain ⟨z, hz⟩ : ∃ z, nn - i = z := ⟨_, rfl⟩
        have q0 : ¬ (i : Int) < (j : Int) := by omega
        have q1 : IntKind.i64.wrap ((nn : Int) - (i : Int)) = (z : Int) := by rw [IntKind.wrap_i64]; omega
        have hzb : z ≤ 4000000000 := by omega
        have hse : s ≤ e := by omega
        -- the four parts
        have hcut := Stb.sym_cut (U1 := U.take s) (U2 := U.drop s) (V1 := W.take (e - s)) (V2 := W.drop (e - s)) preV (by rw [List.take_append_drop]; exact HU.out) (by rw [List.take_append_drop]; exact HW.out) (fun x T S y e1 e2 => H1.out x T S y e1 e2) (fun S x y T e1 e2 => H2.out S x y T e1 e2)
        obtain ⟨U1, hU1⟩ : ∃ U1, U.take s = U1 := ⟨_, rfl⟩
        obtain ⟨U2, hU2⟩ : ∃ U2, U.drop s = U2 := ⟨_, rfl⟩
        obtain ⟨V1, hV1⟩ : ∃ V1, W.take (e - s) = V1 := ⟨_, rfl⟩
        obtain ⟨V2, hV2⟩ : ∃ V2, W.drop (e - s) = V2 := ⟨_, rfl⟩
        have eU : U = U1 ++ U2 := by rw [← hU1, ← hU2]; exact (List.take_append_drop _ _).symm
        have eW : W = V1 ++ V2 := by rw [← hV1, ← hV2]; exact (List.take_append_drop _ _).symm
        rw [hU1, hU2, hV1, hV2] at hcut
        have l1 : U1.length = s := by rw [← hU1, List.length_take, HUU.out]; omega
        have l2 : U2.length = u - s := by rw [← hU2, List.length_drop, HUU.out]
        have l3 : V1.length = e - s := by rw [← hV1, List.length_take, HVV.out]; omega
        have l4 : V2.length = v - (e - s) := by rw [← hV2, List.length_drop, HVV.out]
        have aU := HU.out
        have aW := HW.out
        rw [eU] at aU
        rw [eW] at aW
        obtain ⟨aU1, aU2, -⟩ := Stb.asc_app aU
        obtain ⟨aV1, aV2, -⟩ := Stb.asc_app aW
        have tot : a + (U1.length + (U2.length + (V1.length + (V2.length + R.length)))) = n := by
          have h := HLEN.out
          rw [eU, eW] at h
          have h3 := HA.out
          simp at h
          omega
        have HFIN : Hid (∀ X1 X2, Stb.Stab leV (U1 ++ V1) X1 → Stb.Stab leV (U2 ++ V2) X2 → Stb.Stab leV (U ++ W) (X1 ++ X2)) := Lib.hid (fun X1 X2 g1 g2 => by rw [eU, eW]; exact Stb.stab_halves preV g1 g2 hcut.1 hcut.2.1 hcut.2.2.1 hcut.2.2.2)
        have HRW := Lib.hid (show ERow wr bk o ((P ++ U1) ++ (U2 ++ (V1 ++ (V2 ++ R)))) by have h := HR2.out; rw [eU, eW] at h; simpa using h)
        have JR : Hid (∀ w1, ERow w1 bk o ((P ++ U1) ++ (U2 ++ (V1 ++ (V2 ++ R)))) → bk < w1.heap.size → 0 < U2.length → 0 < V1.length → Calls Tryd.prog 60 #[.slice (some ⟨bk, o, none⟩) n cap, .int .i64 i, .int .i64 m, .int .i64 z, .func (.func 27) #[.agg #[]] #[]] w1 fun e w' => e = .returned (.tuple #[]) ∧ ERow w' bk o ((P ++ U1) ++ (V1 ++ (U2 ++ (V2 ++ R)))) ∧ Below base w1 w') := Lib.hid (fun w1 g1 g2 g3 g4 => by
          have K := ro_any base bk o cap n (P ++ U1) U2 V1 (V2 ++ R) w1 g1 g2 hbase (by simp; have := HA.out; omega) hn g3 g4
          rw [List.length_append, HA.out, l1, l2, l3, show a + s = i by omega, show i + (u - s) = m by omega, show m + (e - s) = z by omega] at K
          exact K)
        have JL : Hid (∀ w1, ERow w1 bk o (P ++ (U1 ++ (V1 ++ (U2 ++ (V2 ++ R))))) → bk < w1.heap.size → 0 < U1.length → 0 < V1.length → Calls Tryd.prog 53 #[.slice (some ⟨bk, o, none⟩) n cap, .int .i64 a, .int .i64 i, .int .i64 d, .func (.func 27) #[.agg #[]] #[]] w1 fun e w' => e = .returned (.tuple #[]) ∧ ∃ X, Stb.Stab leV (U1 ++ V1) X ∧ ERow w' bk o (P ++ (X ++ (U2 ++ (V2 ++ R)))) ∧ Below base w1 w') := Lib.hid (fun w1 g1 g2 g3 g4 => by
          have K := IH base bk o cap n P U1 V1 (U2 ++ (V2 ++ R)) w1 (by rw [l1, l3]; omega) g3 g4 aU1 aV1 g1 g2 hbase (by simp; have := HA.out; omega) hn
          rw [HA.out, l1, l3, show a + s = i by omega, show i + (e - s) = d by omega] at K
          exact K)
        have JT : Hid (∀ X1 w1, X1.length = e → ERow w1 bk o ((P ++ X1) ++ (U2 ++ (V2 ++ R))) → bk < w1.heap.size → 0 < U2.length → 0 < V2.length → Calls Tryd.prog 53 #[.slice (some ⟨bk, o, none⟩) n cap, .int .i64 d, .int .i64 z, .int .i64 b, .func (.func 27) #[.agg #[]] #[]] w1 fun e w' => e = .returned (.tuple #[]) ∧ ∃ X, Stb.Stab leV (U2 ++ V2) X ∧ ERow w' bk o ((P ++ X1) ++ (X ++ R)) ∧ Below base w1 w') := Lib.hid (fun X1 w1 g0 g1 g2 g3 g4 => by
          have K := IH base bk o cap n (P ++ X1) U2 V2 R w1 (by rw [l2, l4]; omega) g3 g4 aU2 aV2 g1 g2 hbase (by simp; have := HA.out; omega) hn
          rw [List.length_append, HA.out, g0, l2, l4, show a + e = d by omega, show d + (u - s) = z by omega, show z + (v - (e - s)) = b by omega] at K
          exact K)
        have HL1 := Lib.hid l1
        have HL2 := Lib.hid l2
        have HL3 := Lib.hid l3
        have HL4 := Lib.hid l4
        have HAS := Lib.hid (show Stb.Asc leV U1 ∧ Stb.Asc leV U2 ∧ Stb.Asc leV V1 ∧ Stb.Asc leV V2 from ⟨aU1, aU2, aV1, aV2⟩)
        have HZ := Lib.hid hz
        have nums : (s < u ↔ i < m) ∧ (s < e ↔ m < z) ∧ (0 < s ↔ a < i) ∧ (s < e ↔ i < d) ∧ (s < u ↔ d < z) ∧ (e - s < v ↔ z < b) := by omega
        have HBW := Lib.hid hbw
        generalize hwo : wr = wo at *
        clear hwo hcut hU1 hU2 hV1 hV2 eU eW l1 l2 l3 l4 aU aW aU1 aU2 aV1 aV2 tot hi hj hij hs0 htt hz hm hbb he hd hnn
        obtain ⟨n1, n2, n3, n4, n5, n6⟩ := nums
        by_cases c0 : s < u
        · by_cases c1 : s < e
          · by_cases c2 : 0 < s
            · by_cases c3 : e - s < v
              · have r1 : (i : Int) < (m : Int) := by omega
                have r2 : (m : Int) < (z : Int) := by omega
                have r3 : (a : Int) < (i : Int) := by omega
                have r4 : (i : Int) < (d : Int) := by omega
                have r5 : (d : Int) < (z : Int) := by omega
                have r6 : (z : Int) < (b : Int) := by omega
                have r1d : decide (i < m) = true := by rw [decide_eq_true_eq]; omega
                have r2d : decide (m < z) = true := by rw [decide_eq_true_eq]; omega
                have r3d : decide (a < i) = true := by rw [decide_eq_true_eq]; omega
                have r4d : decide (i < d) = true := by rw [decide_eq_true_eq]; omega
                have r5d : decide (d < z) = true := by rw [decide_eq_true_eq]; omega
                have r6d : decide (z < b) = true := by rw [decide_eq_true_eq]; omega
                go_wp2_with fail
                refine (JR.out _ HRW.out HBW.out (by rw [HL2.out]; omega) (by rw [HL3.out]; omega)).mono ?_
                rintro e1 w1 ⟨rfl, hr1, hb1⟩
                have HB := Lib.hid (HB.out.trans hb1)
                have HBW := Lib.hid (Nat.lt_of_lt_of_le HBW.out hb1.size)
                have HRW := Lib.hid (show ERow w1 bk o (P ++ (U1 ++ (V1 ++ (U2 ++ (V2 ++ R))))) by simpa using hr1)
                clear hr1 hb1
                go_wp2_with fail
                refine (JL.out _ HRW.out HBW.out (by rw [HL1.out]; omega) (by rw [HL3.out]; omega)).mono ?_
                rintro e2 w2 ⟨rfl, X1, hs1, hr2, hb2⟩
                have HB := Lib.hid (HB.out.trans hb2)
                have HBW := Lib.hid (Nat.lt_of_lt_of_le HBW.out hb2.size)
                have HX1 := Lib.hid hs1
                have HRW := Lib.hid (show ERow w2 bk o ((P ++ X1) ++ (U2 ++ (V2 ++ R))) by simpa using hr2)
                clear hs1 hr2 hb2
                have hXl : X1.length = e := by rw [Stb.stab_length preV HX1.out, List.length_append, HL1.out, HL3.out]; omega
                have HXL := Lib.hid hXl
                clear hXl
                go_wp2_with fail
                refine (JT.out X1 _ HXL.out HRW.out HBW.out (by rw [HL2.out]; omega) (by rw [HL4.out]; omega)).mono ?_
                rintro e3 w3 ⟨rfl, X2, hs2, hr3, hb3⟩
                have HB := Lib.hid (HB.out.trans hb3)
                have HX2 := Lib.hid hs2
                have HRW := Lib.hid hr3
                clear hs2 hr3 hb3
                go_wp2_with fail
                go_end0
                exact ⟨rfl, X1 ++ X2, HFIN.out X1 X2 HX1.out HX2.out, by have g := HRW.out; simpa using g, HB.out⟩
              · have r1 : (i : Int) < (m : Int) := by omega
                have r2 : (m : Int) < (z : Int) := by omega
                have r3 : (a : Int) < (i : Int) := by omega
                have r4 : (i : Int) < (d : Int) := by omega
                have r5 : (d : Int) < (z : Int) := by omega
                have r6 : ¬ (z : Int) < (b : Int) := by omega
                have r1d : decide (i < m) = true := by rw [decide_eq_true_eq]; omega
                have r2d : decide (m < z) = true := by rw [decide_eq_true_eq]; omega
                have r3d : decide (a < i) = true := by rw [decide_eq_true_eq]; omega
                have r4d : decide (i < d) = true := by rw [decide_eq_true_eq]; omega
                have r5d : decide (d < z) = true := by rw [decide_eq_true_eq]; omega
                have r6d : decide (z < b) = false := by rw [decide_eq_false_iff_not]; omega
                go_wp2_with fail
                refine (JR.out _ HRW.out HBW.out (by rw [HL2.out]; omega) (by rw [HL3.out]; omega)).mono ?_
                rintro e1 w1 ⟨rfl, hr1, hb1⟩
                have HB := Lib.hid (HB.out.trans hb1)
                have HBW := Lib.hid (Nat.lt_of_lt_of_le HBW.out hb1.size)
                have HRW := Lib.hid (show ERow w1 bk o (P ++ (U1 ++ (V1 ++ (U2 ++ (V2 ++ R))))) by simpa using hr1)
                clear hr1 hb1
                go_wp2_with fail
                refine (JL.out _ HRW.out HBW.out (by rw [HL1.out]; omega) (by rw [HL3.out]; omega)).mono ?_
                rintro e2 w2 ⟨rfl, X1, hs1, hr2, hb2⟩
                have HB := Lib.hid (HB.out.trans hb2)
                have HBW := Lib.hid (Nat.lt_of_lt_of_le HBW.out hb2.size)
                have HX1 := Lib.hid hs1
                have HRW := Lib.hid (show ERow w2 bk o ((P ++ X1) ++ (U2 ++ (V2 ++ R))) by simpa using hr2)
                clear hs1 hr2 hb2
                have hXl : X1.length = e := by rw [Stb.stab_length preV HX1.out, List.length_append, HL1.out, HL3.out]; omega
                have HXL := Lib.hid hXl
                clear hXl
                obtain ⟨X2, hs2, hr3, -⟩ := mergeNone (base := base) (P := P ++ X1) HAS.out.2.1 HAS.out.2.2.2 (by rw [HL2.out, HL4.out]; omega) HRW.out
                have HX2 := Lib.hid hs2
                have HRW := Lib.hid hr3
                clear hs2 hr3
                go_wp2_with fail
                go_end0
                exact ⟨rfl, X1 ++ X2, HFIN.out X1 X2 HX1.out HX2.out, by have g := HRW.out; simpa using g, HB.out⟩
            · by_cases c3 : e - s < v
              · have r1 : (i : Int) < (m : Int) := by omega
                have r2 : (m : Int) < (z : Int) := by omega
                have r3 : ¬ (a : Int) < (i : Int) := by omega
                have r4 : (i : Int) < (d : Int) := by omega
                have r5 : (d : Int) < (z : Int) := by omega
                have r6 : (z : Int) < (b : Int) := by omega
                have r1d : decide (i < m) = true := by rw [decide_eq_true_eq]; omega
                have r2d : decide (m < z) = true := by rw [decide_eq_true_eq]; omega
                have r3d : decide (a < i) = false := by rw [decide_eq_false_iff_not]; omega
                have r4d : decide (i < d) = true := by rw [decide_eq_true_eq]; omega
                have r5d : decide (d < z) = true := by rw [decide_eq_true_eq]; omega
                have r6d : decide (z < b) = true := by rw [decide_eq_true_eq]; omega
                go_wp2_with fail
                refine (JR.out _ HRW.out HBW.out (by rw [HL2.out]; omega) (by rw [HL3.out]; omega)).mono ?_
                rintro e1 w1 ⟨rfl, hr1, hb1⟩
                have HB := Lib.hid (HB.out.trans hb1)
                have HBW := Lib.hid (Nat.lt_of_lt_of_le HBW.out hb1.size)
                have HRW := Lib.hid (show ERow w1 bk o (P ++ (U1 ++ (V1 ++ (U2 ++ (V2 ++ R))))) by simpa using hr1)
                clear hr1 hb1
                obtain ⟨X1, hs1, hr2, -⟩ := mergeNone (base := base) (P := P) HAS.out.1 HAS.out.2.2.1 (by rw [HL1.out, HL3.out]; omega) HRW.out
                have HX1 := Lib.hid hs1
                have HRW := Lib.hid (show ERow _ bk o ((P ++ X1) ++ (U2 ++ (V2 ++ R))) by simpa using hr2)
                clear hs1 hr2
                have hXl : X1.length = e := by rw [Stb.stab_length preV HX1.out, List.length_append, HL1.out, HL3.out]; omega
                have HXL := Lib.hid hXl
                clear hXl
                go_wp2_with fail
                refine (JT.out X1 _ HXL.out HRW.out HBW.out (by rw [HL2.out]; omega) (by rw [HL4.out]; omega)).mono ?_
                rintro e3 w3 ⟨rfl, X2, hs2, hr3, hb3⟩
                have HB := Lib.hid (HB.out.trans hb3)
                have HX2 := Lib.hid hs2
                have HRW := Lib.hid hr3
                clear hs2 hr3 hb3
                go_wp2_with fail
                go_end0
                exact ⟨rfl, X1 ++ X2, HFIN.out X1 X2 HX1.out HX2.out, by have g := HRW.out; simpa using g, HB.out⟩
              · have r1 : (i : Int) < (m : Int) := by omega
                have r2 : (m : Int) < (z : Int) := by omega
                have r3 : ¬ (a : Int) < (i : Int) := by omega
                have r4 : (i : Int) < (d : Int) := by omega
                have r5 : (d : Int) < (z : Int) := by omega
                have r6 : ¬ (z : Int) < (b : Int) := by omega
                have r1d : decide (i < m) = true := by rw [decide_eq_true_eq]; omega
                have r2d : decide (m < z) = true := by rw [decide_eq_true_eq]; omega
                have r3d : decide (a < i) = false := by rw [decide_eq_false_iff_not]; omega
                have r4d : decide (i < d) = true := by rw [decide_eq_true_eq]; omega
                have r5d : decide (d < z) = true := by rw [decide_eq_true_eq]; omega
                have r6d : decide (z < b) = false := by rw [decide_eq_false_iff_not]; omega
                go_wp2_with fail
                refine (JR.out _ HRW.out HBW.out (by rw [HL2.out]; omega) (by rw [HL3.out]; omega)).mono ?_
                rintro e1 w1 ⟨rfl, hr1, hb1⟩
                have HB := Lib.hid (HB.out.trans hb1)
                have HBW := Lib.hid (Nat.lt_of_lt_of_le HBW.out hb1.size)
                have HRW := Lib.hid (show ERow w1 bk o (P ++ (U1 ++ (V1 ++ (U2 ++ (V2 ++ R))))) by simpa using hr1)
                clear hr1 hb1
                obtain ⟨X1, hs1, hr2, -⟩ := mergeNone (base := base) (P := P) HAS.out.1 HAS.out.2.2.1 (by rw [HL1.out, HL3.out]; omega) HRW.out
                have HX1 := Lib.hid hs1
                have HRW := Lib.hid (show ERow _ bk o ((P ++ X1) ++ (U2 ++ (V2 ++ R))) by simpa using hr2)
                clear hs1 hr2
                have hXl : X1.length = e := by rw [Stb.stab_length preV HX1.out, List.length_append, HL1.out, HL3.out]; omega
                have HXL := Lib.hid hXl
                clear hXl
                obtain ⟨X2, hs2, hr3, -⟩ := mergeNone (base := base) (P := P ++ X1) HAS.out.2.1 HAS.out.2.2.2 (by rw [HL2.out, HL4.out]; omega) HRW.out
                have HX2 := Lib.hid hs2
                have HRW := Lib.hid hr3
                clear hs2 hr3
                go_wp2_with fail
                go_end0
                exact ⟨rfl, X1 ++ X2, HFIN.out X1 X2 HX1.out HX2.out, by have g := HRW.out; simpa using g, HB.out⟩
          · by_cases c2 : 0 < s
            · by_cases c3 : e - s < v
              · have r1 : (i : Int) < (m : Int) := by omega
                have r2 : ¬ (m : Int) < (z : Int) := by omega
                have r3 : (a : Int) < (i : Int) := by omega
                have r4 : ¬ (i : Int) < (d : Int) := by omega
                have r5 : (d : Int) < (z : Int) := by omega
                have r6 : (z : Int) < (b : Int) := by omega
                have r1d : decide (i < m) = true := by rw [decide_eq_true_eq]; omega
                have r2d : decide (m < z) = false := by rw [decide_eq_false_iff_not]; omega
                have r3d : decide (a < i) = true := by rw [decide_eq_true_eq]; omega
                have r4d : decide (i < d) = false := by rw [decide_eq_false_iff_not]; omega
                have r5d : decide (d < z) = true := by rw [decide_eq_true_eq]; omega
                have r6d : decide (z < b) = true := by rw [decide_eq_true_eq]; omega
                have hz0 : V1 = [] := List.eq_nil_of_length_eq_zero (by rw [HL3.out]; omega)
                have HRW := Lib.hid (show ERow wo bk o (P ++ (U1 ++ (V1 ++ (U2 ++ (V2 ++ R))))) by have g := HRW.out; rw [hz0] at g ⊢; simpa using g)
                clear hz0
                obtain ⟨X1, hs1, hr2, -⟩ := mergeNone (base := base) (P := P) HAS.out.1 HAS.out.2.2.1 (by rw [HL1.out, HL3.out]; omega) HRW.out
                have HX1 := Lib.hid hs1
                have HRW := Lib.hid (show ERow _ bk o ((P ++ X1) ++ (U2 ++ (V2 ++ R))) by simpa using hr2)
                clear hs1 hr2
                have hXl : X1.length = e := by rw [Stb.stab_length preV HX1.out, List.length_append, HL1.out, HL3.out]; omega
                have HXL := Lib.hid hXl
                clear hXl
                go_wp2_with fail
                refine (JT.out X1 _ HXL.out HRW.out HBW.out (by rw [HL2.out]; omega) (by rw [HL4.out]; omega)).mono ?_
                rintro e3 w3 ⟨rfl, X2, hs2, hr3, hb3⟩
                have HB := Lib.hid (HB.out.trans hb3)
                have HX2 := Lib.hid hs2
                have HRW := Lib.hid hr3
                clear hs2 hr3 hb3
                go_wp2_with fail
                go_end0
                exact ⟨rfl, X1 ++ X2, HFIN.out X1 X2 HX1.out HX2.out, by have g := HRW.out; simpa using g, HB.out⟩
              · have r1 : (i : Int) < (m : Int) := by omega
                have r2 : ¬ (m : Int) < (z : Int) := by omega
                have r3 : (a : Int) < (i : Int) := by omega
                have r4 : ¬ (i : Int) < (d : Int) := by omega
                have r5 : (d : Int) < (z : Int) := by omega
                have r6 : ¬ (z : Int) < (b : Int) := by omega
                have r1d : decide (i < m) = true := by rw [decide_eq_true_eq]; omega
                have r2d : decide (m < z) = false := by rw [decide_eq_false_iff_not]; omega
                have r3d : decide (a < i) = true := by rw [decide_eq_true_eq]; omega
                have r4d : decide (i < d) = false := by rw [decide_eq_false_iff_not]; omega
                have r5d : decide (d < z) = true := by rw [decide_eq_true_eq]; omega
                have r6d : decide (z < b) = false := by rw [decide_eq_false_iff_not]; omega
                have hz0 : V1 = [] := List.eq_nil_of_length_eq_zero (by rw [HL3.out]; omega)
                have HRW := Lib.hid (show ERow wo bk o (P ++ (U1 ++ (V1 ++ (U2 ++ (V2 ++ R))))) by have g := HRW.out; rw [hz0] at g ⊢; simpa using g)
                clear hz0
                obtain ⟨X1, hs1, hr2, -⟩ := mergeNone (base := base) (P := P) HAS.out.1 HAS.out.2.2.1 (by rw [HL1.out, HL3.out]; omega) HRW.out
                have HX1 := Lib.hid hs1
                have HRW := Lib.hid (show ERow _ bk o ((P ++ X1) ++ (U2 ++ (V2 ++ R))) by simpa using hr2)
                clear hs1 hr2
                have hXl : X1.length = e := by rw [Stb.stab_length preV HX1.out, List.length_append, HL1.out, HL3.out]; omega
                have HXL := Lib.hid hXl
                clear hXl
                obtain ⟨X2, hs2, hr3, -⟩ := mergeNone (base := base) (P := P ++ X1) HAS.out.2.1 HAS.out.2.2.2 (by rw [HL2.out, HL4.out]; omega) HRW.out
                have HX2 := Lib.hid hs2
                have HRW := Lib.hid hr3
                clear hs2 hr3
                go_wp2_with fail
                go_end0
                exact ⟨rfl, X1 ++ X2, HFIN.out X1 X2 HX1.out HX2.out, by have g := HRW.out; simpa using g, HB.out⟩
            · by_cases c3 : e - s < v
              · have r1 : (i : Int) < (m : Int) := by omega
                have r2 : ¬ (m : Int) < (z : Int) := by omega
                have r3 : ¬ (a : Int) < (i : Int) := by omega
                have r4 : ¬ (i : Int) < (d : Int) := by omega
                have r5 : (d : Int) < (z : Int) := by omega
                have r6 : (z : Int) < (b : Int) := by omega
                have r1d : decide (i < m) = true := by rw [decide_eq_true_eq]; omega
                have r2d : decide (m < z) = false := by rw [decide_eq_false_iff_not]; omega
                have r3d : decide (a < i) = false := by rw [decide_eq_false_iff_not]; omega
                have r4d : decide (i < d) = false := by rw [decide_eq_false_iff_not]; omega
                have r5d : decide (d < z) = true := by rw [decide_eq_true_eq]; omega
                have r6d : decide (z < b) = true := by rw [decide_eq_true_eq]; omega
                have hz0 : V1 = [] := List.eq_nil_of_length_eq_zero (by rw [HL3.out]; omega)
                have HRW := Lib.hid (show ERow wo bk o (P ++ (U1 ++ (V1 ++ (U2 ++ (V2 ++ R))))) by have g := HRW.out; rw [hz0] at g ⊢; simpa using g)
                clear hz0
                obtain ⟨X1, hs1, hr2, -⟩ := mergeNone (base := base) (P := P) HAS.out.1 HAS.out.2.2.1 (by rw [HL1.out, HL3.out]; omega) HRW.out
                have HX1 := Lib.hid hs1
                have HRW := Lib.hid (show ERow _ bk o ((P ++ X1) ++ (U2 ++ (V2 ++ R))) by simpa using hr2)
                clear hs1 hr2
                have hXl : X1.length = e := by rw [Stb.stab_length preV HX1.out, List.length_append, HL1.out, HL3.out]; omega
                have HXL := Lib.hid hXl
                clear hXl
                go_wp2_with fail
                refine (JT.out X1 _ HXL.out HRW.out HBW.out (by rw [HL2.out]; omega) (by rw [HL4.out]; omega)).mono ?_
                rintro e3 w3 ⟨rfl, X2, hs2, hr3, hb3⟩
                have HB := Lib.hid (HB.out.trans hb3)
                have HX2 := Lib.hid hs2
                have HRW := Lib.hid hr3
                clear hs2 hr3 hb3
                go_wp2_with fail
                go_end0
                exact ⟨rfl, X1 ++ X2, HFIN.out X1 X2 HX1.out HX2.out, by have g := HRW.out; simpa using g, HB.out⟩
              · have r1 : (i : Int) < (m : Int) := by omega
                have r2 : ¬ (m : Int) < (z : Int) := by omega
                have r3 : ¬ (a : Int) < (i : Int) := by omega
                have r4 : ¬ (i : Int) < (d : Int) := by omega
                have r5 : (d : Int) < (z : Int) := by omega
                have r6 : ¬ (z : Int) < (b : Int) := by omega
                have r1d : decide (i < m) = true := by rw [decide_eq_true_eq]; omega
                have r2d : decide (m < z) = false := by rw [decide_eq_false_iff_not]; omega
                have r3d : decide (a < i) = false := by rw [decide_eq_false_iff_not]; omega
                have r4d : decide (i < d) = false := by rw [decide_eq_false_iff_not]; omega
                have r5d : decide (d < z) = true := by rw [decide_eq_true_eq]; omega
                have r6d : decide (z < b) = false := by rw [decide_eq_false_iff_not]; omega
                have hz0 : V1 = [] := List.eq_nil_of_length_eq_zero (by rw [HL3.out]; omega)
                have HRW := Lib.hid (show ERow wo bk o (P ++ (U1 ++ (V1 ++ (U2 ++ (V2 ++ R))))) by have g := HRW.out; rw [hz0] at g ⊢; simpa using g)
                clear hz0
                obtain ⟨X1, hs1, hr2, -⟩ := mergeNone (base := base) (P := P) HAS.out.1 HAS.out.2.2.1 (by rw [HL1.out, HL3.out]; omega) HRW.out
                have HX1 := Lib.hid hs1
                have HRW := Lib.hid (show ERow _ bk o ((P ++ X1) ++ (U2 ++ (V2 ++ R))) by simpa using hr2)
                clear hs1 hr2
                have hXl : X1.length = e := by rw [Stb.stab_length preV HX1.out, List.length_append, HL1.out, HL3.out]; omega
                have HXL := Lib.hid hXl
                clear hXl
                obtain ⟨X2, hs2, hr3, -⟩ := mergeNone (base := base) (P := P ++ X1) HAS.out.2.1 HAS.out.2.2.2 (by rw [HL2.out, HL4.out]; omega) HRW.out
                have HX2 := Lib.hid hs2
                have HRW := Lib.hid hr3
                clear hs2 hr3
                go_wp2_with fail
                go_end0
                exact ⟨rfl, X1 ++ X2, HFIN.out X1 X2 HX1.out HX2.out, by have g := HRW.out; simpa using g, HB.out⟩
        · by_cases c1 : s < e
          · by_cases c2 : 0 < s
            · by_cases c3 : e - s < v
              · have r1 : ¬ (i : Int) < (m : Int) := by omega
                have r2 : (m : Int) < (z : Int) := by omega
                have r3 : (a : Int) < (i : Int) := by omega
                have r4 : (i : Int) < (d : Int) := by omega
                have r5 : ¬ (d : Int) < (z : Int) := by omega
                have r6 : (z : Int) < (b : Int) := by omega
                have r1d : decide (i < m) = false := by rw [decide_eq_false_iff_not]; omega
                have r2d : decide (m < z) = true := by rw [decide_eq_true_eq]; omega
                have r3d : decide (a < i) = true := by rw [decide_eq_true_eq]; omega
                have r4d : decide (i < d) = true := by rw [decide_eq_true_eq]; omega
                have r5d : decide (d < z) = false := by rw [decide_eq_false_iff_not]; omega
                have r6d : decide (z < b) = true := by rw [decide_eq_true_eq]; omega
                have hz0 : U2 = [] := List.eq_nil_of_length_eq_zero (by rw [HL2.out]; omega)
                have HRW := Lib.hid (show ERow wo bk o (P ++ (U1 ++ (V1 ++ (U2 ++ (V2 ++ R))))) by have g := HRW.out; rw [hz0] at g ⊢; simpa using g)
                clear hz0
                go_wp2_with fail
                refine (JL.out _ HRW.out HBW.out (by rw [HL1.out]; omega) (by rw [HL3.out]; omega)).mono ?_
                rintro e2 w2 ⟨rfl, X1, hs1, hr2, hb2⟩
                have HB := Lib.hid (HB.out.trans hb2)
                have HBW := Lib.hid (Nat.lt_of_lt_of_le HBW.out hb2.size)
                have HX1 := Lib.hid hs1
                have HRW := Lib.hid (show ERow w2 bk o ((P ++ X1) ++ (U2 ++ (V2 ++ R))) by simpa using hr2)
                clear hs1 hr2 hb2
                have hXl : X1.length = e := by rw [Stb.stab_length preV HX1.out, List.length_append, HL1.out, HL3.out]; omega
                have HXL := Lib.hid hXl
                clear hXl
                obtain ⟨X2, hs2, hr3, -⟩ := mergeNone (base := base) (P := P ++ X1) HAS.out.2.1 HAS.out.2.2.2 (by rw [HL2.out, HL4.out]; omega) HRW.out
                have HX2 := Lib.hid hs2
                have HRW := Lib.hid hr3
                clear hs2 hr3
                go_wp2_with fail
                go_end0
                exact ⟨rfl, X1 ++ X2, HFIN.out X1 X2 HX1.out HX2.out, by have g := HRW.out; simpa using g, HB.out⟩
              · have r1 : ¬ (i : Int) < (m : Int) := by omega
                have r2 : (m : Int) < (z : Int) := by omega
                have r3 : (a : Int) < (i : Int) := by omega
                have r4 : (i : Int) < (d : Int) := by omega
                have r5 : ¬ (d : Int) < (z : Int) := by omega
                have r6 : ¬ (z : Int) < (b : Int) := by omega
                have r1d : decide (i < m) = false := by rw [decide_eq_false_iff_not]; omega
                have r2d : decide (m < z) = true := by rw [decide_eq_true_eq]; omega
                have r3d : decide (a < i) = true := by rw [decide_eq_true_eq]; omega
                have r4d : decide (i < d) = true := by rw [decide_eq_true_eq]; omega
                have r5d : decide (d < z) = false := by rw [decide_eq_false_iff_not]; omega
                have r6d : decide (z < b) = false := by rw [decide_eq_false_iff_not]; omega
                have hz0 : U2 = [] := List.eq_nil_of_length_eq_zero (by rw [HL2.out]; omega)
                have HRW := Lib.hid (show ERow wo bk o (P ++ (U1 ++ (V1 ++ (U2 ++ (V2 ++ R))))) by have g := HRW.out; rw [hz0] at g ⊢; simpa using g)
                clear hz0
                go_wp2_with fail
                refine (JL.out _ HRW.out HBW.out (by rw [HL1.out]; omega) (by rw [HL3.out]; omega)).mono ?_
                rintro e2 w2 ⟨rfl, X1, hs1, hr2, hb2⟩
                have HB := Lib.hid (HB.out.trans hb2)
                have HBW := Lib.hid (Nat.lt_of_lt_of_le HBW.out hb2.size)
                have HX1 := Lib.hid hs1
                have HRW := Lib.hid (show ERow w2 bk o ((P ++ X1) ++ (U2 ++ (V2 ++ R))) by simpa using hr2)
                clear hs1 hr2 hb2
                have hXl : X1.length = e := by rw [Stb.stab_length preV HX1.out, List.length_append, HL1.out, HL3.out]; omega
                have HXL := Lib.hid hXl
                clear hXl
                obtain ⟨X2, hs2, hr3, -⟩ := mergeNone (base := base) (P := P ++ X1) HAS.out.2.1 HAS.out.2.2.2 (by rw [HL2.out, HL4.out]; omega) HRW.out
                have HX2 := Lib.hid hs2
                have HRW := Lib.hid hr3
                clear hs2 hr3
                go_wp2_with fail
                go_end0
                exact ⟨rfl, X1 ++ X2, HFIN.out X1 X2 HX1.out HX2.out, by have g := HRW.out; simpa using g, HB.out⟩
            · by_cases c3 : e - s < v
              · have r1 : ¬ (i : Int) < (m : Int) := by omega
                have r2 : (m : Int) < (z : Int) := by omega
                have r3 : ¬ (a : Int) < (i : Int) := by omega
                have r4 : (i : Int) < (d : Int) := by omega
                have r5 : ¬ (d : Int) < (z : Int) := by omega
                have r6 : (z : Int) < (b : Int) := by omega
                have r1d : decide (i < m) = false := by rw [decide_eq_false_iff_not]; omega
                have r2d : decide (m < z) = true := by rw [decide_eq_true_eq]; omega
                have r3d : decide (a < i) = false := by rw [decide_eq_false_iff_not]; omega
                have r4d : decide (i < d) = true := by rw [decide_eq_true_eq]; omega
                have r5d : decide (d < z) = false := by rw [decide_eq_false_iff_not]; omega
                have r6d : decide (z < b) = true := by rw [decide_eq_true_eq]; omega
                have hz0 : U2 = [] := List.eq_nil_of_length_eq_zero (by rw [HL2.out]; omega)
                have HRW := Lib.hid (show ERow wo bk o (P ++ (U1 ++ (V1 ++ (U2 ++ (V2 ++ R))))) by have g := HRW.out; rw [hz0] at g ⊢; simpa using g)
                clear hz0
                obtain ⟨X1, hs1, hr2, -⟩ := mergeNone (base := base) (P := P) HAS.out.1 HAS.out.2.2.1 (by rw [HL1.out, HL3.out]; omega) HRW.out
                have HX1 := Lib.hid hs1
                have HRW := Lib.hid (show ERow _ bk o ((P ++ X1) ++ (U2 ++ (V2 ++ R))) by simpa using hr2)
                clear hs1 hr2
                have hXl : X1.length = e := by rw [Stb.stab_length preV HX1.out, List.length_append, HL1.out, HL3.out]; omega
                have HXL := Lib.hid hXl
                clear hXl
                obtain ⟨X2, hs2, hr3, -⟩ := mergeNone (base := base) (P := P ++ X1) HAS.out.2.1 HAS.out.2.2.2 (by rw [HL2.out, HL4.out]; omega) HRW.out
                have HX2 := Lib.hid hs2
                have HRW := Lib.hid hr3
                clear hs2 hr3
                go_wp2_with fail
                go_end0
                exact ⟨rfl, X1 ++ X2, HFIN.out X1 X2 HX1.out HX2.out, by have g := HRW.out; simpa using g, HB.out⟩
              · have r1 : ¬ (i : Int) < (m : Int) := by omega
                have r2 : (m : Int) < (z : Int) := by omega
                have r3 : ¬ (a : Int) < (i : Int) := by omega
                have r4 : (i : Int) < (d : Int) := by omega
                have r5 : ¬ (d : Int) < (z : Int) := by omega
                have r6 : ¬ (z : Int) < (b : Int) := by omega
                have r1d : decide (i < m) = false := by rw [decide_eq_false_iff_not]; omega
                have r2d : decide (m < z) = true := by rw [decide_eq_true_eq]; omega
                have r3d : decide (a < i) = false := by rw [decide_eq_false_iff_not]; omega
                have r4d : decide (i < d) = true := by rw [decide_eq_true_eq]; omega
                have r5d : decide (d < z) = false := by rw [decide_eq_false_iff_not]; omega
                have r6d : decide (z < b) = false := by rw [decide_eq_false_iff_not]; omega
                have hz0 : U2 = [] := List.eq_nil_of_length_eq_zero (by rw [HL2.out]; omega)
                have HRW := Lib.hid (show ERow wo bk o (P ++ (U1 ++ (V1 ++ (U2 ++ (V2 ++ R))))) by have g := HRW.out; rw [hz0] at g ⊢; simpa using g)
                clear hz0
                obtain ⟨X1, hs1, hr2, -⟩ := mergeNone (base := base) (P := P) HAS.out.1 HAS.out.2.2.1 (by rw [HL1.out, HL3.out]; omega) HRW.out
                have HX1 := Lib.hid hs1
                have HRW := Lib.hid (show ERow _ bk o ((P ++ X1) ++ (U2 ++ (V2 ++ R))) by simpa using hr2)
                clear hs1 hr2
                have hXl : X1.length = e := by rw [Stb.stab_length preV HX1.out, List.length_append, HL1.out, HL3.out]; omega
                have HXL := Lib.hid hXl
                clear hXl
                obtain ⟨X2, hs2, hr3, -⟩ := mergeNone (base := base) (P := P ++ X1) HAS.out.2.1 HAS.out.2.2.2 (by rw [HL2.out, HL4.out]; omega) HRW.out
                have HX2 := Lib.hid hs2
                have HRW := Lib.hid hr3
                clear hs2 hr3
                go_wp2_with fail
                go_end0
                exact ⟨rfl, X1 ++ X2, HFIN.out X1 X2 HX1.out HX2.out, by have g := HRW.out; simpa using g, HB.out⟩
          · by_cases c2 : 0 < s
            · by_cases c3 : e - s < v
              · have r1 : ¬ (i : Int) < (m : Int) := by omega
                have r2 : ¬ (m : Int) < (z : Int) := by omega
                have r3 : (a : Int) < (i : Int) := by omega
                have r4 : ¬ (i : Int) < (d : Int) := by omega
                have r5 : ¬ (d : Int) < (z : Int) := by omega
                have r6 : (z : Int) < (b : Int) := by omega
                have r1d : decide (i < m) = false := by rw [decide_eq_false_iff_not]; omega
                have r2d : decide (m < z) = false := by rw [decide_eq_false_iff_not]; omega
                have r3d : decide (a < i) = true := by rw [decide_eq_true_eq]; omega
                have r4d : decide (i < d) = false := by rw [decide_eq_false_iff_not]; omega
                have r5d : decide (d < z) = false := by rw [decide_eq_false_iff_not]; omega
                have r6d : decide (z < b) = true := by rw [decide_eq_true_eq]; omega
                have hz0 : U2 = [] := List.eq_nil_of_length_eq_zero (by rw [HL2.out]; omega)
                have HRW := Lib.hid (show ERow wo bk o (P ++ (U1 ++ (V1 ++ (U2 ++ (V2 ++ R))))) by have g := HRW.out; rw [hz0] at g ⊢; simpa using g)
                clear hz0
                obtain ⟨X1, hs1, hr2, -⟩ := mergeNone (base := base) (P := P) HAS.out.1 HAS.out.2.2.1 (by rw [HL1.out, HL3.out]; omega) HRW.out
                have HX1 := Lib.hid hs1
                have HRW := Lib.hid (show ERow _ bk o ((P ++ X1) ++ (U2 ++ (V2 ++ R))) by simpa using hr2)
                clear hs1 hr2
                have hXl : X1.length = e := by rw [Stb.stab_length preV HX1.out, List.length_append, HL1.out, HL3.out]; omega
                have HXL := Lib.hid hXl
                clear hXl
                obtain ⟨X2, hs2, hr3, -⟩ := mergeNone (base := base) (P := P ++ X1) HAS.out.2.1 HAS.out.2.2.2 (by rw [HL2.out, HL4.out]; omega) HRW.out
                have HX2 := Lib.hid hs2
                have HRW := Lib.hid hr3
                clear hs2 hr3
                go_wp2_with fail
                go_end0
                exact ⟨rfl, X1 ++ X2, HFIN.out X1 X2 HX1.out HX2.out, by have g := HRW.out; simpa using g, HB.out⟩
              · have r1 : ¬ (i : Int) < (m : Int) := by omega
                have r2 : ¬ (m : Int) < (z : Int) := by omega
                have r3 : (a : Int) < (i : Int) := by omega
                have r4 : ¬ (i : Int) < (d : Int) := by omega
                have r5 : ¬ (d : Int) < (z : Int) := by omega
                have r6 : ¬ (z : Int) < (b : Int) := by omega
                have r1d : decide (i < m) = false := by rw [decide_eq_false_iff_not]; omega
                have r2d : decide (m < z) = false := by rw [decide_eq_false_iff_not]; omega
                have r3d : decide (a < i) = true := by rw [decide_eq_true_eq]; omega
                have r4d : decide (i < d) = false := by rw [decide_eq_false_iff_not]; omega
                have r5d : decide (d < z) = false := by rw [decide_eq_false_iff_not]; omega
                have r6d : decide (z < b) = false := by rw [decide_eq_false_iff_not]; omega
                have hz0 : U2 = [] := List.eq_nil_of_length_eq_zero (by rw [HL2.out]; omega)
                have HRW := Lib.hid (show ERow wo bk o (P ++ (U1 ++ (V1 ++ (U2 ++ (V2 ++ R))))) by have g := HRW.out; rw [hz0] at g ⊢; simpa using g)
                clear hz0
                obtain ⟨X1, hs1, hr2, -⟩ := mergeNone (base := base) (P := P) HAS.out.1 HAS.out.2.2.1 (by rw [HL1.out, HL3.out]; omega) HRW.out
                have HX1 := Lib.hid hs1
                have HRW := Lib.hid (show ERow _ bk o ((P ++ X1) ++ (U2 ++ (V2 ++ R))) by simpa using hr2)
                clear hs1 hr2
                have hXl : X1.length = e := by rw [Stb.stab_length preV HX1.out, List.length_append, HL1.out, HL3.out]; omega
                have HXL := Lib.hid hXl
                clear hXl
                obtain ⟨X2, hs2, hr3, -⟩ := mergeNone (base := base) (P := P ++ X1) HAS.out.2.1 HAS.out.2.2.2 (by rw [HL2.out, HL4.out]; omega) HRW.out
                have HX2 := Lib.hid hs2
                have HRW := Lib.hid hr3
                clear hs2 hr3
                go_wp2_with fail
                go_end0
                exact ⟨rfl, X1 ++ X2, HFIN.out X1 X2 HX1.out HX2.out, by have g := HRW.out; simpa using g, HB.out⟩
            · by_cases c3 : e - s < v
              · have r1 : ¬ (i : Int) < (m : Int) := by omega
                have r2 : ¬ (m : Int) < (z : Int) := by omega
                have r3 : ¬ (a : Int) < (i : Int) := by omega
                have r4 : ¬ (i : Int) < (d : Int) := by omega
                have r5 : ¬ (d : Int) < (z : Int) := by omega
                have r6 : (z : Int) < (b : Int) := by omega
                have r1d : decide (i < m) = false := by rw [decide_eq_false_iff_not]; omega
                have r2d : decide (m < z) = false := by rw [decide_eq_false_iff_not]; omega
                have r3d : decide (a < i) = false := by rw [decide_eq_false_iff_not]; omega
                have r4d : decide (i < d) = false := by rw [decide_eq_false_iff_not]; omega
                have r5d : decide (d < z) = false := by rw [decide_eq_false_iff_not]; omega
                have r6d : decide (z < b) = true := by rw [decide_eq_true_eq]; omega
                have hz0 : U2 = [] := List.eq_nil_of_length_eq_zero (by rw [HL2.out]; omega)
                have HRW := Lib.hid (show ERow wo bk o (P ++ (U1 ++ (V1 ++ (U2 ++ (V2 ++ R))))) by have g := HRW.out; rw [hz0] at g ⊢; simpa using g)
                clear hz0
                obtain ⟨X1, hs1, hr2, -⟩ := mergeNone (base := base) (P := P) HAS.out.1 HAS.out.2.2.1 (by rw [HL1.out, HL3.out]; omega) HRW.out
                have HX1 := Lib.hid hs1
                have HRW := Lib.hid (show ERow _ bk o ((P ++ X1) ++ (U2 ++ (V2 ++ R))) by simpa using hr2)
                clear hs1 hr2
                have hXl : X1.length = e := by rw [Stb.stab_length preV HX1.out, List.length_append, HL1.out, HL3.out]; omega
                have HXL := Lib.hid hXl
                clear hXl
                obtain ⟨X2, hs2, hr3, -⟩ := mergeNone (base := base) (P := P ++ X1) HAS.out.2.1 HAS.out.2.2.2 (by rw [HL2.out, HL4.out]; omega) HRW.out
                have HX2 := Lib.hid hs2
                have HRW := Lib.hid hr3
                clear hs2 hr3
                go_wp2_with fail
                go_end0
                exact ⟨rfl, X1 ++ X2, HFIN.out X1 X2 HX1.out HX2.out, by have g := HRW.out; simpa using g, HB.out⟩
              · have r1 : ¬ (i : Int) < (m : Int) := by omega
                have r2 : ¬ (m : Int) < (z : Int) := by omega
                have r3 : ¬ (a : Int) < (i : Int) := by omega
                have r4 : ¬ (i : Int) < (d : Int) := by omega
                have r5 : ¬ (d : Int) < (z : Int) := by omega
                have r6 : ¬ (z : Int) < (b : Int) := by omega
                have r1d : decide (i < m) = false := by rw [decide_eq_false_iff_not]; omega
                have r2d : decide (m < z) = false := by rw [decide_eq_false_iff_not]; omega
                have r3d : decide (a < i) = false := by rw [decide_eq_false_iff_not]; omega
                have r4d : decide (i < d) = false := by rw [decide_eq_false_iff_not]; omega
                have r5d : decide (d < z) = false := by rw [decide_eq_false_iff_not]; omega
                have r6d : decide (z < b) = false := by rw [decide_eq_false_iff_not]; omega
                have hz0 : U2 = [] := List.eq_nil_of_length_eq_zero (by rw [HL2.out]; omega)
                have HRW := Lib.hid (show ERow wo bk o (P ++ (U1 ++ (V1 ++ (U2 ++ (V2 ++ R))))) by have g := HRW.out; rw [hz0] at g ⊢; simpa using g)
                clear hz0
                obtain ⟨X1, hs1, hr2, -⟩ := mergeNone (base := base) (P := P) HAS.out.1 HAS.out.2.2.1 (by rw [HL1.out, HL3.out]; omega) HRW.out
                have HX1 := Lib.hid hs1
                have HRW := Lib.hid (show ERow _ bk o ((P ++ X1) ++ (U2 ++ (V2 ++ R))) by simpa using hr2)
                clear hs1 hr2
                have hXl : X1.length = e := by rw [Stb.stab_length preV HX1.out, List.length_append, HL1.out, HL3.out]; omega
                have HXL := Lib.hid hXl
                clear hXl
                obtain ⟨X2, hs2, hr3, -⟩ := mergeNone (base := base) (P := P ++ X1) HAS.out.2.1 HAS.out.2.2.2 (by rw [HL2.out, HL4.out]; omega) HRW.out
                have HX2 := Lib.hid hs2
                have HRW := Lib.hid hr3
                clear hs2 hr3
                go_wp2_with fail
                go_end0
                exact ⟨rfl, X1 ++ X2, HFIN.out X1 X2 HX1.out HX2.out, by have g := HRW.out; simpa using g, HB.out⟩
      obtain ⟨h, hh⟩ : ∃ h, (i + j) / 2 = h := ⟨_, rfl⟩
      obtain ⟨q, hq⟩ : ∃ q, h = a + q := ⟨h - a, by omega⟩
      obtain ⟨g, hg⟩ : ∃ g, nn - 1 - h = g := ⟨_, rfl⟩
      have hq1 : s ≤ q := by omega
      have hq2 : q < t := by omega
      obtain ⟨f, hf⟩ : ∃ f, e - q = f + 1 := ⟨e - q - 1, by omega⟩
      have hqu : q < U.length := by rw [HUU.out]; omega
      have hfw : f < W.length := by rw [HVV.out]; omega
      have p1 : (i : Int) < (j : Int) := by omega
      have p2 : ((i : Int) + (j : Int)) / 2 = (h : Int) := by omega
      have p3 : IntKind.i64.wrap (((nn - 1 : Nat) : Int) - (h : Int)) = (g : Int) := by rw [IntKind.wrap_i64]; omega
      have p4 : (h : Int) < (n : Int) := by omega
      have p5 : (g : Int) < (n : Int) := by omega
      obtain ⟨x, hx⟩ : ∃ x, U[q] = x := ⟨_, rfl⟩
      obtain ⟨D, hD⟩ : ∃ D, U.drop (q + 1) = D := ⟨_, rfl⟩
      obtain ⟨y, hy⟩ : ∃ y, W[f] = y := ⟨_, rfl⟩
      obtain ⟨E, hE⟩ : ∃ E, W.drop (f + 1) = E := ⟨_, rfl⟩
      have eU0 := List.drop_eq_getElem_cons hqu
      have eW0 := List.drop_eq_getElem_cons hfw
      rw [hx, hD] at eU0
      rw [hy, hE] at eW0
      have eU : U = U.take q ++ x :: D := by rw [← eU0]; exact (List.take_append_drop q U).symm
      have eW : W = W.take f ++ y :: E := by rw [← eW0]; exact (List.take_append_drop f W).symm
      have hx1 : ERow wr bk o ((P ++ U.take q) ++ x :: (D ++ (W ++ R))) := by
        have g := HR2.out
        have e2 : P ++ (U ++ (W ++ R)) = (P ++ U.take q) ++ x :: (D ++ (W ++ R)) := by
          have e3 : U ++ (W ++ R) = (U.take q ++ x :: D) ++ (W ++ R) := congrArg (· ++ (W ++ R)) eU
          rw [e3]; simp
        rw [e2] at g
        exact g
      have hx2 : ERow wr bk o ((P ++ (U ++ W.take f)) ++ y :: (E ++ R)) := by
        have g := HR2.out
        have e2 : P ++ (U ++ (W ++ R)) = (P ++ (U ++ W.take f)) ++ y :: (E ++ R) := by
          have e3 : W ++ R = (W.take f ++ y :: E) ++ R := congrArg (· ++ R) eW
          rw [e3]; simp
        rw [e2] at g
        exact g
      obtain ⟨x0, x1, x2, x3⟩ := row_abv hx1 hbw (i := h) (by rw [List.length_append, List.length_take, HA.out, HUU.out]; omega)
      obtain ⟨y0, y1, y2, y3⟩ := row_abv hx2 hbw (i := g) (by rw [List.length_append, List.length_append, List.length_take, HA.out, HUU.out, HVV.out]; omega)
      have HQ := Lib.hid hq
      have HF := Lib.hid hf
      have J := Lib.hid (fun w => JC.out y x w)
      have HX1 : Hid (∀ (S : List V) (x' : V), U.take (q + 1) = S ++ [x'] → x' = x) := Lib.hid (fun S x' e => (take_snoc hqu e).trans hx)
      have HX2 : Hid (∀ (x' : V) (T : List V), U.drop q = x' :: T → x' = x) := Lib.hid (fun x' T e => (drop_cons hqu e).trans hx)
      have HY1 : Hid (∀ (S : List V) (y' : V), W.take (e - q) = S ++ [y'] → y' = y) := Lib.hid (fun S y' g => by rw [hf] at g; exact (take_snoc hfw g).trans hy)
      have HY2 : Hid (∀ (y' : V) (T : List V), W.drop (e - (q + 1)) = y' :: T → y' = y) := Lib.hid (fun y' T g => by rw [show e - (q + 1) = f by omega] at g; exact (drop_cons hfw g).trans hy)
      have hq3 : q + 1 ≤ t := hq2
      clear hx1 hx2 hi hj hq hh hg hf hx hD hy hE eU0 eW0 eU eW hm hbb he hd hnn hqu hfw
      by_cases ho : El.ord y.1 x.1 < 0
      · have hdd : decide (El.ord y.1 x.1 < 0) = true := by simpa using ho
        have HLE := Lib.hid (leV_false (x := x) (y := y) ho)
        clear ho
        generalize El.ord y.1 x.1 = ov at *
        go_wp2_with fail
        refine wp_region_abv (by first | assumption | kernel_rfl) (by kernel_rfl) ?_
        repeat (first | go_big_quiet_step (exact callAbv (J.out _)) | quiet_step (exact callAbv (J.out _)))
        refine wpQuiet_nil ?_
        intro w2 hw2
        obtain ⟨p, rfl⟩ := hw2
        go_wp2_with fail
        go_roundw
        case rel => exact ⟨i, h, s, q, rfl, by first | rfl | go_num, HI.out, HQ.out, hs0, hq1, by omega, H2.out, (fun x' T S y' g1 g2 => by rw [HX2.out x' T g1, HY1.out S y' g2]; exact HLE.out), HR2.out.below p.h hbw, below_abv HB.out (by omega) p⟩
        case measure => have := HQ.out; have := HJ.out; simp [intOf]; omega
      · have hdd : decide (El.ord y.1 x.1 < 0) = false := by simpa using ho
        have HLE := Lib.hid (leV_true (x := x) (y := y) ho)
        clear ho
        generalize El.ord y.1 x.1 = ov at *
        go_wp2_with fail
        refine wp_region_abv (by first | assumption | kernel_rfl) (by kernel_rfl) ?_
        repeat (first | go_big_quiet_step (exact callAbv (J.out _)) | quiet_step (exact callAbv (J.out _)))
        refine wpQuiet_nil ?_
        intro w2 hw2
        obtain ⟨p, rfl⟩ := hw2
        go_wp2_with fail
        go_roundw
        case rel => exact ⟨h + 1, j, q + 1, t, by go_num, rfl, by have := HQ.out; omega, HJ.out, by omega, hq3, htt, (fun S x' y' T g1 g2 => by rw [HX1.out S x' g1, HY2.out y' T g2]; exact HLE.out), H1.out, HR2.out.below p.h hbw, below_abv HB.out (by omega) p⟩
        case measure => have := HQ.out; have := HJ.out; simp [intOf]; omega
  · rw [if_neg hmd] at hs0 ht0
    have k9 : ¬ (d : Int) < (m : Int) := by omega
    have H12 := Lib.hid (show m = a + t0 by omega)
    have HT1 : Hid (∀ (x : V) (T S : List V) (y : V), U.drop t0 = x :: T → W.take (e - t0) = S ++ [y] → leV x y = false) := Lib.hid (fun x T S y h _ => by rw [← ht0, List.drop_of_length_le (by rw [HUU.out]; exact Nat.le_refl _)] at h; cases h)
    have HT2 : Hid (∀ (S : List V) (x y : V) (T : List V), U.take s0 = S ++ [x] → W.drop (e - s0) = y :: T → leV x y = true) := Lib.hid (fun S x y T h _ => by rw [← hs0] at h; simp at h)
    have HI0 := Lib.hid (show a + s0 = a by omega)
    clear hs0 ht0 hm hbb he hd hnn hev heu
    go_wp2_with fail
    go_loopw [20, 21] (fun vi vj wr => ∃ (i j s t : Nat), vi = .int .i64 i ∧ vj = .int .i64 j ∧ i = a + s ∧ j = a + t ∧ s0 ≤ s ∧ s ≤ t ∧ t ≤ t0 ∧ (∀ (S : List V) (x y : V) (T : List V), U.take s = S ++ [x] → W.drop (e - s) = y :: T → leV x y = true) ∧ (∀ (x : V) (T S : List V) (y : V), U.drop t = x :: T → W.take (e - t) = S ++ [y] → leV x y = false) ∧ ERow wr bk o (P ++ (U ++ (W ++ R))) ∧ Below base w wr) (fun vi vj _ => (intOf vj).toNat - (intOf vi).toNat)
    case atStart => exact ⟨a, m, s0, t0, by first | rfl | go_num, by first | rfl | go_num, HI0.out.symm, H12.out, Nat.le_refl _, hst0.1, Nat.le_refl _, HT2.out, HT1.out, HR.out, Below.refl _ _⟩
    case round =>
      obtain ⟨i, j, s, t, rfl, rfl, hi, hj, hs0, hst, htt, h2, h1, hr, hbl⟩ := hrel
      have hbw : bk < wr.heap.size := Nat.lt_of_lt_of_le hb hbl.size
      have HI := Lib.hid hi
      have HJ := Lib.hid hj
      have H1 := Lib.hid h1
      have H2 := Lib.hid h2
      have HR2 := Lib.hid hr
      have HB := Lib.hid hbl
      obtain ⟨hm, hbb, he, hd, hnn, -, -⟩ := HS.out
      have hin : i ≤ 4000000000 ∧ j ≤ 4000000000 := by omega
      obtain ⟨hin, hjn⟩ := hin
      clear h1 h2 hr hbl
      by_cases hlt : s < t
      rotate_left
      · have hij : i = j := by omega
        have hst' : s = t := by omega
        subst hst'
        obtain ⟨z, hz⟩ : ∃ z, nn - i = z := ⟨_, rfl⟩
        have q0 : ¬ (i : Int) < (j : Int) := by omega
        have q1 : IntKind.i64.wrap ((nn : Int) - (i : Int)) = (z : Int) := by rw [IntKind.wrap_i64]; omega
        have hzb : z ≤ 4000000000 := by omega
        have hse : s ≤ e := by omega
        -- the four parts
        have hcut := Stb.sym_cut (U1 := U.take s) (U2 := U.drop s) (V1 := W.take (e - s)) (V2 := W.drop (e - s)) preV (by rw [List.take_append_drop]; exact HU.out) (by rw [List.take_append_drop]; exact HW.out) (fun x T S y e1 e2 => H1.out x T S y e1 e2) (fun S x y T e1 e2 => H2.out S x y T e1 e2)
        obtain ⟨U1, hU1⟩ : ∃ U1, U.take s = U1 := ⟨_, rfl⟩
        obtain ⟨U2, hU2⟩ : ∃ U2, U.drop s = U2 := ⟨_, rfl⟩
        obtain ⟨V1, hV1⟩ : ∃ V1, W.take (e - s) = V1 := ⟨_, rfl⟩
        obtain ⟨V2, hV2⟩ : ∃ V2, W.drop (e - s) = V2 := ⟨_, rfl⟩
        have eU : U = U1 ++ U2 := by rw [← hU1, ← hU2]; exact (List.take_append_drop _ _).symm
        have eW : W = V1 ++ V2 := by rw [← hV1, ← hV2]; exact (List.take_append_drop _ _).symm
        rw [hU1, hU2, hV1, hV2] at hcut
        have l1 : U1.length = s := by rw [← hU1, List.length_take, HUU.out]; omega
        have l2 : U2.length = u - s := by rw [← hU2, List.length_drop, HUU.out]
        have l3 : V1.length = e - s := by rw [← hV1, List.length_take, HVV.out]; omega
        have l4 : V2.length = v - (e - s) := by rw [← hV2, List.length_drop, HVV.out]
        have aU := HU.out
        have aW := HW.out
        rw [eU] at aU
        rw [eW] at aW
        obtain ⟨aU1, aU2, -⟩ := Stb.asc_app aU
        obtain ⟨aV1, aV2, -⟩ := Stb.asc_app aW
        have tot : a + (U1.length + (U2.length + (V1.length + (V2.length + R.length)))) = n := by
          have h := HLEN.out
          rw [eU, eW] at h
          have h3 := HA.out
          simp at h
          omega
        have HFIN : Hid (∀ X1 X2, Stb.Stab leV (U1 ++ V1) X1 → Stb.Stab leV (U2 ++ V2) X2 → Stb.Stab leV (U ++ W) (X1 ++ X2)) := Lib.hid (fun X1 X2 g1 g2 => by rw [eU, eW]; exact Stb.stab_halves preV g1 g2 hcut.1 hcut.2.1 hcut.2.2.1 hcut.2.2.2)
        have HRW := Lib.hid (show ERow wr bk o ((P ++ U1) ++ (U2 ++ (V1 ++ (V2 ++ R)))) by have h := HR2.out; rw [eU, eW] at h; simpa using h)
        have JR : Hid (∀ w1, ERow w1 bk o ((P ++ U1) ++ (U2 ++ (V1 ++ (V2 ++ R)))) → bk < w1.heap.size → 0 < U2.length → 0 < V1.length → Calls Tryd.prog 60 #[.slice (some ⟨bk, o, none⟩) n cap, .int .i64 i, .int .i64 m, .int .i64 z, .func (.func 27) #[.agg #[]] #[]] w1 fun e w' => e = .returned (.tuple #[]) ∧ ERow w' bk o ((P ++ U1) ++ (V1 ++ (U2 ++ (V2 ++ R)))) ∧ Below base w1 w') := Lib.hid (fun w1 g1 g2 g3 g4 => by
          have K := ro_any base bk o cap n (P ++ U1) U2 V1 (V2 ++ R) w1 g1 g2 hbase (by simp; have := HA.out; omega) hn g3 g4
          rw [List.length_append, HA.out, l1, l2, l3, show a + s = i by omega, show i + (u - s) = m by omega, show m + (e - s) = z by omega] at K
          exact K)
        have JL : Hid (∀ w1, ERow w1 bk o (P ++ (U1 ++ (V1 ++ (U2 ++ (V2 ++ R))))) → bk < w1.heap.size → 0 < U1.length → 0 < V1.length → Calls Tryd.prog 53 #[.slice (some ⟨bk, o, none⟩) n cap, .int .i64 a, .int .i64 i, .int .i64 d, .func (.func 27) #[.agg #[]] #[]] w1 fun e w' => e = .returned (.tuple #[]) ∧ ∃ X, Stb.Stab leV (U1 ++ V1) X ∧ ERow w' bk o (P ++ (X ++ (U2 ++ (V2 ++ R)))) ∧ Below base w1 w') := Lib.hid (fun w1 g1 g2 g3 g4 => by
          have K := IH base bk o cap n P U1 V1 (U2 ++ (V2 ++ R)) w1 (by rw [l1, l3]; omega) g3 g4 aU1 aV1 g1 g2 hbase (by simp; have := HA.out; omega) hn
          rw [HA.out, l1, l3, show a + s = i by omega, show i + (e - s) = d by omega] at K
          exact K)
        have JT : Hid (∀ X1 w1, X1.length = e → ERow w1 bk o ((P ++ X1) ++ (U2 ++ (V2 ++ R))) → bk < w1.heap.size → 0 < U2.length → 0 < V2.length → Calls Tryd.prog 53 #[.slice (some ⟨bk, o, none⟩) n cap, .int .i64 d, .int .i64 z, .int .i64 b, .func (.func 27) #[.agg #[]] #[]] w1 fun e w' => e = .returned (.tuple #[]) ∧ ∃ X, Stb.Stab leV (U2 ++ V2) X ∧ ERow w' bk o ((P ++ X1) ++ (X ++ R)) ∧ Below base w1 w') := Lib.hid (fun X1 w1 g0 g1 g2 g3 g4 => by
          have K := IH base bk o cap n (P ++ X1) U2 V2 R w1 (by rw [l2, l4]; omega) g3 g4 aU2 aV2 g1 g2 hbase (by simp; have := HA.out; omega) hn
          rw [List.length_append, HA.out, g0, l2, l4, show a + e = d by omega, show d + (u - s) = z by omega, show z + (v - (e - s)) = b by omega] at K
          exact K)
        have HL1 := Lib.hid l1
        have HL2 := Lib.hid l2
        have HL3 := Lib.hid l3
        have HL4 := Lib.hid l4
        have HAS := Lib.hid (show Stb.Asc leV U1 ∧ Stb.Asc leV U2 ∧ Stb.Asc leV V1 ∧ Stb.Asc leV V2 from ⟨aU1, aU2, aV1, aV2⟩)
        have HZ := Lib.hid hz
        have nums : (s < u ↔ i < m) ∧ (s < e ↔ m < z) ∧ (0 < s ↔ a < i) ∧ (s < e ↔ i < d) ∧ (s < u ↔ d < z) ∧ (e - s < v ↔ z < b) := by omega
        have HBW := Lib.hid hbw
        generalize hwo : wr = wo at *
        clear hwo hcut hU1 hU2 hV1 hV2 eU eW l1 l2 l3 l4 aU aW aU1 aU2 aV1 aV2 tot hi hj hij hs0 htt hz hm hbb he hd hnn
        obtain ⟨n1, n2, n3, n4, n5, n6⟩ := nums
        by_cases c0 : s < u
        · by_cases c1 : s < e
          · by_cases c2 : 0 < s
            · by_cases c3 : e - s < v
              · have r1 : (i : Int) < (m : Int) := by omega
                have r2 : (m : Int) < (z : Int) := by omega
                have r3 : (a : Int) < (i : Int) := by omega
                have r4 : (i : Int) < (d : Int) := by omega
                have r5 : (d : Int) < (z : Int) := by omega
                have r6 : (z : Int) < (b : Int) := by omega
                have r1d : decide (i < m) = true := by rw [decide_eq_true_eq]; omega
                have r2d : decide (m < z) = true := by rw [decide_eq_true_eq]; omega
                have r3d : decide (a < i) = true := by rw [decide_eq_true_eq]; omega
                have r4d : decide (i < d) = true := by rw [decide_eq_true_eq]; omega
                have r5d : decide (d < z) = true := by rw [decide_eq_true_eq]; omega
                have r6d : decide (z < b) = true := by rw [decide_eq_true_eq]; omega
                go_wp2_with fail
                refine (JR.out _ HRW.out HBW.out (by rw [HL2.out]; omega) (by rw [HL3.out]; omega)).mono ?_
                rintro e1 w1 ⟨rfl, hr1, hb1⟩
                have HB := Lib.hid (HB.out.trans hb1)
                have HBW := Lib.hid (Nat.lt_of_lt_of_le HBW.out hb1.size)
                have HRW := Lib.hid (show ERow w1 bk o (P ++ (U1 ++ (V1 ++ (U2 ++ (V2 ++ R))))) by simpa using hr1)
                clear hr1 hb1
                go_wp2_with fail
                refine (JL.out _ HRW.out HBW.out (by rw [HL1.out]; omega) (by rw [HL3.out]; omega)).mono ?_
                rintro e2 w2 ⟨rfl, X1, hs1, hr2, hb2⟩
                have HB := Lib.hid (HB.out.trans hb2)
                have HBW := Lib.hid (Nat.lt_of_lt_of_le HBW.out hb2.size)
                have HX1 := Lib.hid hs1
                have HRW := Lib.hid (show ERow w2 bk o ((P ++ X1) ++ (U2 ++ (V2 ++ R))) by simpa using hr2)
                clear hs1 hr2 hb2
                have hXl : X1.length = e := by rw [Stb.stab_length preV HX1.out, List.length_append, HL1.out, HL3.out]; omega
                have HXL := Lib.hid hXl
                clear hXl
                go_wp2_with fail
                refine (JT.out X1 _ HXL.out HRW.out HBW.out (by rw [HL2.out]; omega) (by rw [HL4.out]; omega)).mono ?_
                rintro e3 w3 ⟨rfl, X2, hs2, hr3, hb3⟩
                have HB := Lib.hid (HB.out.trans hb3)
                have HX2 := Lib.hid hs2
                have HRW := Lib.hid hr3
                clear hs2 hr3 hb3
                go_wp2_with fail
                go_end0
                exact ⟨rfl, X1 ++ X2, HFIN.out X1 X2 HX1.out HX2.out, by have g := HRW.out; simpa using g, HB.out⟩
              · have r1 : (i : Int) < (m : Int) := by omega
                have r2 : (m : Int) < (z : Int) := by omega
                have r3 : (a : Int) < (i : Int) := by omega
                have r4 : (i : Int) < (d : Int) := by omega
                have r5 : (d : Int) < (z : Int) := by omega
                have r6 : ¬ (z : Int) < (b : Int) := by omega
                have r1d : decide (i < m) = true := by rw [decide_eq_true_eq]; omega
                have r2d : decide (m < z) = true := by rw [decide_eq_true_eq]; omega
                have r3d : decide (a < i) = true := by rw [decide_eq_true_eq]; omega
                have r4d : decide (i < d) = true := by rw [decide_eq_true_eq]; omega
                have r5d : decide (d < z) = true := by rw [decide_eq_true_eq]; omega
                have r6d : decide (z < b) = false := by rw [decide_eq_false_iff_not]; omega
                go_wp2_with fail
                refine (JR.out _ HRW.out HBW.out (by rw [HL2.out]; omega) (by rw [HL3.out]; omega)).mono ?_
                rintro e1 w1 ⟨rfl, hr1, hb1⟩
                have HB := Lib.hid (HB.out.trans hb1)
                have HBW := Lib.hid (Nat.lt_of_lt_of_le HBW.out hb1.size)
                have HRW := Lib.hid (show ERow w1 bk o (P ++ (U1 ++ (V1 ++ (U2 ++ (V2 ++ R))))) by simpa using hr1)
                clear hr1 hb1
                go_wp2_with fail
                refine (JL.out _ HRW.out HBW.out (by rw [HL1.out]; omega) (by rw [HL3.out]; omega)).mono ?_
                rintro e2 w2 ⟨rfl, X1, hs1, hr2, hb2⟩
                have HB := Lib.hid (HB.out.trans hb2)
                have HBW := Lib.hid (Nat.lt_of_lt_of_le HBW.out hb2.size)
                have HX1 := Lib.hid hs1
                have HRW := Lib.hid (show ERow w2 bk o ((P ++ X1) ++ (U2 ++ (V2 ++ R))) by simpa using hr2)
                clear hs1 hr2 hb2
                have hXl : X1.length = e := by rw [Stb.stab_length preV HX1.out, List.length_append, HL1.out, HL3.out]; omega
                have HXL := Lib.hid hXl
                clear hXl
                obtain ⟨X2, hs2, hr3, -⟩ := mergeNone (base := base) (P := P ++ X1) HAS.out.2.1 HAS.out.2.2.2 (by rw [HL2.out, HL4.out]; omega) HRW.out
                have HX2 := Lib.hid hs2
                have HRW := Lib.hid hr3
                clear hs2 hr3
                go_wp2_with fail
                go_end0
                exact ⟨rfl, X1 ++ X2, HFIN.out X1 X2 HX1.out HX2.out, by have g := HRW.out; simpa using g, HB.out⟩
            · by_cases c3 : e - s < v
              · have r1 : (i : Int) < (m : Int) := by omega
                have r2 : (m : Int) < (z : Int) := by omega
                have r3 : ¬ (a : Int) < (i : Int) := by omega
                have r4 : (i : Int) < (d : Int) := by omega
                have r5 : (d : Int) < (z : Int) := by omega
                have r6 : (z : Int) < (b : Int) := by omega
                have r1d : decide (i < m) = true := by rw [decide_eq_true_eq]; omega
                have r2d : decide (m < z) = true := by rw [decide_eq_true_eq]; omega
                have r3d : decide (a < i) = false := by rw [decide_eq_false_iff_not]; omega
                have r4d : decide (i < d) = true := by rw [decide_eq_true_eq]; omega
                have r5d : decide (d < z) = true := by rw [decide_eq_true_eq]; omega
                have r6d : decide (z < b) = true := by rw [decide_eq_true_eq]; omega
                go_wp2_with fail
                refine (JR.out _ HRW.out HBW.out (by rw [HL2.out]; omega) (by rw [HL3.out]; omega)).mono ?_
                rintro e1 w1 ⟨rfl, hr1, hb1⟩
                have HB := Lib.hid (HB.out.trans hb1)
                have HBW := Lib.hid (Nat.lt_of_lt_of_le HBW.out hb1.size)
                have HRW := Lib.hid (show ERow w1 bk o (P ++ (U1 ++ (V1 ++ (U2 ++ (V2 ++ R))))) by simpa using hr1)
                clear hr1 hb1
                obtain ⟨X1, hs1, hr2, -⟩ := mergeNone (base := base) (P := P) HAS.out.1 HAS.out.2.2.1 (by rw [HL1.out, HL3.out]; omega) HRW.out
                have HX1 := Lib.hid hs1
                have HRW := Lib.hid (show ERow _ bk o ((P ++ X1) ++ (U2 ++ (V2 ++ R))) by simpa using hr2)
                clear hs1 hr2
                have hXl : X1.length = e := by rw [Stb.stab_length preV HX1.out, List.length_append, HL1.out, HL3.out]; omega
                have HXL := Lib.hid hXl
                clear hXl
                go_wp2_with fail
                refine (JT.out X1 _ HXL.out HRW.out HBW.out (by rw [HL2.out]; omega) (by rw [HL4.out]; omega)).mono ?_
                rintro e3 w3 ⟨rfl, X2, hs2, hr3, hb3⟩
                have HB := Lib.hid (HB.out.trans hb3)
                have HX2 := Lib.hid hs2
                have HRW := Lib.hid hr3
                clear hs2 hr3 hb3
                go_wp2_with fail
                go_end0
                exact ⟨rfl, X1 ++ X2, HFIN.out X1 X2 HX1.out HX2.out, by have g := HRW.out; simpa using g, HB.out⟩
              · have r1 : (i : Int) < (m : Int) := by omega
                have r2 : (m : Int) < (z : Int) := by omega
                have r3 : ¬ (a : Int) < (i : Int) := by omega
                have r4 : (i : Int) < (d : Int) := by omega
                have r5 : (d : Int) < (z : Int) := by omega
                have r6 : ¬ (z : Int) < (b : Int) := by omega
                have r1d : decide (i < m) = true := by rw [decide_eq_true_eq]; omega
                have r2d : decide (m < z) = true := by rw [decide_eq_true_eq]; omega
                have r3d : decide (a < i) = false := by rw [decide_eq_false_iff_not]; omega
                have r4d : decide (i < d) = true := by rw [decide_eq_true_eq]; omega
                have r5d : decide (d < z) = true := by rw [decide_eq_true_eq]; omega
                have r6d : decide (z < b) = false := by rw [decide_eq_false_iff_not]; omega
                go_wp2_with fail
                refine (JR.out _ HRW.out HBW.out (by rw [HL2.out]; omega) (by rw [HL3.out]; omega)).mono ?_
                rintro e1 w1 ⟨rfl, hr1, hb1⟩
                have HB := Lib.hid (HB.out.trans hb1)
                have HBW := Lib.hid (Nat.lt_of_lt_of_le HBW.out hb1.size)
                have HRW := Lib.hid (show ERow w1 bk o (P ++ (U1 ++ (V1 ++ (U2 ++ (V2 ++ R))))) by simpa using hr1)
                clear hr1 hb1
                obtain ⟨X1, hs1, hr2, -⟩ := mergeNone (base := base) (P := P) HAS.out.1 HAS.out.2.2.1 (by rw [HL1.out, HL3.out]; omega) HRW.out
                have HX1 := Lib.hid hs1
                have HRW := Lib.hid (show ERow _ bk o ((P ++ X1) ++ (U2 ++ (V2 ++ R))) by simpa using hr2)
                clear hs1 hr2
                have hXl : X1.length = e := by rw [Stb.stab_length preV HX1.out, List.length_append, HL1.out, HL3.out]; omega
                have HXL := Lib.hid hXl
                clear hXl
                obtain ⟨X2, hs2, hr3, -⟩ := mergeNone (base := base) (P := P ++ X1) HAS.out.2.1 HAS.out.2.2.2 (by rw [HL2.out, HL4.out]; omega) HRW.out
                have HX2 := Lib.hid hs2
                have HRW := Lib.hid hr3
                clear hs2 hr3
                go_wp2_with fail
                go_end0
                exact ⟨rfl, X1 ++ X2, HFIN.out X1 X2 HX1.out HX2.out, by have g := HRW.out; simpa using g, HB.out⟩
          · by_cases c2 : 0 < s
            · by_cases c3 : e - s < v
              · have r1 : (i : Int) < (m : Int) := by omega
                have r2 : ¬ (m : Int) < (z : Int) := by omega
                have r3 : (a : Int) < (i : Int) := by omega
                have r4 : ¬ (i : Int) < (d : Int) := by omega
                have r5 : (d : Int) < (z : Int) := by omega
                have r6 : (z : Int) < (b : Int) := by omega
                have r1d : decide (i < m) = true := by rw [decide_eq_true_eq]; omega
                have r2d : decide (m < z) = false := by rw [decide_eq_false_iff_not]; omega
                have r3d : decide (a < i) = true := by rw [decide_eq_true_eq]; omega
                have r4d : decide (i < d) = false := by rw [decide_eq_false_iff_not]; omega
                have r5d : decide (d < z) = true := by rw [decide_eq_true_eq]; omega
                have r6d : decide (z < b) = true := by rw [decide_eq_true_eq]; omega
                have hz0 : V1 = [] := List.eq_nil_of_length_eq_zero (by rw [HL3.out]; omega)
                have HRW := Lib.hid (show ERow wo bk o (P ++ (U1 ++ (V1 ++ (U2 ++ (V2 ++ R))))) by have g := HRW.out; rw [hz0] at g ⊢; simpa using g)
                clear hz0
                obtain ⟨X1, hs1, hr2, -⟩ := mergeNone (base := base) (P := P) HAS.out.1 HAS.out.2.2.1 (by rw [HL1.out, HL3.out]; omega) HRW.out
                have HX1 := Lib.hid hs1
                have HRW := Lib.hid (show ERow _ bk o ((P ++ X1) ++ (U2 ++ (V2 ++ R))) by simpa using hr2)
                clear hs1 hr2
                have hXl : X1.length = e := by rw [Stb.stab_length preV HX1.out, List.length_append, HL1.out, HL3.out]; omega
                have HXL := Lib.hid hXl
                clear hXl
                go_wp2_with fail
                refine (JT.out X1 _ HXL.out HRW.out HBW.out (by rw [HL2.out]; omega) (by rw [HL4.out]; omega)).mono ?_
                rintro e3 w3 ⟨rfl, X2, hs2, hr3, hb3⟩
                have HB := Lib.hid (HB.out.trans hb3)
                have HX2 := Lib.hid hs2
                have HRW := Lib.hid hr3
                clear hs2 hr3 hb3
                go_wp2_with fail
                go_end0
                exact ⟨rfl, X1 ++ X2, HFIN.out X1 X2 HX1.out HX2.out, by have g := HRW.out; simpa using g, HB.out⟩
              · have r1 : (i : Int) < (m : Int) := by omega
                have r2 : ¬ (m : Int) < (z : Int) := by omega
                have r3 : (a : Int) < (i : Int) := by omega
                have r4 : ¬ (i : Int) < (d : Int) := by omega
                have r5 : (d : Int) < (z : Int) := by omega
                have r6 : ¬ (z : Int) < (b : Int) := by omega
                have r1d : decide (i < m) = true := by rw [decide_eq_true_eq]; omega
                have r2d : decide (m < z) = false := by rw [decide_eq_false_iff_not]; omega
                have r3d : decide (a < i) = true := by rw [decide_eq_true_eq]; omega
                have r4d : decide (i < d) = false := by rw [decide_eq_false_iff_not]; omega
                have r5d : decide (d < z) = true := by rw [decide_eq_true_eq]; omega
                have r6d : decide (z < b) = false := by rw [decide_eq_false_iff_not]; omega
                have hz0 : V1 = [] := List.eq_nil_of_length_eq_zero (by rw [HL3.out]; omega)
                have HRW := Lib.hid (show ERow wo bk o (P ++ (U1 ++ (V1 ++ (U2 ++ (V2 ++ R))))) by have g := HRW.out; rw [hz0] at g ⊢; simpa using g)
                clear hz0
                obtain ⟨X1, hs1, hr2, -⟩ := mergeNone (base := base) (P := P) HAS.out.1 HAS.out.2.2.1 (by rw [HL1.out, HL3.out]; omega) HRW.out
                have HX1 := Lib.hid hs1
                have HRW := Lib.hid (show ERow _ bk o ((P ++ X1) ++ (U2 ++ (V2 ++ R))) by simpa using hr2)
                clear hs1 hr2
                have hXl : X1.length = e := by rw [Stb.stab_length preV HX1.out, List.length_append, HL1.out, HL3.out]; omega
                have HXL := Lib.hid hXl
                clear hXl
                obtain ⟨X2, hs2, hr3, -⟩ := mergeNone (base := base) (P := P ++ X1) HAS.out.2.1 HAS.out.2.2.2 (by rw [HL2.out, HL4.out]; omega) HRW.out
                have HX2 := Lib.hid hs2
                have HRW := Lib.hid hr3
                clear hs2 hr3
                go_wp2_with fail
                go_end0
                exact ⟨rfl, X1 ++ X2, HFIN.out X1 X2 HX1.out HX2.out, by have g := HRW.out; simpa using g, HB.out⟩
            · by_cases c3 : e - s < v
              · have r1 : (i : Int) < (m : Int) := by omega
                have r2 : ¬ (m : Int) < (z : Int) := by omega
                have r3 : ¬ (a : Int) < (i : Int) := by omega
                have r4 : ¬ (i : Int) < (d : Int) := by omega
                have r5 : (d : Int) < (z : Int) := by omega
                have r6 : (z : Int) < (b : Int) := by omega
                have r1d : decide (i < m) = true := by rw [decide_eq_true_eq]; omega
                have r2d : decide (m < z) = false := by rw [decide_eq_false_iff_not]; omega
                have r3d : decide (a < i) = false := by rw [decide_eq_false_iff_not]; omega
                have r4d : decide (i < d) = false := by rw [decide_eq_false_iff_not]; omega
                have r5d : decide (d < z) = true := by rw [decide_eq_true_eq]; omega
                have r6d : decide (z < b) = true := by rw [decide_eq_true_eq]; omega
                have hz0 : V1 = [] := List.eq_nil_of_length_eq_zero (by rw [HL3.out]; omega)
                have HRW := Lib.hid (show ERow wo bk o (P ++ (U1 ++ (V1 ++ (U2 ++ (V2 ++ R))))) by have g := HRW.out; rw [hz0] at g ⊢; simpa using g)
                clear hz0
                obtain ⟨X1, hs1, hr2, -⟩ := mergeNone (base := base) (P := P) HAS.out.1 HAS.out.2.2.1 (by rw [HL1.out, HL3.out]; omega) HRW.out
                have HX1 := Lib.hid hs1
                have HRW := Lib.hid (show ERow _ bk o ((P ++ X1) ++ (U2 ++ (V2 ++ R))) by simpa using hr2)
                clear hs1 hr2
                have hXl : X1.length = e := by rw [Stb.stab_length preV HX1.out, List.length_append, HL1.out, HL3.out]; omega
                have HXL := Lib.hid hXl
                clear hXl
                go_wp2_with fail
                refine (JT.out X1 _ HXL.out HRW.out HBW.out (by rw [HL2.out]; omega) (by rw [HL4.out]; omega)).mono ?_
                rintro e3 w3 ⟨rfl, X2, hs2, hr3, hb3⟩
                have HB := Lib.hid (HB.out.trans hb3)
                have HX2 := Lib.hid hs2
                have HRW := Lib.hid hr3
                clear hs2 hr3 hb3
                go_wp2_with fail
                go_end0
                exact ⟨rfl, X1 ++ X2, HFIN.out X1 X2 HX1.out HX2.out, by have g := HRW.out; simpa using g, HB.out⟩
              · have r1 : (i : Int) < (m : Int) := by omega
                have r2 : ¬ (m : Int) < (z : Int) := by omega
                have r3 : ¬ (a : Int) < (i : Int) := by omega
                have r4 : ¬ (i : Int) < (d : Int) := by omega
                have r5 : (d : Int) < (z : Int) := by omega
                have r6 : ¬ (z : Int) < (b : Int) := by omega
                have r1d : decide (i < m) = true := by rw [decide_eq_true_eq]; omega
                have r2d : decide (m < z) = false := by rw [decide_eq_false_iff_not]; omega
                have r3d : decide (a < i) = false := by rw [decide_eq_false_iff_not]; omega
                have r4d : decide (i < d) = false := by rw [decide_eq_false_iff_not]; omega
                have r5d : decide (d < z) = true := by rw [decide_eq_true_eq]; omega
                have r6d : decide (z < b) = false := by rw [decide_eq_false_iff_not]; omega
                have hz0 : V1 = [] := List.eq_nil_of_length_eq_zero (by rw [HL3.out]; omega)
                have HRW := Lib.hid (show ERow wo bk o (P ++ (U1 ++ (V1 ++ (U2 ++ (V2 ++ R))))) by have g := HRW.out; rw [hz0] at g ⊢; simpa using g)
                clear hz0
                obtain ⟨X1, hs1, hr2, -⟩ := mergeNone (base := base) (P := P) HAS.out.1 HAS.out.2.2.1 (by rw [HL1.out, HL3.out]; omega) HRW.out
                have HX1 := Lib.hid hs1
                have HRW := Lib.hid (show ERow _ bk o ((P ++ X1) ++ (U2 ++ (V2 ++ R))) by simpa using hr2)
                clear hs1 hr2
                have hXl : X1.length = e := by rw [Stb.stab_length preV HX1.out, List.length_append, HL1.out, HL3.out]; omega
                have HXL := Lib.hid hXl
                clear hXl
                obtain ⟨X2, hs2, hr3, -⟩ := mergeNone (base := base) (P := P ++ X1) HAS.out.2.1 HAS.out.2.2.2 (by rw [HL2.out, HL4.out]; omega) HRW.out
                have HX2 := Lib.hid hs2
                have HRW := Lib.hid hr3
                clear hs2 hr3
                go_wp2_with fail
                go_end0
                exact ⟨rfl, X1 ++ X2, HFIN.out X1 X2 HX1.out HX2.out, by have g := HRW.out; simpa using g, HB.out⟩
        · by_cases c1 : s < e
          · by_cases c2 : 0 < s
            · by_cases c3 : e - s < v
              · have r1 : ¬ (i : Int) < (m : Int) := by omega
                have r2 : (m : Int) < (z : Int) := by omega
                have r3 : (a : Int) < (i : Int) := by omega
                have r4 : (i : Int) < (d : Int) := by omega
                have r5 : ¬ (d : Int) < (z : Int) := by omega
                have r6 : (z : Int) < (b : Int) := by omega
                have r1d : decide (i < m) = false := by rw [decide_eq_false_iff_not]; omega
                have r2d : decide (m < z) = true := by rw [decide_eq_true_eq]; omega
                have r3d : decide (a < i) = true := by rw [decide_eq_true_eq]; omega
                have r4d : decide (i < d) = true := by rw [decide_eq_true_eq]; omega
                have r5d : decide (d < z) = false := by rw [decide_eq_false_iff_not]; omega
                have r6d : decide (z < b) = true := by rw [decide_eq_true_eq]; omega
                have hz0 : U2 = [] := List.eq_nil_of_length_eq_zero (by rw [HL2.out]; omega)
                have HRW := Lib.hid (show ERow wo bk o (P ++ (U1 ++ (V1 ++ (U2 ++ (V2 ++ R))))) by have g := HRW.out; rw [hz0] at g ⊢; simpa using g)
                clear hz0
                go_wp2_with fail
                refine (JL.out _ HRW.out HBW.out (by rw [HL1.out]; omega) (by rw [HL3.out]; omega)).mono ?_
                rintro e2 w2 ⟨rfl, X1, hs1, hr2, hb2⟩
                have HB := Lib.hid (HB.out.trans hb2)
                have HBW := Lib.hid (Nat.lt_of_lt_of_le HBW.out hb2.size)
                have HX1 := Lib.hid hs1
                have HRW := Lib.hid (show ERow w2 bk o ((P ++ X1) ++ (U2 ++ (V2 ++ R))) by simpa using hr2)
                clear hs1 hr2 hb2
                have hXl : X1.length = e := by rw [Stb.stab_length preV HX1.out, List.length_append, HL1.out, HL3.out]; omega
                have HXL := Lib.hid hXl
                clear hXl
                obtain ⟨X2, hs2, hr3, -⟩ := mergeNone (base := base) (P := P ++ X1) HAS.out.2.1 HAS.out.2.2.2 (by rw [HL2.out, HL4.out]; omega) HRW.out
                have HX2 := Lib.hid hs2
                have HRW := Lib.hid hr3
                clear hs2 hr3
                go_wp2_with fail
                go_end0
                exact ⟨rfl, X1 ++ X2, HFIN.out X1 X2 HX1.out HX2.out, by have g := HRW.out; simpa using g, HB.out⟩
              · have r1 : ¬ (i : Int) < (m : Int) := by omega
                have r2 : (m : Int) < (z : Int) := by omega
                have r3 : (a : Int) < (i : Int) := by omega
                have r4 : (i : Int) < (d : Int) := by omega
                have r5 : ¬ (d : Int) < (z : Int) := by omega
                have r6 : ¬ (z : Int) < (b : Int) := by omega
                have r1d : decide (i < m) = false := by rw [decide_eq_false_iff_not]; omega
                have r2d : decide (m < z) = true := by rw [decide_eq_true_eq]; omega
                have r3d : decide (a < i) = true := by rw [decide_eq_true_eq]; omega
                have r4d : decide (i < d) = true := by rw [decide_eq_true_eq]; omega
                have r5d : decide (d < z) = false := by rw [decide_eq_false_iff_not]; omega
                have r6d : decide (z < b) = false := by rw [decide_eq_false_iff_not]; omega
                have hz0 : U2 = [] := List.eq_nil_of_length_eq_zero (by rw [HL2.out]; omega)
                have HRW := Lib.hid (show ERow wo bk o (P ++ (U1 ++ (V1 ++ (U2 ++ (V2 ++ R))))) by have g := HRW.out; rw [hz0] at g ⊢; simpa using g)
                clear hz0
                go_wp2_with fail
                refine (JL.out _ HRW.out HBW.out (by rw [HL1.out]; omega) (by rw [HL3.out]; omega)).mono ?_
                rintro e2 w2 ⟨rfl, X1, hs1, hr2, hb2⟩
                have HB := Lib.hid (HB.out.trans hb2)
                have HBW := Lib.hid (Nat.lt_of_lt_of_le HBW.out hb2.size)
                have HX1 := Lib.hid hs1
                have HRW := Lib.hid (show ERow w2 bk o ((P ++ X1) ++ (U2 ++ (V2 ++ R))) by simpa using hr2)
                clear hs1 hr2 hb2
                have hXl : X1.length = e := by rw [Stb.stab_length preV HX1.out, List.length_append, HL1.out, HL3.out]; omega
                have HXL := Lib.hid hXl
                clear hXl
                obtain ⟨X2, hs2, hr3, -⟩ := mergeNone (base := base) (P := P ++ X1) HAS.out.2.1 HAS.out.2.2.2 (by rw [HL2.out, HL4.out]; omega) HRW.out
                have HX2 := Lib.hid hs2
                have HRW := Lib.hid hr3
                clear hs2 hr3
                go_wp2_with fail
                go_end0
                exact ⟨rfl, X1 ++ X2, HFIN.out X1 X2 HX1.out HX2.out, by have g := HRW.out; simpa using g, HB.out⟩
            · by_cases c3 : e - s < v
              · have r1 : ¬ (i : Int) < (m : Int) := by omega
                have r2 : (m : Int) < (z : Int) := by omega
                have r3 : ¬ (a : Int) < (i : Int) := by omega
                have r4 : (i : Int) < (d : Int) := by omega
                have r5 : ¬ (d : Int) < (z : Int) := by omega
                have r6 : (z : Int) < (b : Int) := by omega
                have r1d : decide (i < m) = false := by rw [decide_eq_false_iff_not]; omega
                have r2d : decide (m < z) = true := by rw [decide_eq_true_eq]; omega
                have r3d : decide (a < i) = false := by rw [decide_eq_false_iff_not]; omega
                have r4d : decide (i < d) = true := by rw [decide_eq_true_eq]; omega
                have r5d : decide (d < z) = false := by rw [decide_eq_false_iff_not]; omega
                have r6d : decide (z < b) = true := by rw [decide_eq_true_eq]; omega
                have hz0 : U2 = [] := List.eq_nil_of_length_eq_zero (by rw [HL2.out]; omega)
                have HRW := Lib.hid (show ERow wo bk o (P ++ (U1 ++ (V1 ++ (U2 ++ (V2 ++ R))))) by have g := HRW.out; rw [hz0] at g ⊢; simpa using g)
                clear hz0
                obtain ⟨X1, hs1, hr2, -⟩ := mergeNone (base := base) (P := P) HAS.out.1 HAS.out.2.2.1 (by rw [HL1.out, HL3.out]; omega) HRW.out
                have HX1 := Lib.hid hs1
                have HRW := Lib.hid (show ERow _ bk o ((P ++ X1) ++ (U2 ++ (V2 ++ R))) by simpa using hr2)
                clear hs1 hr2
                have hXl : X1.length = e := by rw [Stb.stab_length preV HX1.out, List.length_append, HL1.out, HL3.out]; omega
                have HXL := Lib.hid hXl
                clear hXl
                obtain ⟨X2, hs2, hr3, -⟩ := mergeNone (base := base) (P := P ++ X1) HAS.out.2.1 HAS.out.2.2.2 (by rw [HL2.out, HL4.out]; omega) HRW.out
                have HX2 := Lib.hid hs2
                have HRW := Lib.hid hr3
                clear hs2 hr3
                go_wp2_with fail
                go_end0
                exact ⟨rfl, X1 ++ X2, HFIN.out X1 X2 HX1.out HX2.out, by have g := HRW.out; simpa using g, HB.out⟩
              · have r1 : ¬ (i : Int) < (m : Int) := by omega
                have r2 : (m : Int) < (z : Int) := by omega
                have r3 : ¬ (a : Int) < (i : Int) := by omega
                have r4 : (i : Int) < (d : Int) := by omega
                have r5 : ¬ (d : Int) < (z : Int) := by omega
                have r6 : ¬ (z : Int) < (b : Int) := by omega
                have r1d : decide (i < m) = false := by rw [decide_eq_false_iff_not]; omega
                have r2d : decide (m < z) = true := by rw [decide_eq_true_eq]; omega
                have r3d : decide (a < i) = false := by rw [decide_eq_false_iff_not]; omega
                have r4d : decide (i < d) = true := by rw [decide_eq_true_eq]; omega
                have r5d : decide (d < z) = false := by rw [decide_eq_false_iff_not]; omega
                have r6d : decide (z < b) = false := by rw [decide_eq_false_iff_not]; omega
                have hz0 : U2 = [] := List.eq_nil_of_length_eq_zero (by rw [HL2.out]; omega)
                have HRW := Lib.hid (show ERow wo bk o (P ++ (U1 ++ (V1 ++ (U2 ++ (V2 ++ R))))) by have g := HRW.out; rw [hz0] at g ⊢; simpa using g)
                clear hz0
                obtain ⟨X1, hs1, hr2, -⟩ := mergeNone (base := base) (P := P) HAS.out.1 HAS.out.2.2.1 (by rw [HL1.out, HL3.out]; omega) HRW.out
                have HX1 := Lib.hid hs1
                have HRW := Lib.hid (show ERow _ bk o ((P ++ X1) ++ (U2 ++ (V2 ++ R))) by simpa using hr2)
                clear hs1 hr2
                have hXl : X1.length = e := by rw [Stb.stab_length preV HX1.out, List.length_append, HL1.out, HL3.out]; omega
                have HXL := Lib.hid hXl
                clear hXl
                obtain ⟨X2, hs2, hr3, -⟩ := mergeNone (base := base) (P := P ++ X1) HAS.out.2.1 HAS.out.2.2.2 (by rw [HL2.out, HL4.out]; omega) HRW.out
                have HX2 := Lib.hid hs2
                have HRW := Lib.hid hr3
                clear hs2 hr3
                go_wp2_with fail
                go_end0
                exact ⟨rfl, X1 ++ X2, HFIN.out X1 X2 HX1.out HX2.out, by have g := HRW.out; simpa using g, HB.out⟩
          · by_cases c2 : 0 < s
            · by_cases c3 : e - s < v
              · have r1 : ¬ (i : Int) < (m : Int) := by omega
                have r2 : ¬ (m : Int) < (z : Int) := by omega
                have r3 : (a : Int) < (i : Int) := by omega
                have r4 : ¬ (i : Int) < (d : Int) := by omega
                have r5 : ¬ (d : Int) < (z : Int) := by omega
                have r6 : (z : Int) < (b : Int) := by omega
                have r1d : decide (i < m) = false := by rw [decide_eq_false_iff_not]; omega
                have r2d : decide (m < z) = false := by rw [decide_eq_false_iff_not]; omega
                have r3d : decide (a < i) = true := by rw [decide_eq_true_eq]; omega
                have r4d : decide (i < d) = false := by rw [decide_eq_false_iff_not]; omega
                have r5d : decide (d < z) = false := by rw [decide_eq_false_iff_not]; omega
                have r6d : decide (z < b) = true := by rw [decide_eq_true_eq]; omega
                have hz0 : U2 = [] := List.eq_nil_of_length_eq_zero (by rw [HL2.out]; omega)
                have HRW := Lib.hid (show ERow wo bk o (P ++ (U1 ++ (V1 ++ (U2 ++ (V2 ++ R))))) by have g := HRW.out; rw [hz0] at g ⊢; simpa using g)
                clear hz0
                obtain ⟨X1, hs1, hr2, -⟩ := mergeNone (base := base) (P := P) HAS.out.1 HAS.out.2.2.1 (by rw [HL1.out, HL3.out]; omega) HRW.out
                have HX1 := Lib.hid hs1
                have HRW := Lib.hid (show ERow _ bk o ((P ++ X1) ++ (U2 ++ (V2 ++ R))) by simpa using hr2)
                clear hs1 hr2
                have hXl : X1.length = e := by rw [Stb.stab_length preV HX1.out, List.length_append, HL1.out, HL3.out]; omega
                have HXL := Lib.hid hXl
                clear hXl
                obtain ⟨X2, hs2, hr3, -⟩ := mergeNone (base := base) (P := P ++ X1) HAS.out.2.1 HAS.out.2.2.2 (by rw [HL2.out, HL4.out]; omega) HRW.out
                have HX2 := Lib.hid hs2
                have HRW := Lib.hid hr3
                clear hs2 hr3
                go_wp2_with fail
                go_end0
                exact ⟨rfl, X1 ++ X2, HFIN.out X1 X2 HX1.out HX2.out, by have g := HRW.out; simpa using g, HB.out⟩
              · have r1 : ¬ (i : Int) < (m : Int) := by omega
                have r2 : ¬ (m : Int) < (z : Int) := by omega
                have r3 : (a : Int) < (i : Int) := by omega
                have r4 : ¬ (i : Int) < (d : Int) := by omega
                have r5 : ¬ (d : Int) < (z : Int) := by omega
                have r6 : ¬ (z : Int) < (b : Int) := by omega
                have r1d : decide (i < m) = false := by rw [decide_eq_false_iff_not]; omega
                have r2d : decide (m < z) = false := by rw [decide_eq_false_iff_not]; omega
                have r3d : decide (a < i) = true := by rw [decide_eq_true_eq]; omega
                have r4d : decide (i < d) = false := by rw [decide_eq_false_iff_not]; omega
                have r5d : decide (d < z) = false := by rw [decide_eq_false_iff_not]; omega
                have r6d : decide (z < b) = false := by rw [decide_eq_false_iff_not]; omega
                have hz0 : U2 = [] := List.eq_nil_of_length_eq_zero (by rw [HL2.out]; omega)
                have HRW := Lib.hid (show ERow wo bk o (P ++ (U1 ++ (V1 ++ (U2 ++ (V2 ++ R))))) by have g := HRW.out; rw [hz0] at g ⊢; simpa using g)
                clear hz0
                obtain ⟨X1, hs1, hr2, -⟩ := mergeNone (base := base) (P := P) HAS.out.1 HAS.out.2.2.1 (by rw [HL1.out, HL3.out]; omega) HRW.out
                have HX1 := Lib.hid hs1
                have HRW := Lib.hid (show ERow _ bk o ((P ++ X1) ++ (U2 ++ (V2 ++ R))) by simpa using hr2)
                clear hs1 hr2
                have hXl : X1.length = e := by rw [Stb.stab_length preV HX1.out, List.length_append, HL1.out, HL3.out]; omega
                have HXL := Lib.hid hXl
                clear hXl
                obtain ⟨X2, hs2, hr3, -⟩ := mergeNone (base := base) (P := P ++ X1) HAS.out.2.1 HAS.out.2.2.2 (by rw [HL2.out, HL4.out]; omega) HRW.out
                have HX2 := Lib.hid hs2
                have HRW := Lib.hid hr3
                clear hs2 hr3
                go_wp2_with fail
                go_end0
                exact ⟨rfl, X1 ++ X2, HFIN.out X1 X2 HX1.out HX2.out, by have g := HRW.out; simpa using g, HB.out⟩
            · by_cases c3 : e - s < v
              · have r1 : ¬ (i : Int) < (m : Int) := by omega
                have r2 : ¬ (m : Int) < (z : Int) := by omega
                have r3 : ¬ (a : Int) < (i : Int) := by omega
                have r4 : ¬ (i : Int) < (d : Int) := by omega
                have r5 : ¬ (d : Int) < (z : Int) := by omega
                have r6 : (z : Int) < (b : Int) := by omega
                have r1d : decide (i < m) = false := by rw [decide_eq_false_iff_not]; omega
                have r2d : decide (m < z) = false := by rw [decide_eq_false_iff_not]; omega
                have r3d : decide (a < i) = false := by rw [decide_eq_false_iff_not]; omega
                have r4d : decide (i < d) = false := by rw [decide_eq_false_iff_not]; omega
                have r5d : decide (d < z) = false := by rw [decide_eq_false_iff_not]; omega
                have r6d : decide (z < b) = true := by rw [decide_eq_true_eq]; omega
                have hz0 : U2 = [] := List.eq_nil_of_length_eq_zero (by rw [HL2.out]; omega)
                have HRW := Lib.hid (show ERow wo bk o (P ++ (U1 ++ (V1 ++ (U2 ++ (V2 ++ R))))) by have g := HRW.out; rw [hz0] at g ⊢; simpa using g)
                clear hz0
                obtain ⟨X1, hs1, hr2, -⟩ := mergeNone (base := base) (P := P) HAS.out.1 HAS.out.2.2.1 (by rw [HL1.out, HL3.out]; omega) HRW.out
                have HX1 := Lib.hid hs1
                have HRW := Lib.hid (show ERow _ bk o ((P ++ X1) ++ (U2 ++ (V2 ++ R))) by simpa using hr2)
                clear hs1 hr2
                have hXl : X1.length = e := by rw [Stb.stab_length preV HX1.out, List.length_append, HL1.out, HL3.out]; omega
                have HXL := Lib.hid hXl
                clear hXl
                obtain ⟨X2, hs2, hr3, -⟩ := mergeNone (base := base) (P := P ++ X1) HAS.out.2.1 HAS.out.2.2.2 (by rw [HL2.out, HL4.out]; omega) HRW.out
                have HX2 := Lib.hid hs2
                have HRW := Lib.hid hr3
                clear hs2 hr3
                go_wp2_with fail
                go_end0
                exact ⟨rfl, X1 ++ X2, HFIN.out X1 X2 HX1.out HX2.out, by have g := HRW.out; simpa using g, HB.out⟩
              · have r1 : ¬ (i : Int) < (m : Int) := by omega
                have r2 : ¬ (m : Int) < (z : Int) := by omega
                have r3 : ¬ (a : Int) < (i : Int) := by omega
                have r4 : ¬ (i : Int) < (d : Int) := by omega
                have r5 : ¬ (d : Int) < (z : Int) := by omega
                have r6 : ¬ (z : Int) < (b : Int) := by omega
                have r1d : decide (i < m) = false := by rw [decide_eq_false_iff_not]; omega
                have r2d : decide (m < z) = false := by rw [decide_eq_false_iff_not]; omega
                have r3d : decide (a < i) = false := by rw [decide_eq_false_iff_not]; omega
                have r4d : decide (i < d) = false := by rw [decide_eq_false_iff_not]; omega
                have r5d : decide (d < z) = false := by rw [decide_eq_false_iff_not]; omega
                have r6d : decide (z < b) = false := by rw [decide_eq_false_iff_not]; omega
                have hz0 : U2 = [] := List.eq_nil_of_length_eq_zero (by rw [HL2.out]; omega)
                have HRW := Lib.hid (show ERow wo bk o (P ++ (U1 ++ (V1 ++ (U2 ++ (V2 ++ R))))) by have g := HRW.out; rw [hz0] at g ⊢; simpa using g)
                clear hz0
                obtain ⟨X1, hs1, hr2, -⟩ := mergeNone (base := base) (P := P) HAS.out.1 HAS.out.2.2.1 (by rw [HL1.out, HL3.out]; omega) HRW.out
                have HX1 := Lib.hid hs1
                have HRW := Lib.hid (show ERow _ bk o ((P ++ X1) ++ (U2 ++ (V2 ++ R))) by simpa using hr2)
                clear hs1 hr2
                have hXl : X1.length = e := by rw [Stb.stab_length preV HX1.out, List.length_append, HL1.out, HL3.out]; omega
                have HXL := Lib.hid hXl
                clear hXl
                obtain ⟨X2, hs2, hr3, -⟩ := mergeNone (base := base) (P := P ++ X1) HAS.out.2.1 HAS.out.2.2.2 (by rw [HL2.out, HL4.out]; omega) HRW.out
                have HX2 := Lib.hid hs2
                have HRW := Lib.hid hr3
                clear hs2 hr3
                go_wp2_with fail
                go_end0
                exact ⟨rfl, X1 ++ X2, HFIN.out X1 X2 HX1.out HX2.out, by have g := HRW.out; simpa using g, HB.out⟩
      obtain ⟨h, hh⟩ : ∃ h, (i + j) / 2 = h := ⟨_, rfl⟩
      obtain ⟨q, hq⟩ : ∃ q, h = a + q := ⟨h - a, by omega⟩
      obtain ⟨g, hg⟩ : ∃ g, nn - 1 - h = g := ⟨_, rfl⟩
      have hq1 : s ≤ q := by omega
      have hq2 : q < t := by omega
      obtain ⟨f, hf⟩ : ∃ f, e - q = f + 1 := ⟨e - q - 1, by omega⟩
      have hqu : q < U.length := by rw [HUU.out]; omega
      have hfw : f < W.length := by rw [HVV.out]; omega
      have p1 : (i : Int) < (j : Int) := by omega
      have p2 : ((i : Int) + (j : Int)) / 2 = (h : Int) := by omega
      have p3 : IntKind.i64.wrap (((nn - 1 : Nat) : Int) - (h : Int)) = (g : Int) := by rw [IntKind.wrap_i64]; omega
      have p4 : (h : Int) < (n : Int) := by omega
      have p5 : (g : Int) < (n : Int) := by omega
      obtain ⟨x, hx⟩ : ∃ x, U[q] = x := ⟨_, rfl⟩
      obtain ⟨D, hD⟩ : ∃ D, U.drop (q + 1) = D := ⟨_, rfl⟩
      obtain ⟨y, hy⟩ : ∃ y, W[f] = y := ⟨_, rfl⟩
      obtain ⟨E, hE⟩ : ∃ E, W.drop (f + 1) = E := ⟨_, rfl⟩
      have eU0 := List.drop_eq_getElem_cons hqu
      have eW0 := List.drop_eq_getElem_cons hfw
      rw [hx, hD] at eU0
      rw [hy, hE] at eW0
      have eU : U = U.take q ++ x :: D := by rw [← eU0]; exact (List.take_append_drop q U).symm
      have eW : W = W.take f ++ y :: E := by rw [← eW0]; exact (List.take_append_drop f W).symm
      have hx1 : ERow wr bk o ((P ++ U.take q) ++ x :: (D ++ (W ++ R))) := by
        have g := HR2.out
        have e2 : P ++ (U ++ (W ++ R)) = (P ++ U.take q) ++ x :: (D ++ (W ++ R)) := by
          have e3 : U ++ (W ++ R) = (U.take q ++ x :: D) ++ (W ++ R) := congrArg (· ++ (W ++ R)) eU
          rw [e3]; simp
        rw [e2] at g
        exact g
      have hx2 : ERow wr bk o ((P ++ (U ++ W.take f)) ++ y :: (E ++ R)) := by
        have g := HR2.out
        have e2 : P ++ (U ++ (W ++ R)) = (P ++ (U ++ W.take f)) ++ y :: (E ++ R) := by
          have e3 : W ++ R = (W.take f ++ y :: E) ++ R := congrArg (· ++ R) eW
          rw [e3]; simp
        rw [e2] at g
        exact g
      obtain ⟨x0, x1, x2, x3⟩ := row_abv hx1 hbw (i := h) (by rw [List.length_append, List.length_take, HA.out, HUU.out]; omega)
      obtain ⟨y0, y1, y2, y3⟩ := row_abv hx2 hbw (i := g) (by rw [List.length_append, List.length_append, List.length_take, HA.out, HUU.out, HVV.out]; omega)
      have HQ := Lib.hid hq
      have HF := Lib.hid hf
      have J := Lib.hid (fun w => JC.out y x w)
      have HX1 : Hid (∀ (S : List V) (x' : V), U.take (q + 1) = S ++ [x'] → x' = x) := Lib.hid (fun S x' e => (take_snoc hqu e).trans hx)
      have HX2 : Hid (∀ (x' : V) (T : List V), U.drop q = x' :: T → x' = x) := Lib.hid (fun x' T e => (drop_cons hqu e).trans hx)
      have HY1 : Hid (∀ (S : List V) (y' : V), W.take (e - q) = S ++ [y'] → y' = y) := Lib.hid (fun S y' g => by rw [hf] at g; exact (take_snoc hfw g).trans hy)
      have HY2 : Hid (∀ (y' : V) (T : List V), W.drop (e - (q + 1)) = y' :: T → y' = y) := Lib.hid (fun y' T g => by rw [show e - (q + 1) = f by omega] at g; exact (drop_cons hfw g).trans hy)
      have hq3 : q + 1 ≤ t := hq2
      clear hx1 hx2 hi hj hq hh hg hf hx hD hy hE eU0 eW0 eU eW hm hbb he hd hnn hqu hfw
      by_cases ho : El.ord y.1 x.1 < 0
      · have hdd : decide (El.ord y.1 x.1 < 0) = true := by simpa using ho
        have HLE := Lib.hid (leV_false (x := x) (y := y) ho)
        clear ho
        generalize El.ord y.1 x.1 = ov at *
        go_wp2_with fail
        refine wp_region_abv (by first | assumption | kernel_rfl) (by kernel_rfl) ?_
        repeat (first | go_big_quiet_step (exact callAbv (J.out _)) | quiet_step (exact callAbv (J.out _)))
        refine wpQuiet_nil ?_
        intro w2 hw2
        obtain ⟨p, rfl⟩ := hw2
        go_wp2_with fail
        go_roundw
        case rel => exact ⟨i, h, s, q, rfl, by first | rfl | go_num, HI.out, HQ.out, hs0, hq1, by omega, H2.out, (fun x' T S y' g1 g2 => by rw [HX2.out x' T g1, HY1.out S y' g2]; exact HLE.out), HR2.out.below p.h hbw, below_abv HB.out (by omega) p⟩
        case measure => have := HQ.out; have := HJ.out; simp [intOf]; omega
      · have hdd : decide (El.ord y.1 x.1 < 0) = false := by simpa using ho
        have HLE := Lib.hid (leV_true (x := x) (y := y) ho)
        clear ho
        generalize El.ord y.1 x.1 = ov at *
        go_wp2_with fail
        refine wp_region_abv (by first | assumption | kernel_rfl) (by kernel_rfl) ?_
        repeat (first | go_big_quiet_step (exact callAbv (J.out _)) | quiet_step (exact callAbv (J.out _)))
        refine wpQuiet_nil ?_
        intro w2 hw2
        obtain ⟨p, rfl⟩ := hw2
        go_wp2_with fail
        go_roundw
        case rel => exact ⟨h + 1, j, q + 1, t, by go_num, rfl, by have := HQ.out; omega, HJ.out, by omega, hq3, htt, (fun S x' y' T g1 g2 => by rw [HX1.out S x' g1, HY2.out y' T g2]; exact HLE.out), H1.out, HR2.out.below p.h hbw, below_abv HB.out (by omega) p⟩
        case measure => have := HQ.out; have := HJ.out; simp [intOf]; omega
end Go.Proofs.YtmobjpmkenpckaaDoor.KK
