/-
  Trees of losers: the law LoserBuilds.
-/
import Derived.Test.YthmipjlmmgdpmaaMi
namespace Go.Proofs.Ythmipjlmmgdpmaa.KK
open Go.ChangeShapes Go.WideShapes Go.ChangeAt Go.RowKit Go.Proofs

theorem Ord.some (ks : List LK) : ∃ L, Ord ks L := by
  refine ⟨(List.range ks.length).mergeSort (fun a b => !wn ks b a), List.mergeSort_perm _ _, ?_⟩
  have h := List.pairwise_mergeSort (le := fun a b => !wn ks b a) (fun a b c h g => by
    simp only [Bool.not_eq_eq_eq_not, Bool.not_true] at h g ⊢
    exact wn_ntrans g h) (fun a b => by
    by_cases e : a = b
    · subst e; simp [wn_irrefl]
    · have := wn_tot ks a b e
      simp only [this]; cases wn ks b a <;> simp) (List.range ks.length)
  exact h.imp fun h => by simpa using h
def TreeMade (w : World) (KV : List LK) (LV : List Int) (wv er : Int) (e : Ending) (w' : World) : Prop :=
  ∃ B D c d, e = .returned (.tuple #[.agg #[.slice B KV.length c, .slice D LV.length d, .int .i64 wv], .int .i64 er]) ∧ KsAt w' B KV ∧ IsAt w' D LV ∧ Below w.heap.size w w'
def RowBack (w : World) (OV : List Int) (er : Int) (e : Ending) (w' : World) : Prop :=
  ∃ B d, e = .returned (.tuple #[.slice B OV.length d, .int .i64 er]) ∧ IsAt w' B OV ∧ Below w.heap.size w w'
theorem both_build (ks : List LK) (hn : ks.length ≤ 4294967295) : ∃ (KV : List LK) (LV : List Int) (wv er : Int), KV.length ≤ 4294967295 ∧ LV.length ≤ 4294967295 ∧
    (∀ (A : Option Addr) (c : Nat) (w : World), KsAt w A ks → Calls Try.prog 13 #[.slice A ks.length c] w (TreeMade w KV LV wv er)) ∧
    (∀ (A : Option Addr) (c : Nat) (w : World), KsAt w A ks → Calls Try.prog 14 #[.slice A ks.length c] w (TreeMade w KV LV wv er)) := by
  by_cases h : keysE ks = 0
  · refine ⟨ks, loL ks, ((wnr ks : Nat) : Int), 0, hn, by rw [loL_len]; exact hn, fun A c w hf => (build_ok A c ks w hf h).mono ?_, fun A c w hf => (rbuild_ok A c ks w hf h).mono ?_⟩
    · rintro e w' ⟨kb, lb, cp, cl, rfl, ht⟩
      exact ⟨_, _, cp, cl, by rw [loL_len], ht.keys.ks, ht.lose.is, ht.below⟩
    · rintro e w' ⟨kb, lb, cp, cl, rfl, ht⟩
      exact ⟨_, _, cp, cl, by rw [loL_len], ht.keys.ks, ht.lose.is, ht.below⟩
  · exact ⟨[], [], 0, keysE ks, by simp, by simp, fun A c w hf => (build_no A c ks w hf hn h).mono fun e w' g => ⟨none, none, 0, 0, g.1, .inl rfl, .inl rfl, g.2⟩,
      fun A c w hf => (rbuild_no A c ks w hf hn h).mono fun e w' g => ⟨none, none, 0, 0, g.1, .inl rfl, .inl rfl, g.2⟩⟩
theorem both_order (ks : List LK) (ls : List Int) (win : Int) (hn : ks.length ≤ 4294967295) (hm : ls.length ≤ 4294967295) : ∃ (OV : List Int) (er : Int), OV.length ≤ 4294967295 ∧
    (∀ (A B : Option Addr) (c d : Nat) (w : World), KsAt w A ks → IsAt w B ls → Calls Try.prog 18 #[.agg #[.slice A ks.length c, .slice B ls.length d, .int .i64 win]] w (RowBack w OV er)) ∧
    (∀ (A B : Option Addr) (c d : Nat) (w : World), KsAt w A ks → IsAt w B ls → Calls Try.prog 19 #[.agg #[.slice A ks.length c, .slice B ls.length d, .int .i64 win]] w (RowBack w OV er)) := by
  by_cases h : (chkT ks ls win).2 = 0
  · obtain ⟨hk, rfl, rfl, _⟩ := chkT_good h
    obtain ⟨L, hL⟩ := Ord.some ks
    have hl : (natsV L).length = ks.length := by simp [natsV, hL.len]
    refine ⟨natsV L, 0, by rw [hl]; exact hn, fun A B c d w hf hg => ?_, fun A B c d w hf hg => ?_⟩
    · rw [loL_len]
      refine (order_ok A B c d ks w hf hg hk).mono ?_
      rintro e w' ⟨lb, cl, L', rfl, ho, hcr, _, hb⟩
      obtain rfl := ho.uniq hL
      exact ⟨_, cl, by rw [hl], hcr.is, hb⟩
    · rw [loL_len]
      refine (rorder_ok A B c d ks w hf hg hk L hL).mono ?_
      rintro e w' ⟨lb, cl, rfl, hcr, hb⟩
      exact ⟨_, cl, by rw [hl], hcr.is, hb⟩
  · exact ⟨[], (chkT ks ls win).2, by simp, fun A B c d w hf hg => (order_bad A B c d ks ls win w hf hg hn hm h).mono fun e w' g => ⟨none, 0, g.1, .inl rfl, g.2⟩,
      fun A B c d w hf hg => (rorder_bad A B c d ks ls win w hf hg hn hm h).mono fun e w' g => ⟨none, 0, g.1, .inl rfl, g.2⟩⟩

set_option maxRecDepth 100000 in
set_option maxHeartbeats 8000000 in
theorem Builds_any (A : Option Addr) (c : Nat) (ks : List LK) (B : Option Addr) (d : Nat) (ls : List Int) (win : Int) (w : World) (hf : KsAt w A ks) (hn : ks.length ≤ 9223372036854775807) (hs : SizedL ks) (hg : IsAt w B ls) (hm : ls.length ≤ 9223372036854775807) (_ : ∀ x ∈ ls, -9223372036854775808 ≤ x ∧ x ≤ 9223372036854775807) :
    Calls Try.prog 3 #[.slice A ks.length c, .slice B ls.length d, .int .i64 win] w fun e w' => e = .returned (.bool true) ∧ Below w.heap.size w w' := by
  have J := Lib.hid (far10_any A c ks _ hf hn hs)
  have JW := Lib.hid (fun w => awake10_any w)
  cases hfar : farK ks with
  | true =>
    rw [hfar] at J
    clear hf hs hfar hg
    generalize ks.length = n at *
    generalize ls.length = m at *
    go_enter Try.func3, Try.ntmps3
    go_wp2_with fail
    refine J.out.mono ?_
    rintro e w1 ⟨rfl, hb⟩
    have HB1 := Lib.hid hb
    clear hb
    go_wp2_with fail
    refine (JW.out _).mono ?_
    rintro e w2 ⟨rfl, hb⟩
    have HB2 := Lib.hid (eb_of HB1.out hb (Nat.le_refl _))
    clear hb
    go_wp2_with fail
    go_ret
    exact ⟨rfl, HB2.out⟩
  | false =>
  rw [hfar] at J
  obtain ⟨hn40, _⟩ := farK_len hfar
  by_cases h40 : 40 < ls.length
  · clear hf hs hfar hg
    generalize ks.length = n at *
    generalize ls.length = m at *
    have h40' : (40 : Int) < (m : Int) := by omega
    go_enter Try.func3, Try.ntmps3
    go_wp2_with fail
    refine J.out.mono ?_
    rintro e w1 ⟨rfl, hb⟩
    have HB1 := Lib.hid hb
    clear hb
    go_wp2_with fail
    refine (JW.out _).mono ?_
    rintro e w2 ⟨rfl, hb⟩
    have HB2 := Lib.hid (eb_of HB1.out hb (Nat.le_refl _))
    clear hb
    go_wp2_with fail
    go_ret
    exact ⟨rfl, HB2.out⟩
  obtain ⟨KV, LV, wv, er, hk1, hk2, P1, P2⟩ := both_build ks (by omega)
  obtain ⟨OV, oe, ho1, O1, O2⟩ := both_order ks ls win (by omega) (by omega)
  obtain ⟨QV, qe, hq1, Q1, Q2⟩ := both_order KV LV wv hk1 hk2
  have HP1 := Lib.hid P1
  have HP2 := Lib.hid P2
  have HO1 := Lib.hid O1
  have HO2 := Lib.hid O2
  have HQ1 := Lib.hid Q1
  have HQ2 := Lib.hid Q2
  have HC1 := Lib.hid (fun (w' : World) (hb : Below w.heap.size w w') => check_any A B c d ks ls win w' (hf.below hb (Nat.le_refl _)) (hg.below hb (Nat.le_refl _)) (by omega) (by omega))
  have HC2 := Lib.hid (fun (w' : World) (hb : Below w.heap.size w w') => rcheck_any A B c d ks ls win w' (hf.below hb (Nat.le_refl _)) (hg.below hb (Nat.le_refl _)) (by omega) (by omega))
  have HSM := Lib.hid (fun (B B' D D' : Option Addr) (e e' d d' : Nat) (w' : World) (h1 : KsAt w' B KV) (h2 : KsAt w' B' KV) (h3 : IsAt w' D LV) (h4 : IsAt w' D' LV) => same_eq B B' D D' e e' d d' KV LV wv w' h1 h2 h3 h4 hk1 hk2)
  have HI1 := Lib.hid (fun (B B' : Option Addr) (d d' : Nat) (w' : World) (h1 : IsAt w' B OV) (h2 : IsAt w' B' OV) => ints_eq B B' d d' OV w' h1 h2 ho1)
  have HI2 := Lib.hid (fun (B B' : Option Addr) (d d' : Nat) (w' : World) (h1 : IsAt w' B QV) (h2 : IsAt w' B' QV) => ints_eq B B' d d' QV w' h1 h2 hq1)
  have HF := Lib.hid hf
  have HG := Lib.hid hg
  clear P1 P2 O1 O2 Q1 Q2 hf hg hs hfar
  generalize chkT ks ls win = ck at *
  obtain ⟨ci, ce⟩ := ck
  obtain ⟨n, hnn⟩ : ∃ n, ks.length = n := ⟨_, rfl⟩
  obtain ⟨m, hmm⟩ : ∃ m, ls.length = m := ⟨_, rfl⟩
  rw [hnn] at J HP1 HP2 HO1 HO2 HC1 HC2 hn40 hn ⊢
  rw [hmm] at HO1 HO2 HC1 HC2 h40 hm ⊢
  have h40' : ¬ (40 : Int) < (m : Int) := by omega
  clear hnn hmm
  go_enter Try.func3, Try.ntmps3
  go_wp2_with fail
  refine J.out.mono ?_
  rintro e w1 ⟨rfl, hb⟩
  have HB1 := Lib.hid hb
  clear hb J
  go_wp2_with fail
  refine (HP1.out _ _ w1 (HF.out.below HB1.out (Nat.le_refl _))).mono ?_
  rintro e w2 ⟨B1, D1, k1, l1, rfl, hks, his, hb⟩
  have HKA := Lib.hid hks
  have HLA := Lib.hid his
  have HB2 := Lib.hid (eb_of HB1.out hb (Nat.le_refl _))
  clear hks his hb
  go_wp2_with fail
  obtain ⟨w3, hw3⟩ : ∃ w3, w3 = w2.alloc (.cells #[.slice B1 KV.length k1, .slice D1 LV.length l1, .int .i64 wv] 27) := ⟨_, rfl⟩
  have H23 : Hid (Below w2.heap.size w2 w3) := Lib.hid (hw3 ▸ alloc_below _ _)
  have HB3 := Lib.hid (eb_of HB2.out H23.out (Nat.le_refl _))
  have HR3 : Hid (Row3 w3 w2.heap.size 27 (.slice B1 KV.length k1) (.slice D1 LV.length l1) (.int .i64 wv)) := Lib.hid (hw3 ▸ heap_alloc_new w2 _)
  rw [← hw3]
  clear hw3
  refine (HP2.out _ _ w3 (HF.out.below HB3.out (Nat.le_refl _))).mono ?_
  rintro e w4 ⟨B2, D2, k2, l2, rfl, hks, his, hb⟩
  have HKB := Lib.hid hks
  have HLB := Lib.hid his
  have H34 := Lib.hid hb
  clear hks his hb
  obtain ⟨w5, hw5⟩ : ∃ w5, w5 = w4.alloc (.cells #[.slice B2 KV.length k2, .slice D2 LV.length l2, .int .i64 wv] 27) := ⟨_, rfl⟩
  have H45 : Hid (Below w4.heap.size w4 w5) := Lib.hid (hw5 ▸ alloc_below _ _)
  have H35 := Lib.hid (eb_of H34.out H45.out (Nat.le_refl _))
  have H25 := Lib.hid (eb_of H23.out H35.out (Nat.le_refl _))
  have HR5 : Hid (Row3 w5 w4.heap.size 27 (.slice B2 KV.length k2) (.slice D2 LV.length l2) (.int .i64 wv)) := Lib.hid (hw5 ▸ heap_alloc_new w4 _)
  have HQ : Hid (∀ w', Below w5.heap.size w5 w' → Row3 w' w2.heap.size 27 (.slice B1 KV.length k1) (.slice D1 LV.length l1) (.int .i64 wv) ∧ Row3 w' w4.heap.size 27 (.slice B2 KV.length k2) (.slice D2 LV.length l2) (.int .i64 wv) ∧ KsAt w' B1 KV ∧ IsAt w' D1 LV ∧ KsAt w' B2 KV ∧ IsAt w' D2 LV ∧ KsAt w' A ks ∧ IsAt w' B ls ∧ Below w.heap.size w w') := Lib.hid (fun w' h => by
    have g3 := eb_of H35.out h (Nat.le_refl _)
    have g2 := eb_of H25.out h (Nat.le_refl _)
    have g4 := eb_of H45.out h (Nat.le_refl _)
    have gw := eb_of HB2.out g2 (Nat.le_refl _)
    exact ⟨HR3.out.below g3 (Nat.le_refl _), HR5.out.below h (Nat.le_refl _), HKA.out.below g2 (Nat.le_refl _), HLA.out.below g2 (Nat.le_refl _), HKB.out.below g4 (Nat.le_refl _), HLB.out.below g4 (Nat.le_refl _), HF.out.below gw (Nat.le_refl _), HG.out.below gw (Nat.le_refl _), gw⟩)
  clear H23 H34 H45 H35 H25 HR3 HR5 HKA HLA HKB HLB HB3 HB2 HB1 HP1 HP2
  obtain ⟨q0, q1, q2, q3, q4, q5, q6, q7, q8⟩ := HQ.out w5 (Below.refl _ _)
  have a0 := q0.c0
  have a1 := q0.c1
  have a2 := q0.c2
  have b0 := q1.c0
  have b1 := q1.c1
  have b2 := q1.c2
  have JX := Lib.hid (HSM.out _ _ _ _ k1 k2 l1 l2 w5 q2 q4 q3 q5)
  clear q0 q1 q2 q3 q4 q5 q6 q7 q8 HSM
  rw [hw5] at a0 a1 a2 b0 b1 b2
  go_wp2_with fail
  rw [← hw5]
  clear hw5 a0 a1 a2 b0 b1 b2
  refine JX.out.mono ?_
  rintro e w6 ⟨rfl, hb⟩
  have H56 := Lib.hid hb
  clear hb JX
  obtain ⟨w7, hw7⟩ : ∃ w7, w7 = w6.alloc (.cells #[.slice A n c, .slice B m d, .int .i64 win] 27) := ⟨_, rfl⟩
  have H67 : Hid (Below w6.heap.size w6 w7) := Lib.hid (hw7 ▸ alloc_below _ _)
  have H57 := Lib.hid (eb_of H56.out H67.out (Nat.le_refl _))
  have HR7 : Hid (Row3 w7 w6.heap.size 27 (.slice A n c) (.slice B m d) (.int .i64 win)) := Lib.hid (hw7 ▸ heap_alloc_new w6 _)
  have HT : Hid (∀ w', Below w7.heap.size w7 w' → Row3 w' w6.heap.size 27 (.slice A n c) (.slice B m d) (.int .i64 win) ∧ Row3 w' w2.heap.size 27 (.slice B1 KV.length k1) (.slice D1 LV.length l1) (.int .i64 wv) ∧ Row3 w' w4.heap.size 27 (.slice B2 KV.length k2) (.slice D2 LV.length l2) (.int .i64 wv) ∧ KsAt w' B1 KV ∧ IsAt w' D1 LV ∧ KsAt w' B2 KV ∧ IsAt w' D2 LV ∧ KsAt w' A ks ∧ IsAt w' B ls ∧ Below w.heap.size w w') := Lib.hid (fun w' h => ⟨HR7.out.below h (Nat.le_refl _), HQ.out w' (eb_of H57.out h (Nat.le_refl _))⟩)
  clear H56 H67 H57 HR7 HQ
  obtain ⟨t, q0, q1, q2, q3, q4, q5, q6, q7, q8⟩ := HT.out w7 (Below.refl _ _)
  have c0 := t.c0
  have c1 := t.c1
  have c2 := t.c2
  have JX := Lib.hid (HC1.out w7 q8)
  clear t q0 q1 q2 q3 q4 q5 q6 q7 q8
  rw [hw7] at c0 c1 c2
  go_wp2_with fail
  rw [← hw7]
  clear hw7 c0 c1 c2
  refine JX.out.mono ?_
  rintro e w8 ⟨rfl, hb⟩
  have HB8 := Lib.hid hb
  clear hb JX
  obtain ⟨t, q0, q1, q2, q3, q4, q5, q6, q7, q8⟩ := HT.out w8 HB8.out
  have c0 := t.c0
  have c1 := t.c1
  have c2 := t.c2
  have JX := Lib.hid (HC2.out w8 q8)
  clear t q0 q1 q2 q3 q4 q5 q6 q7 q8
  go_wp2_with fail
  clear c0 c1 c2
  refine JX.out.mono ?_
  rintro e w9 ⟨rfl, hb⟩
  have HB9 := Lib.hid (eb_of HB8.out hb (Nat.le_refl _))
  clear hb JX
  obtain ⟨t, q0, q1, q2, q3, q4, q5, q6, q7, q8⟩ := HT.out w9 HB9.out
  have c0 := t.c0
  have c1 := t.c1
  have c2 := t.c2
  have JX := Lib.hid (HO1.out A B c d w9 q6 q7)
  clear t q0 q1 q2 q3 q4 q5 q6 q7 q8
  go_wp2_with fail
  clear c0 c1 c2
  refine JX.out.mono ?_
  rintro e w10 ⟨B3, d3, rfl, his, hb⟩
  have HB10 := Lib.hid (eb_of HB9.out hb (Nat.le_refl _))
  have HX1 := Lib.hid his
  clear hb his JX
  obtain ⟨t, q0, q1, q2, q3, q4, q5, q6, q7, q8⟩ := HT.out w10 HB10.out
  have c0 := t.c0
  have c1 := t.c1
  have c2 := t.c2
  have JX := Lib.hid (HO2.out A B c d w10 q6 q7)
  clear t q0 q1 q2 q3 q4 q5 q6 q7 q8
  go_wp2_with fail
  clear c0 c1 c2
  refine JX.out.mono ?_
  rintro e w11 ⟨B4, d4, rfl, his, hb⟩
  have HB11 := Lib.hid (eb_of HB10.out hb (Nat.le_refl _))
  have HX2 := Lib.hid (show IsAt w11 B3 OV ∧ IsAt w11 B4 OV from ⟨HX1.out.below hb (Nat.le_refl _), his⟩)
  have JX := Lib.hid (HI1.out B3 B4 d3 d4 w11 HX2.out.1 HX2.out.2)
  clear hb his HX1 HX2
  go_wp2_with fail
  refine JX.out.mono ?_
  rintro e w12 ⟨rfl, hb⟩
  have HB12 := Lib.hid (eb_of HB11.out hb (Nat.le_refl _))
  clear hb JX
  obtain ⟨t, q0, q1, q2, q3, q4, q5, q6, q7, q8⟩ := HT.out w12 HB12.out
  have c0 := q1.c0
  have c1 := q1.c1
  have c2 := q1.c2
  have JX := Lib.hid (HQ1.out B2 D2 k2 l2 w12 q4 q5)
  clear t q0 q1 q2 q3 q4 q5 q6 q7 q8
  go_wp2_with fail
  clear c0 c1 c2
  refine JX.out.mono ?_
  rintro e w13 ⟨B5, d5, rfl, his, hb⟩
  have HB13 := Lib.hid (eb_of HB12.out hb (Nat.le_refl _))
  have HX1 := Lib.hid his
  clear hb his JX
  obtain ⟨t, q0, q1, q2, q3, q4, q5, q6, q7, q8⟩ := HT.out w13 HB13.out
  have c0 := q1.c0
  have c1 := q1.c1
  have c2 := q1.c2
  have JX := Lib.hid (HQ2.out B2 D2 k2 l2 w13 q4 q5)
  clear t q0 q1 q2 q3 q4 q5 q6 q7 q8
  go_wp2_with fail
  clear c0 c1 c2
  refine JX.out.mono ?_
  rintro e w14 ⟨B6, d6, rfl, his, hb⟩
  have HB14 := Lib.hid (eb_of HB13.out hb (Nat.le_refl _))
  have HX2 := Lib.hid (show IsAt w14 B5 QV ∧ IsAt w14 B6 QV from ⟨HX1.out.below hb (Nat.le_refl _), his⟩)
  have JX := Lib.hid (HI2.out B5 B6 d5 d6 w14 HX2.out.1 HX2.out.2)
  clear hb his HX1 HX2
  go_wp2_with fail
  refine JX.out.mono ?_
  rintro e w15 ⟨rfl, hb⟩
  have HB15 := Lib.hid (eb_of HB14.out hb (Nat.le_refl _))
  clear hb JX
  go_wp2_with fail
  refine (JW.out _).mono ?_
  rintro e w16 ⟨rfl, hb⟩
  have HB16 := Lib.hid (eb_of HB15.out hb (Nat.le_refl _))
  clear hb
  go_wp2_with fail
  go_ret
  obtain ⟨t, q0, q1, q2, q3, q4, q5, q6, q7, q8⟩ := HT.out w16 HB16.out
  exact ⟨rfl, q8⟩
end Go.Proofs.Ythmipjlmmgdpmaa.KK
