/-
  Trees of losers: the law LoserTurns.
-/
import Derived.Test.YthmipjlmmgdpmaaMg
import Derived.Deep.DeepCutAuto
namespace Go.Proofs.Ythmipjlmmgdpmaa.KK
open Go.ChangeShapes Go.WideShapes Go.ChangeAt Go.RowKit Go.Proofs

/-- the two boxes of the law -/
theorem box2L (k : ByteArray) (kd : Bool) (x0 x1 : Int) (w : World) : Hid (∀ w', Below ((w.alloc (.cells #[.string k, .bool kd] 39)).alloc (.cells #[.int .i64 x0, .int .i64 x1] 40)).heap.size ((w.alloc (.cells #[.string k, .bool kd] 39)).alloc (.cells #[.int .i64 x0, .int .i64 x1] 40)) w' →
    w'.cell? ⟨w.heap.size, 0, none⟩ = some (.string k) ∧ w'.cell? ⟨w.heap.size, 1, none⟩ = some (.bool kd) ∧ w'.cell? ⟨w.heap.size + 1, 0, none⟩ = some (.int .i64 x0) ∧ w'.cell? ⟨w.heap.size + 1, 1, none⟩ = some (.int .i64 x1) ∧ Below w.heap.size w w') := Lib.hid fun w' h => by
  simp only [World.size_alloc] at h
  have e1 := (h.block w.heap.size (by omega)).trans (hp2 w _ _)
  have e2 := (h.block (w.heap.size + 1) (by omega)).trans (hp3 w (.cells #[.string k, .bool kd] 39) (.cells #[.int .i64 x0, .int .i64 x1] 40) rfl)
  exact ⟨cell_of_row w' w.heap.size 0 _ _ _ e1, cell_of_row w' w.heap.size 1 _ _ _ e1, cell_of_row w' (w.heap.size + 1) 0 _ _ _ e2, cell_of_row w' (w.heap.size + 1) 1 _ _ _ e2, (alloc2_below w _ _).trans (h.mono (by omega))⟩
set_option maxRecDepth 100000 in
set_option maxHeartbeats 8000000 in
theorem Turns_any (A : Option Addr) (c : Nat) (ks : List LK) (k : ByteArray) (kd : Bool) (x0 x1 : Int) (w : World) (hf : KsAt w A ks) (hn : ks.length ≤ 9223372036854775807) (hs : SizedL ks) (hkz : k.size ≤ 9223372036854775807)
    (hx0 : -9223372036854775808 ≤ x0 ∧ x0 ≤ 9223372036854775807) (hx1 : -9223372036854775808 ≤ x1 ∧ x1 ≤ 9223372036854775807) :
    Calls Try.prog 4 #[.slice A ks.length c, .agg #[.string k, .bool kd], .agg #[.int .i64 x0, .int .i64 x1]] w fun e w' => e = .returned (.bool true) ∧ Below w.heap.size w w' := by
  have HX := box2L k kd x0 x1 w
  obtain ⟨y0, y1, y2, y3, y4⟩ := HX.out _ (Below.refl _ _)
  have HB0 := Lib.hid y4
  have J := Lib.hid (far10_any A c ks _ (hf.below y4 (Nat.le_refl _)) hn hs)
  have JW := Lib.hid (fun w => awake10_any w)
  clear y4
  cases hfar : farK ks with
  | true =>
    rw [hfar] at J
    clear hf hs hfar
    generalize ks.length = n at *
    go_enter Try.func4, Try.ntmps4
    go_wp2_with fail
    refine J.out.mono ?_
    rintro e w1 ⟨rfl, hb⟩
    have HB1 := Lib.hid (eb_of HB0.out hb (by simp))
    clear hb
    go_wp2_with fail
    refine (JW.out _).mono ?_
    rintro e w2 ⟨rfl, hb⟩
    have HB2 := Lib.hid (eb_of HB1.out hb (Nat.le_refl _))
    clear hb
    go_wp2_with fail
    go_ret
    exact ⟨rfl, HB2.out⟩
  | false =>
  rw [hfar] at J
  obtain ⟨hn40, _⟩ := farK_len hfar
  by_cases h100 : 100 < k.size
  · clear hf hs hfar
    generalize ks.length = n at *
    go_enter Try.func4, Try.ntmps4
    go_wp2_with fail
    refine J.out.mono ?_
    rintro e w1 ⟨rfl, hb⟩
    obtain ⟨y0, y1, y2, y3, y4⟩ := HX.out _ hb
    have HB1 := Lib.hid y4
    clear hb y4
    go_wp2_with fail
    refine (JW.out _).mono ?_
    rintro e w2 ⟨rfl, hb⟩
    have HB2 := Lib.hid (eb_of HB1.out hb (Nat.le_refl _))
    clear hb
    go_wp2_with fail
    go_ret
    exact ⟨rfl, HB2.out⟩
  by_cases hk : keysE ks = 0
  rotate_left
  · have JB := Lib.hid (fun w' (hb : Below w.heap.size w w') => rbuild_no A c ks w' (hf.below hb (Nat.le_refl _)) (by omega) hk)
    clear hf hs hfar hk
    generalize keysE ks = r at *
    generalize ks.length = n at *
    obtain ⟨p, a, er, W1, W2⟩ := both_winner [] [] 0 (by simp) (by simp)
    obtain ⟨KV, LV, wv, gg, er2, hk1, hk2, R1, R2⟩ := both_replace [] [] 0 k kd (by simp) (by simp)
    have HW1 := Lib.hid W1
    have HW2 := Lib.hid W2
    have HR1 := Lib.hid R1
    have HR2 := Lib.hid R2
    have HSM := Lib.hid (fun (B B' D D' : Option Addr) (e e' d d' : Nat) (w' : World) (h1 : KsAt w' B KV) (h2 : KsAt w' B' KV) (h3 : IsAt w' D LV) (h4 : IsAt w' D' LV) => same_eq B B' D D' e e' d d' KV LV wv w' h1 h2 h3 h4 hk1 hk2)
    clear W1 W2 R1 R2 hk1 hk2
    simp only [List.length_nil] at HW1 HW2 HR1 HR2
    have hneg : x0 < 0 ∨ ¬ x0 < 0 := by omega
    rcases hneg with hx | hx
    · go_enter Try.func4, Try.ntmps4
      go_wp2_with fail
      refine J.out.mono ?_
      rintro e w1 ⟨rfl, hb⟩
      obtain ⟨y0, y1, y2, y3, y4⟩ := HX.out _ hb
      have HB1 := Lib.hid y4
      have HB1' := Lib.hid hb
      clear hb y4 J
      go_wp2_with fail
      refine (JB.out _ HB1.out).mono ?_
      rintro e w2 ⟨rfl, hb⟩
      have HB2' := Lib.hid (eb_of HB1'.out hb (Nat.le_refl _))
      clear hb JB y0 y1 y2 y3
      obtain ⟨w3, hw3⟩ : ∃ w3, w3 = w2.alloc (.cells #[.slice none 0 0, .slice none 0 0, .int .i64 0] 27) := ⟨_, rfl⟩
      have HB3' : Hid (Below ((w.alloc (.cells #[.string k, .bool kd] 39)).alloc (.cells #[.int .i64 x0, .int .i64 x1] 40)).heap.size ((w.alloc (.cells #[.string k, .bool kd] 39)).alloc (.cells #[.int .i64 x0, .int .i64 x1] 40)) w3) := Lib.hid (hw3 ▸ eb_of HB2'.out (alloc_below _ _) (Nat.le_refl _))
      have HRW : Hid (Row3 w3 w2.heap.size 27 (.slice none 0 0) (.slice none 0 0) (.int .i64 0)) := Lib.hid (hw3 ▸ heap_alloc_new w2 _)
      have HQ : Hid (∀ w', Below w3.heap.size w3 w' → Row3 w' w2.heap.size 27 (.slice none 0 0) (.slice none 0 0) (.int .i64 0) ∧ KsAt w' none [] ∧ IsAt w' none [] ∧ w'.cell? ⟨w.heap.size, 0, none⟩ = some (.string k) ∧ w'.cell? ⟨w.heap.size, 1, none⟩ = some (.bool kd) ∧ Below w.heap.size w w') := Lib.hid (fun w' h => by
        obtain ⟨y0, y1, y2, y3, y4⟩ := HX.out w' (eb_of HB3'.out h (Nat.le_refl _))
        exact ⟨HRW.out.below h (Nat.le_refl _), .inl rfl, .inl rfl, y0, y1, y4⟩)
      obtain ⟨y0, y1, y2, y3, y4⟩ := HX.out w3 HB3'.out
      rw [hw3] at y2 y3
      clear y0 y1 y4
      obtain ⟨q0, q1, q2, q3, q4, q5⟩ := HQ.out w3 (Below.refl _ _)
      have c0 := q0.c0
      have c1 := q0.c1
      have c2 := q0.c2
      have JX := Lib.hid (HW1.out _ _ 0 0 w3 q1 q2)
      clear q0 q1 q2 q3 q4 q5
      rw [hw3] at c0 c1 c2
      go_wp2_with fail
      rw [← hw3]
      clear hw3 c0 c1 c2
      refine JX.out.mono ?_
      rintro e w11 ⟨rfl, hb⟩
      have HB11 := Lib.hid hb
      clear hb JX
      obtain ⟨q0, q1, q2, q3, q4, q5⟩ := HQ.out w11 HB11.out
      have c0 := q0.c0
      have c1 := q0.c1
      have c2 := q0.c2
      have JX := Lib.hid (HW2.out _ _ 0 0 w11 q1 q2)
      clear q0 q1 q2 q3 q4 q5
      go_wp2_with fail
      refine JX.out.mono ?_
      rintro e w12 ⟨rfl, hb⟩
      have HB12 := Lib.hid (eb_of HB11.out hb (Nat.le_refl _))
      clear hb JX c0 c1 c2
      obtain ⟨q0, q1, q2, q3, q4, q5⟩ := HQ.out w12 HB12.out
      have c0 := q0.c0
      have c1 := q0.c1
      have c2 := q0.c2
      have JX := Lib.hid (HR1.out _ _ 0 0 w12 q1 q2)
      clear q0 q1 q2 q5
      go_wp2_with fail
      refine JX.out.mono ?_
      rintro e w13 ⟨B1, D1, k1, k2, rfl, hks, his, hb⟩
      have HK1 := Lib.hid hks
      have HI1 := Lib.hid his
      have HB13 := Lib.hid (eb_of HB12.out hb (Nat.le_refl _))
      clear hb hks his JX c0 c1 c2 q3 q4
      obtain ⟨kn, hkn⟩ : ∃ kn, KV.length = kn := ⟨_, rfl⟩
      obtain ⟨ln, hln⟩ : ∃ ln, LV.length = ln := ⟨_, rfl⟩
      rw [hkn, hln] at HSM ⊢
      obtain ⟨w14, hw14⟩ : ∃ w14, w14 = w13.alloc (.cells #[.slice B1 kn k1, .slice D1 ln k2, .int .i64 wv] 27) := ⟨_, rfl⟩
      have HB14' : Hid (Below w13.heap.size w13 w14) := Lib.hid (hw14 ▸ alloc_below _ _)
      have HB14 := Lib.hid (eb_of HB13.out HB14'.out (Nat.le_refl _))
      have HROW : Hid (Row3 w14 w13.heap.size 27 (.slice B1 kn k1) (.slice D1 ln k2) (.int .i64 wv)) := Lib.hid (hw14 ▸ heap_alloc_new w13 _)
      obtain ⟨q0, q1, q2, q3, q4, q5⟩ := HQ.out w14 HB14.out
      have c0 := q0.c0
      have c1 := q0.c1
      have c2 := q0.c2
      rw [hw14] at c0 c1 c2 q3 q4
      have JX := Lib.hid (HR2.out _ _ 0 0 w14 q1 q2)
      clear q0 q1 q2 q5
      go_wp2_with fail
      rw [← hw14]
      clear hw14 c0 c1 c2 q3 q4
      refine JX.out.mono ?_
      rintro e w15 ⟨B2, D2, k3, k4, rfl, hks, his, hb⟩
      have HK2 := Lib.hid hks
      have HI2 := Lib.hid his
      have HB15 := Lib.hid (eb_of HB14.out hb (Nat.le_refl _))
      have HB15' := Lib.hid (eb_of HB14'.out hb (Nat.le_refl _))
      have HROW2 := Lib.hid (HROW.out.below hb (Nat.le_refl _))
      clear hb hks his JX HROW
      rw [hkn, hln]
      clear hkn hln
      obtain ⟨w16, hw16⟩ : ∃ w16, w16 = w15.alloc (.cells #[.slice B2 kn k3, .slice D2 ln k4, .int .i64 wv] 27) := ⟨_, rfl⟩
      have HB16' : Hid (Below w15.heap.size w15 w16) := Lib.hid (hw16 ▸ alloc_below _ _)
      have HROW3 := Lib.hid (HROW2.out.below HB16'.out (Nat.le_refl _))
      have h16 := eb_of HB15'.out HB16'.out (Nat.le_refl _)
      have JX := Lib.hid (HSM.out B1 B2 D1 D2 k1 k3 k2 k4 w16 (HK1.out.below h16 (Nat.le_refl _)) (HK2.out.below HB16'.out (Nat.le_refl _)) (HI1.out.below h16 (Nat.le_refl _)) (HI2.out.below HB16'.out (Nat.le_refl _)))
      have HBW := Lib.hid ((HQ.out w16 (eb_of HB15.out HB16'.out (Nat.le_refl _))).2.2.2.2.2)
      have d0 := HROW3.out.c0
      have d1 := HROW3.out.c1
      have d2 := HROW3.out.c2
      rw [hw16] at d0 d1 d2
      clear h16 HROW2 HROW3
      go_wp2_with fail
      rw [← hw16]
      clear hw16 d0 d1 d2
      refine JX.out.mono ?_
      rintro e w17 ⟨rfl, hb⟩
      have HB17 := Lib.hid (eb_of HBW.out hb (Nat.le_refl _))
      clear hb
      go_wp2_with fail
      refine (JW.out _).mono ?_
      rintro e w18 ⟨rfl, hb⟩
      have HB18 := Lib.hid (eb_of HB17.out hb (Nat.le_refl _))
      clear hb
      go_wp2_with fail
      go_ret
      exact ⟨rfl, HB18.out⟩
    · go_enter Try.func4, Try.ntmps4
      go_wp2_with fail
      refine J.out.mono ?_
      rintro e w1 ⟨rfl, hb⟩
      obtain ⟨y0, y1, y2, y3, y4⟩ := HX.out _ hb
      have HB1 := Lib.hid y4
      have HB1' := Lib.hid hb
      clear hb y4 J
      go_wp2_with fail
      refine (JB.out _ HB1.out).mono ?_
      rintro e w2 ⟨rfl, hb⟩
      have HB2' := Lib.hid (eb_of HB1'.out hb (Nat.le_refl _))
      clear hb JB y0 y1 y2 y3
      obtain ⟨w3, hw3⟩ : ∃ w3, w3 = w2.alloc (.cells #[.slice none 0 0, .slice none 0 0, .int .i64 0] 27) := ⟨_, rfl⟩
      have HB3' : Hid (Below ((w.alloc (.cells #[.string k, .bool kd] 39)).alloc (.cells #[.int .i64 x0, .int .i64 x1] 40)).heap.size ((w.alloc (.cells #[.string k, .bool kd] 39)).alloc (.cells #[.int .i64 x0, .int .i64 x1] 40)) w3) := Lib.hid (hw3 ▸ eb_of HB2'.out (alloc_below _ _) (Nat.le_refl _))
      have HRW : Hid (Row3 w3 w2.heap.size 27 (.slice none 0 0) (.slice none 0 0) (.int .i64 0)) := Lib.hid (hw3 ▸ heap_alloc_new w2 _)
      have HQ : Hid (∀ w', Below w3.heap.size w3 w' → Row3 w' w2.heap.size 27 (.slice none 0 0) (.slice none 0 0) (.int .i64 0) ∧ KsAt w' none [] ∧ IsAt w' none [] ∧ w'.cell? ⟨w.heap.size, 0, none⟩ = some (.string k) ∧ w'.cell? ⟨w.heap.size, 1, none⟩ = some (.bool kd) ∧ Below w.heap.size w w') := Lib.hid (fun w' h => by
        obtain ⟨y0, y1, y2, y3, y4⟩ := HX.out w' (eb_of HB3'.out h (Nat.le_refl _))
        exact ⟨HRW.out.below h (Nat.le_refl _), .inl rfl, .inl rfl, y0, y1, y4⟩)
      obtain ⟨y0, y1, y2, y3, y4⟩ := HX.out w3 HB3'.out
      rw [hw3] at y2 y3
      clear y0 y1 y4
      obtain ⟨q0, q1, q2, q3, q4, q5⟩ := HQ.out w3 (Below.refl _ _)
      have c0 := q0.c0
      have c1 := q0.c1
      have c2 := q0.c2
      have JX := Lib.hid (HW1.out _ _ 0 0 w3 q1 q2)
      clear q0 q1 q2 q3 q4 q5
      rw [hw3] at c0 c1 c2
      go_wp2_with fail
      rw [← hw3]
      clear hw3 c0 c1 c2
      refine JX.out.mono ?_
      rintro e w11 ⟨rfl, hb⟩
      have HB11 := Lib.hid hb
      clear hb JX
      obtain ⟨q0, q1, q2, q3, q4, q5⟩ := HQ.out w11 HB11.out
      have c0 := q0.c0
      have c1 := q0.c1
      have c2 := q0.c2
      have JX := Lib.hid (HW2.out _ _ 0 0 w11 q1 q2)
      clear q0 q1 q2 q3 q4 q5
      go_wp2_with fail
      refine JX.out.mono ?_
      rintro e w12 ⟨rfl, hb⟩
      have HB12 := Lib.hid (eb_of HB11.out hb (Nat.le_refl _))
      clear hb JX c0 c1 c2
      obtain ⟨q0, q1, q2, q3, q4, q5⟩ := HQ.out w12 HB12.out
      have c0 := q0.c0
      have c1 := q0.c1
      have c2 := q0.c2
      have JX := Lib.hid (HR1.out _ _ 0 0 w12 q1 q2)
      clear q0 q1 q2 q5
      go_wp2_with fail
      refine JX.out.mono ?_
      rintro e w13 ⟨B1, D1, k1, k2, rfl, hks, his, hb⟩
      have HK1 := Lib.hid hks
      have HI1 := Lib.hid his
      have HB13 := Lib.hid (eb_of HB12.out hb (Nat.le_refl _))
      clear hb hks his JX c0 c1 c2 q3 q4
      obtain ⟨kn, hkn⟩ : ∃ kn, KV.length = kn := ⟨_, rfl⟩
      obtain ⟨ln, hln⟩ : ∃ ln, LV.length = ln := ⟨_, rfl⟩
      rw [hkn, hln] at HSM ⊢
      obtain ⟨w14, hw14⟩ : ∃ w14, w14 = w13.alloc (.cells #[.slice B1 kn k1, .slice D1 ln k2, .int .i64 wv] 27) := ⟨_, rfl⟩
      have HB14' : Hid (Below w13.heap.size w13 w14) := Lib.hid (hw14 ▸ alloc_below _ _)
      have HB14 := Lib.hid (eb_of HB13.out HB14'.out (Nat.le_refl _))
      have HROW : Hid (Row3 w14 w13.heap.size 27 (.slice B1 kn k1) (.slice D1 ln k2) (.int .i64 wv)) := Lib.hid (hw14 ▸ heap_alloc_new w13 _)
      obtain ⟨q0, q1, q2, q3, q4, q5⟩ := HQ.out w14 HB14.out
      have c0 := q0.c0
      have c1 := q0.c1
      have c2 := q0.c2
      rw [hw14] at c0 c1 c2 q3 q4
      have JX := Lib.hid (HR2.out _ _ 0 0 w14 q1 q2)
      clear q0 q1 q2 q5
      go_wp2_with fail
      rw [← hw14]
      clear hw14 c0 c1 c2 q3 q4
      refine JX.out.mono ?_
      rintro e w15 ⟨B2, D2, k3, k4, rfl, hks, his, hb⟩
      have HK2 := Lib.hid hks
      have HI2 := Lib.hid his
      have HB15 := Lib.hid (eb_of HB14.out hb (Nat.le_refl _))
      have HB15' := Lib.hid (eb_of HB14'.out hb (Nat.le_refl _))
      have HROW2 := Lib.hid (HROW.out.below hb (Nat.le_refl _))
      clear hb hks his JX HROW
      rw [hkn, hln]
      clear hkn hln
      obtain ⟨w16, hw16⟩ : ∃ w16, w16 = w15.alloc (.cells #[.slice B2 kn k3, .slice D2 ln k4, .int .i64 wv] 27) := ⟨_, rfl⟩
      have HB16' : Hid (Below w15.heap.size w15 w16) := Lib.hid (hw16 ▸ alloc_below _ _)
      have HROW3 := Lib.hid (HROW2.out.below HB16'.out (Nat.le_refl _))
      have h16 := eb_of HB15'.out HB16'.out (Nat.le_refl _)
      have JX := Lib.hid (HSM.out B1 B2 D1 D2 k1 k3 k2 k4 w16 (HK1.out.below h16 (Nat.le_refl _)) (HK2.out.below HB16'.out (Nat.le_refl _)) (HI1.out.below h16 (Nat.le_refl _)) (HI2.out.below HB16'.out (Nat.le_refl _)))
      have HBW := Lib.hid ((HQ.out w16 (eb_of HB15.out HB16'.out (Nat.le_refl _))).2.2.2.2.2)
      have d0 := HROW3.out.c0
      have d1 := HROW3.out.c1
      have d2 := HROW3.out.c2
      rw [hw16] at d0 d1 d2
      clear h16 HROW2 HROW3
      go_wp2_with fail
      rw [← hw16]
      clear hw16 d0 d1 d2
      refine JX.out.mono ?_
      rintro e w17 ⟨rfl, hb⟩
      have HB17 := Lib.hid (eb_of HBW.out hb (Nat.le_refl _))
      clear hb
      go_wp2_with fail
      refine (JW.out _).mono ?_
      rintro e w18 ⟨rfl, hb⟩
      have HB18 := Lib.hid (eb_of HB17.out hb (Nat.le_refl _))
      clear hb
      go_wp2_with fail
      go_ret
      exact ⟨rfl, HB18.out⟩
  obtain ⟨h1, h32, hall⟩ := keysE_ok hk
  have JB := Lib.hid (fun w' (hb : Below w.heap.size w w') => rbuild_ok A c ks w' (hf.below hb (Nat.le_refl _)) hk)
  have hb1 := loL_len ks
  clear hf hs hfar hk hall
  obtain ⟨n, hnn⟩ : ∃ n, ks.length = n := ⟨_, rfl⟩
  obtain ⟨LL, hLL⟩ : ∃ LL, loL ks = LL := ⟨_, rfl⟩
  obtain ⟨ww, hww⟩ : ∃ ww, wnr ks = ww := ⟨_, rfl⟩
  rw [hnn, hLL, hww] at JB
  rw [hLL, hnn] at hb1
  rw [hnn] at J h1 h32 hn40 hn ⊢
  have HLN := Lib.hid hb1
  have HNN := Lib.hid hnn
  have hcs : x0 < 0 ∨ (¬ x0 < 0 ∧ ¬ x0 < (n : Int)) ∨ (∃ i : Nat, x0 = (i : Int) ∧ i < n) := by
    by_cases g : x0 < 0
    · exact .inl g
    · by_cases g2 : x0 < (n : Int)
      · exact .inr (.inr ⟨x0.toNat, by omega, by omega⟩)
      · exact .inr (.inl ⟨g, g2⟩)
  clear hLL hww
  rcases hcs with hx | ⟨hx, hx2⟩ | ⟨i, rfl, hi⟩
  · obtain ⟨p, a, er, W1, W2⟩ := both_winner ks LL (ww : Int) (by rw [hnn]; omega) (by rw [hb1]; omega)
    obtain ⟨KV, LV, wv, gg, er2, hk1, hk2, R1, R2⟩ := both_replace ks LL (ww : Int) k kd (by rw [hnn]; omega) (by rw [hb1]; omega)
    have HW1 := Lib.hid W1
    have HW2 := Lib.hid W2
    have HR1 := Lib.hid R1
    have HR2 := Lib.hid R2
    have HSM := Lib.hid (fun (B B' D D' : Option Addr) (e e' d d' : Nat) (w' : World) (h1 : KsAt w' B KV) (h2 : KsAt w' B' KV) (h3 : IsAt w' D LV) (h4 : IsAt w' D' LV) => same_eq B B' D D' e e' d d' KV LV wv w' h1 h2 h3 h4 hk1 hk2)
    clear W1 W2 R1 R2 hk1 hk2
    rw [hnn, hb1] at HW1 HW2 HR1 HR2
    clear hnn hb1
    go_enter Try.func4, Try.ntmps4
    go_wp2_with fail
    refine J.out.mono ?_
    rintro e w1 ⟨rfl, hb⟩
    obtain ⟨y0, y1, y2, y3, y4⟩ := HX.out _ hb
    have HB1 := Lib.hid y4
    have HB1' := Lib.hid hb
    clear hb y4 J
    go_wp2_with fail
    refine (JB.out _ HB1.out).mono ?_
    rintro e w2 ⟨kb, lb, cp, cl, rfl, ht⟩
    have HT := Lib.hid ht
    have HB2' := Lib.hid (eb_of HB1'.out ht.below (Nat.le_refl _))
    clear ht JB y0 y1 y2 y3
    obtain ⟨w3, hw3⟩ : ∃ w3, w3 = w2.alloc (.cells #[.slice (some ⟨kb, 0, none⟩) n cp, .slice (some ⟨lb, 0, none⟩) n cl, .int .i64 (ww : Int)] 27) := ⟨_, rfl⟩
    have HA3 : Hid (Below w2.heap.size w2 w3) := Lib.hid (hw3 ▸ alloc_below _ _)
    have HB3' : Hid (Below ((w.alloc (.cells #[.string k, .bool kd] 39)).alloc (.cells #[.int .i64 x0, .int .i64 x1] 40)).heap.size ((w.alloc (.cells #[.string k, .bool kd] 39)).alloc (.cells #[.int .i64 x0, .int .i64 x1] 40)) w3) := Lib.hid (eb_of HB2'.out HA3.out (Nat.le_refl _))
    have HRW : Hid (Row3 w3 w2.heap.size 27 (.slice (some ⟨kb, 0, none⟩) n cp) (.slice (some ⟨lb, 0, none⟩) n cl) (.int .i64 (ww : Int))) := Lib.hid (hw3 ▸ heap_alloc_new w2 _)
    have HK3 := Lib.hid (HT.out.keys.below HA3.out HT.out.keys.lt)
    have HL3 := Lib.hid (HT.out.lose.below HA3.out HT.out.lose.lt)
    have HNE : Hid (kb ≠ lb ∧ w.heap.size ≤ lb ∧ lb < w2.heap.size ∧ w1.heap.size ≤ lb) := Lib.hid ⟨HT.out.ne, (by have h1 := HB1.out.size; have h2 := HT.out.new.2; omega), HT.out.lose.lt, HT.out.new.2⟩
    have HQ : Hid (∀ w', Below w3.heap.size w3 w' → Row3 w' w2.heap.size 27 (.slice (some ⟨kb, 0, none⟩) n cp) (.slice (some ⟨lb, 0, none⟩) n cl) (.int .i64 (ww : Int)) ∧ KsAt w' (some ⟨kb, 0, none⟩) ks ∧ IsAt w' (some ⟨lb, 0, none⟩) LL ∧ w'.cell? ⟨w.heap.size, 0, none⟩ = some (.string k) ∧ w'.cell? ⟨w.heap.size, 1, none⟩ = some (.bool kd) ∧ Below w.heap.size w w') := Lib.hid (fun w' h => by
      obtain ⟨y0, y1, y2, y3, y4⟩ := HX.out w' (eb_of HB3'.out h (Nat.le_refl _))
      exact ⟨HRW.out.below h (Nat.le_refl _), (HK3.out.below h HK3.out.lt).ks, (HL3.out.below h HL3.out.lt).is, y0, y1, y4⟩)
    obtain ⟨y0, y1, y2, y3, y4⟩ := HX.out w3 HB3'.out
    rw [hw3] at y2 y3
    clear y0 y1 y4
    obtain ⟨q0, q1, q2, q3, q4, q5⟩ := HQ.out w3 (Below.refl _ _)
    have c0 := q0.c0
    have c1 := q0.c1
    have c2 := q0.c2
    have JX := Lib.hid (HW1.out _ _ cp cl w3 q1 q2)
    clear q0 q1 q2 q3 q4 q5
    rw [hw3] at c0 c1 c2
    go_wp2_with fail
    rw [← hw3]
    clear hw3 c0 c1 c2
    refine JX.out.mono ?_
    rintro e w11 ⟨rfl, hb⟩
    have HB11 := Lib.hid hb
    clear hb JX
    obtain ⟨q0, q1, q2, q3, q4, q5⟩ := HQ.out w11 HB11.out
    have c0 := q0.c0
    have c1 := q0.c1
    have c2 := q0.c2
    have JX := Lib.hid (HW2.out _ _ cp cl w11 q1 q2)
    clear q0 q1 q2 q3 q4 q5
    go_wp2_with fail
    refine JX.out.mono ?_
    rintro e w12 ⟨rfl, hb⟩
    have HB12 := Lib.hid (eb_of HB11.out hb (Nat.le_refl _))
    clear hb JX c0 c1 c2
    obtain ⟨q0, q1, q2, q3, q4, q5⟩ := HQ.out w12 HB12.out
    have c0 := q0.c0
    have c1 := q0.c1
    have c2 := q0.c2
    have JX := Lib.hid (HR1.out _ _ cp cl w12 q1 q2)
    clear q0 q1 q2 q5
    go_wp2_with fail
    refine JX.out.mono ?_
    rintro e w13 ⟨B1, D1, k1, k2, rfl, hks, his, hb⟩
    have HK1 := Lib.hid hks
    have HI1 := Lib.hid his
    have HB13 := Lib.hid (eb_of HB12.out hb (Nat.le_refl _))
    clear hb hks his JX c0 c1 c2 q3 q4
    obtain ⟨kn, hkn⟩ : ∃ kn, KV.length = kn := ⟨_, rfl⟩
    obtain ⟨ln, hln⟩ : ∃ ln, LV.length = ln := ⟨_, rfl⟩
    rw [hkn, hln] at HSM ⊢
    obtain ⟨w14, hw14⟩ : ∃ w14, w14 = w13.alloc (.cells #[.slice B1 kn k1, .slice D1 ln k2, .int .i64 wv] 27) := ⟨_, rfl⟩
    have HB14' : Hid (Below w13.heap.size w13 w14) := Lib.hid (hw14 ▸ alloc_below _ _)
    have HB14 := Lib.hid (eb_of HB13.out HB14'.out (Nat.le_refl _))
    have HROW : Hid (Row3 w14 w13.heap.size 27 (.slice B1 kn k1) (.slice D1 ln k2) (.int .i64 wv)) := Lib.hid (hw14 ▸ heap_alloc_new w13 _)
    obtain ⟨q0, q1, q2, q3, q4, q5⟩ := HQ.out w14 HB14.out
    have c0 := q0.c0
    have c1 := q0.c1
    have c2 := q0.c2
    rw [hw14] at c0 c1 c2 q3 q4
    have JX := Lib.hid (HR2.out _ _ cp cl w14 q1 q2)
    clear q0 q1 q2 q5
    go_wp2_with fail
    rw [← hw14]
    clear hw14 c0 c1 c2 q3 q4
    refine JX.out.mono ?_
    rintro e w15 ⟨B2, D2, k3, k4, rfl, hks, his, hb⟩
    have HK2 := Lib.hid hks
    have HI2 := Lib.hid his
    have HB15 := Lib.hid (eb_of HB14.out hb (Nat.le_refl _))
    have HB15' := Lib.hid (eb_of HB14'.out hb (Nat.le_refl _))
    have HROW2 := Lib.hid (HROW.out.below hb (Nat.le_refl _))
    clear hb hks his JX HROW
    rw [hkn, hln]
    clear hkn hln
    obtain ⟨w16, hw16⟩ : ∃ w16, w16 = w15.alloc (.cells #[.slice B2 kn k3, .slice D2 ln k4, .int .i64 wv] 27) := ⟨_, rfl⟩
    have HB16' : Hid (Below w15.heap.size w15 w16) := Lib.hid (hw16 ▸ alloc_below _ _)
    have HROW3 := Lib.hid (HROW2.out.below HB16'.out (Nat.le_refl _))
    have h16 := eb_of HB15'.out HB16'.out (Nat.le_refl _)
    have JX := Lib.hid (HSM.out B1 B2 D1 D2 k1 k3 k2 k4 w16 (HK1.out.below h16 (Nat.le_refl _)) (HK2.out.below HB16'.out (Nat.le_refl _)) (HI1.out.below h16 (Nat.le_refl _)) (HI2.out.below HB16'.out (Nat.le_refl _)))
    have HBW := Lib.hid ((HQ.out w16 (eb_of HB15.out HB16'.out (Nat.le_refl _))).2.2.2.2.2)
    have d0 := HROW3.out.c0
    have d1 := HROW3.out.c1
    have d2 := HROW3.out.c2
    rw [hw16] at d0 d1 d2
    clear h16 HROW2 HROW3
    go_wp2_with fail
    rw [← hw16]
    clear hw16 d0 d1 d2
    refine JX.out.mono ?_
    rintro e w17 ⟨rfl, hb⟩
    have HB17 := Lib.hid (eb_of HBW.out hb (Nat.le_refl _))
    clear hb
    go_wp2_with fail
    refine (JW.out _).mono ?_
    rintro e w18 ⟨rfl, hb⟩
    have HB18 := Lib.hid (eb_of HB17.out hb (Nat.le_refl _))
    clear hb
    go_wp2_with fail
    go_ret
    exact ⟨rfl, HB18.out⟩
  · obtain ⟨p, a, er, W1, W2⟩ := both_winner ks LL (ww : Int) (by rw [hnn]; omega) (by rw [hb1]; omega)
    obtain ⟨KV, LV, wv, gg, er2, hk1, hk2, R1, R2⟩ := both_replace ks LL (ww : Int) k kd (by rw [hnn]; omega) (by rw [hb1]; omega)
    have HW1 := Lib.hid W1
    have HW2 := Lib.hid W2
    have HR1 := Lib.hid R1
    have HR2 := Lib.hid R2
    have HSM := Lib.hid (fun (B B' D D' : Option Addr) (e e' d d' : Nat) (w' : World) (h1 : KsAt w' B KV) (h2 : KsAt w' B' KV) (h3 : IsAt w' D LV) (h4 : IsAt w' D' LV) => same_eq B B' D D' e e' d d' KV LV wv w' h1 h2 h3 h4 hk1 hk2)
    clear W1 W2 R1 R2 hk1 hk2
    rw [hnn, hb1] at HW1 HW2 HR1 HR2
    clear hnn hb1
    go_enter Try.func4, Try.ntmps4
    go_wp2_with fail
    refine J.out.mono ?_
    rintro e w1 ⟨rfl, hb⟩
    obtain ⟨y0, y1, y2, y3, y4⟩ := HX.out _ hb
    have HB1 := Lib.hid y4
    have HB1' := Lib.hid hb
    clear hb y4 J
    go_wp2_with fail
    refine (JB.out _ HB1.out).mono ?_
    rintro e w2 ⟨kb, lb, cp, cl, rfl, ht⟩
    have HT := Lib.hid ht
    have HB2' := Lib.hid (eb_of HB1'.out ht.below (Nat.le_refl _))
    clear ht JB y0 y1 y2 y3
    obtain ⟨w3, hw3⟩ : ∃ w3, w3 = w2.alloc (.cells #[.slice (some ⟨kb, 0, none⟩) n cp, .slice (some ⟨lb, 0, none⟩) n cl, .int .i64 (ww : Int)] 27) := ⟨_, rfl⟩
    have HA3 : Hid (Below w2.heap.size w2 w3) := Lib.hid (hw3 ▸ alloc_below _ _)
    have HB3' : Hid (Below ((w.alloc (.cells #[.string k, .bool kd] 39)).alloc (.cells #[.int .i64 x0, .int .i64 x1] 40)).heap.size ((w.alloc (.cells #[.string k, .bool kd] 39)).alloc (.cells #[.int .i64 x0, .int .i64 x1] 40)) w3) := Lib.hid (eb_of HB2'.out HA3.out (Nat.le_refl _))
    have HRW : Hid (Row3 w3 w2.heap.size 27 (.slice (some ⟨kb, 0, none⟩) n cp) (.slice (some ⟨lb, 0, none⟩) n cl) (.int .i64 (ww : Int))) := Lib.hid (hw3 ▸ heap_alloc_new w2 _)
    have HK3 := Lib.hid (HT.out.keys.below HA3.out HT.out.keys.lt)
    have HL3 := Lib.hid (HT.out.lose.below HA3.out HT.out.lose.lt)
    have HNE : Hid (kb ≠ lb ∧ w.heap.size ≤ lb ∧ lb < w2.heap.size ∧ w1.heap.size ≤ lb) := Lib.hid ⟨HT.out.ne, (by have h1 := HB1.out.size; have h2 := HT.out.new.2; omega), HT.out.lose.lt, HT.out.new.2⟩
    have HQ : Hid (∀ w', Below w3.heap.size w3 w' → Row3 w' w2.heap.size 27 (.slice (some ⟨kb, 0, none⟩) n cp) (.slice (some ⟨lb, 0, none⟩) n cl) (.int .i64 (ww : Int)) ∧ KsAt w' (some ⟨kb, 0, none⟩) ks ∧ IsAt w' (some ⟨lb, 0, none⟩) LL ∧ w'.cell? ⟨w.heap.size, 0, none⟩ = some (.string k) ∧ w'.cell? ⟨w.heap.size, 1, none⟩ = some (.bool kd) ∧ Below w.heap.size w w') := Lib.hid (fun w' h => by
      obtain ⟨y0, y1, y2, y3, y4⟩ := HX.out w' (eb_of HB3'.out h (Nat.le_refl _))
      exact ⟨HRW.out.below h (Nat.le_refl _), (HK3.out.below h HK3.out.lt).ks, (HL3.out.below h HL3.out.lt).is, y0, y1, y4⟩)
    obtain ⟨y0, y1, y2, y3, y4⟩ := HX.out w3 HB3'.out
    rw [hw3] at y2 y3
    clear y0 y1 y4
    obtain ⟨q0, q1, q2, q3, q4, q5⟩ := HQ.out w3 (Below.refl _ _)
    have c0 := q0.c0
    have c1 := q0.c1
    have c2 := q0.c2
    have JX := Lib.hid (HW1.out _ _ cp cl w3 q1 q2)
    clear q0 q1 q2 q3 q4 q5
    rw [hw3] at c0 c1 c2
    go_wp2_with fail
    rw [← hw3]
    clear hw3 c0 c1 c2
    refine JX.out.mono ?_
    rintro e w11 ⟨rfl, hb⟩
    have HB11 := Lib.hid hb
    clear hb JX
    obtain ⟨q0, q1, q2, q3, q4, q5⟩ := HQ.out w11 HB11.out
    have c0 := q0.c0
    have c1 := q0.c1
    have c2 := q0.c2
    have JX := Lib.hid (HW2.out _ _ cp cl w11 q1 q2)
    clear q0 q1 q2 q3 q4 q5
    go_wp2_with fail
    refine JX.out.mono ?_
    rintro e w12 ⟨rfl, hb⟩
    have HB12 := Lib.hid (eb_of HB11.out hb (Nat.le_refl _))
    clear hb JX c0 c1 c2
    obtain ⟨q0, q1, q2, q3, q4, q5⟩ := HQ.out w12 HB12.out
    have c0 := q0.c0
    have c1 := q0.c1
    have c2 := q0.c2
    have JX := Lib.hid (HR1.out _ _ cp cl w12 q1 q2)
    clear q0 q1 q2 q5
    go_wp2_with fail
    refine JX.out.mono ?_
    rintro e w13 ⟨B1, D1, k1, k2, rfl, hks, his, hb⟩
    have HK1 := Lib.hid hks
    have HI1 := Lib.hid his
    have HB13 := Lib.hid (eb_of HB12.out hb (Nat.le_refl _))
    clear hb hks his JX c0 c1 c2 q3 q4
    obtain ⟨kn, hkn⟩ : ∃ kn, KV.length = kn := ⟨_, rfl⟩
    obtain ⟨ln, hln⟩ : ∃ ln, LV.length = ln := ⟨_, rfl⟩
    rw [hkn, hln] at HSM ⊢
    obtain ⟨w14, hw14⟩ : ∃ w14, w14 = w13.alloc (.cells #[.slice B1 kn k1, .slice D1 ln k2, .int .i64 wv] 27) := ⟨_, rfl⟩
    have HB14' : Hid (Below w13.heap.size w13 w14) := Lib.hid (hw14 ▸ alloc_below _ _)
    have HB14 := Lib.hid (eb_of HB13.out HB14'.out (Nat.le_refl _))
    have HROW : Hid (Row3 w14 w13.heap.size 27 (.slice B1 kn k1) (.slice D1 ln k2) (.int .i64 wv)) := Lib.hid (hw14 ▸ heap_alloc_new w13 _)
    obtain ⟨q0, q1, q2, q3, q4, q5⟩ := HQ.out w14 HB14.out
    have c0 := q0.c0
    have c1 := q0.c1
    have c2 := q0.c2
    rw [hw14] at c0 c1 c2 q3 q4
    have JX := Lib.hid (HR2.out _ _ cp cl w14 q1 q2)
    clear q0 q1 q2 q5
    go_wp2_with fail
    rw [← hw14]
    clear hw14 c0 c1 c2 q3 q4
    refine JX.out.mono ?_
    rintro e w15 ⟨B2, D2, k3, k4, rfl, hks, his, hb⟩
    have HK2 := Lib.hid hks
    have HI2 := Lib.hid his
    have HB15 := Lib.hid (eb_of HB14.out hb (Nat.le_refl _))
    have HB15' := Lib.hid (eb_of HB14'.out hb (Nat.le_refl _))
    have HROW2 := Lib.hid (HROW.out.below hb (Nat.le_refl _))
    clear hb hks his JX HROW
    rw [hkn, hln]
    clear hkn hln
    obtain ⟨w16, hw16⟩ : ∃ w16, w16 = w15.alloc (.cells #[.slice B2 kn k3, .slice D2 ln k4, .int .i64 wv] 27) := ⟨_, rfl⟩
    have HB16' : Hid (Below w15.heap.size w15 w16) := Lib.hid (hw16 ▸ alloc_below _ _)
    have HROW3 := Lib.hid (HROW2.out.below HB16'.out (Nat.le_refl _))
    have h16 := eb_of HB15'.out HB16'.out (Nat.le_refl _)
    have JX := Lib.hid (HSM.out B1 B2 D1 D2 k1 k3 k2 k4 w16 (HK1.out.below h16 (Nat.le_refl _)) (HK2.out.below HB16'.out (Nat.le_refl _)) (HI1.out.below h16 (Nat.le_refl _)) (HI2.out.below HB16'.out (Nat.le_refl _)))
    have HBW := Lib.hid ((HQ.out w16 (eb_of HB15.out HB16'.out (Nat.le_refl _))).2.2.2.2.2)
    have d0 := HROW3.out.c0
    have d1 := HROW3.out.c1
    have d2 := HROW3.out.c2
    rw [hw16] at d0 d1 d2
    clear h16 HROW2 HROW3
    go_wp2_with fail
    rw [← hw16]
    clear hw16 d0 d1 d2
    refine JX.out.mono ?_
    rintro e w17 ⟨rfl, hb⟩
    have HB17 := Lib.hid (eb_of HBW.out hb (Nat.le_refl _))
    clear hb
    go_wp2_with fail
    refine (JW.out _).mono ?_
    rintro e w18 ⟨rfl, hb⟩
    have HB18 := Lib.hid (eb_of HB17.out hb (Nat.le_refl _))
    clear hb
    go_wp2_with fail
    go_ret
    exact ⟨rfl, HB18.out⟩
  · obtain ⟨p, a, er, W1, W2⟩ := both_winner ks (LL.set i x1) (ww : Int) (by rw [hnn]; omega) (by rw [List.length_set, hb1]; omega)
    obtain ⟨KV, LV, wv, gg, er2, hk1, hk2, R1, R2⟩ := both_replace ks (LL.set i x1) (ww : Int) k kd (by rw [hnn]; omega) (by rw [List.length_set, hb1]; omega)
    have HW1 := Lib.hid W1
    have HW2 := Lib.hid W2
    have HR1 := Lib.hid R1
    have HR2 := Lib.hid R2
    have HSM := Lib.hid (fun (B B' D D' : Option Addr) (e e' d d' : Nat) (w' : World) (h1 : KsAt w' B KV) (h2 : KsAt w' B' KV) (h3 : IsAt w' D LV) (h4 : IsAt w' D' LV) => same_eq B B' D D' e e' d d' KV LV wv w' h1 h2 h3 h4 hk1 hk2)
    clear W1 W2 R1 R2 hk1 hk2
    rw [hnn, List.length_set, hb1] at HW1 HW2 HR1 HR2
    clear hnn hb1
    have hx2 : (i : Int) < (n : Int) := by omega
    have hx3 : ¬ (i : Int) < 0 := by omega
    go_enter Try.func4, Try.ntmps4
    go_wp2_with fail
    refine J.out.mono ?_
    rintro e w1 ⟨rfl, hb⟩
    obtain ⟨y0, y1, y2, y3, y4⟩ := HX.out _ hb
    have HB1 := Lib.hid y4
    have HB1' := Lib.hid hb
    clear hb y4 J
    go_wp2_with fail
    refine (JB.out _ HB1.out).mono ?_
    rintro e w2 ⟨kb, lb, cp, cl, rfl, ht⟩
    have HT := Lib.hid ht
    have HB2' := Lib.hid (eb_of HB1'.out ht.below (Nat.le_refl _))
    clear ht JB y0 y1 y2 y3
    obtain ⟨w3, hw3⟩ : ∃ w3, w3 = w2.alloc (.cells #[.slice (some ⟨kb, 0, none⟩) n cp, .slice (some ⟨lb, 0, none⟩) n cl, .int .i64 (ww : Int)] 27) := ⟨_, rfl⟩
    have HA3 : Hid (Below w2.heap.size w2 w3) := Lib.hid (hw3 ▸ alloc_below _ _)
    have HB3' : Hid (Below ((w.alloc (.cells #[.string k, .bool kd] 39)).alloc (.cells #[.int .i64 (i : Int), .int .i64 x1] 40)).heap.size ((w.alloc (.cells #[.string k, .bool kd] 39)).alloc (.cells #[.int .i64 (i : Int), .int .i64 x1] 40)) w3) := Lib.hid (eb_of HB2'.out HA3.out (Nat.le_refl _))
    have HRW : Hid (Row3 w3 w2.heap.size 27 (.slice (some ⟨kb, 0, none⟩) n cp) (.slice (some ⟨lb, 0, none⟩) n cl) (.int .i64 (ww : Int))) := Lib.hid (hw3 ▸ heap_alloc_new w2 _)
    have HK3 := Lib.hid (HT.out.keys.below HA3.out HT.out.keys.lt)
    have HL3 := Lib.hid (HT.out.lose.below HA3.out HT.out.lose.lt)
    have HNE : Hid (kb ≠ lb ∧ w.heap.size ≤ lb ∧ lb < w2.heap.size ∧ w1.heap.size ≤ lb) := Lib.hid ⟨HT.out.ne, (by have h1 := HB1.out.size; have h2 := HT.out.new.2; omega), HT.out.lose.lt, HT.out.new.2⟩
    obtain ⟨z1, z2⟩ := HL3.out.int (i := i) (by rw [HLN.out]; exact hi)
    obtain ⟨w4, hw4⟩ : ∃ w4, w4 = w3.setCell ⟨lb, i, none⟩ (.int .i64 x1) := ⟨_, rfl⟩
    have c4 : Chg (fun k => k = lb) w3 w4 := hw4 ▸ chg_set lb i _
    have HL4 : Hid (CR w4 lb (intsV (LL.set i x1))) := Lib.hid (hw4 ▸ HL3.out.put (by rw [HLN.out]; exact hi) x1)
    have HK4 := Lib.hid (HK3.out.chg c4 HNE.out.1)
    have hl2 := HA3.out.size
    have HR4 := Lib.hid (HRW.out.chg c4 (by have := HNE.out; omega))
    have HC4 := Lib.hid c4
    have HQ : Hid (∀ w', Below w4.heap.size w4 w' → Row3 w' w2.heap.size 27 (.slice (some ⟨kb, 0, none⟩) n cp) (.slice (some ⟨lb, 0, none⟩) n cl) (.int .i64 (ww : Int)) ∧ KsAt w' (some ⟨kb, 0, none⟩) ks ∧ IsAt w' (some ⟨lb, 0, none⟩) (LL.set i x1) ∧ w'.cell? ⟨w.heap.size, 0, none⟩ = some (.string k) ∧ w'.cell? ⟨w.heap.size, 1, none⟩ = some (.bool kd) ∧ Below w.heap.size w w') := Lib.hid (fun w' h => by
      obtain ⟨y0, y1, y2, y3, y4⟩ := HX.out w3 HB3'.out
      have hne : w.heap.size ≠ lb := by have h1 := HNE.out; have h2 := HB1'.out.size; simp at h2; omega
      have y0 := HC4.out.cell y0 hne
      have y1 := HC4.out.cell y1 hne
      exact ⟨HR4.out.below h (Nat.le_refl _), (HK4.out.below h HK4.out.lt).ks, (HL4.out.below h HL4.out.lt).is, (h.cell (p := ⟨w.heap.size, 0, none⟩) (cell_lt y0)).trans y0, (h.cell (p := ⟨w.heap.size, 1, none⟩) (cell_lt y1)).trans y1, (y4.trans (HC4.out.below (fun k hk => by have := HNE.out; omega) y4.size)).trans (h.mono (by have := (y4.trans (HC4.out.below (B := w.heap.size) (fun k hk => by have := HNE.out; omega) y4.size)).size; omega))⟩)
    obtain ⟨y0, y1, y2, y3, y4⟩ := HX.out w3 HB3'.out
    have t1 := HRW.out.c1
    clear y0 y1 y4 c4 hl2
    go_upto_region 4 with fail
    rw [← hw3]
    clear hw3
    go_upto_region 6 with fail
    rw [← hw4]
    clear hw4 t1 y2 y3 z1 z2
    obtain ⟨q0, q1, q2, q3, q4, q5⟩ := HQ.out w4 (Below.refl _ _)
    have c0 := q0.c0
    have c1 := q0.c1
    have c2 := q0.c2
    have JX := Lib.hid (HW1.out _ _ cp cl w4 q1 q2)
    clear q0 q1 q2 q3 q4 q5
    go_wp2_with fail
    refine JX.out.mono ?_
    rintro e w11 ⟨rfl, hb⟩
    have HB11 := Lib.hid hb
    clear hb JX c0 c1 c2
    obtain ⟨q0, q1, q2, q3, q4, q5⟩ := HQ.out w11 HB11.out
    have c0 := q0.c0
    have c1 := q0.c1
    have c2 := q0.c2
    have JX := Lib.hid (HW2.out _ _ cp cl w11 q1 q2)
    clear q0 q1 q2 q3 q4 q5
    go_wp2_with fail
    refine JX.out.mono ?_
    rintro e w12 ⟨rfl, hb⟩
    have HB12 := Lib.hid (eb_of HB11.out hb (Nat.le_refl _))
    clear hb JX c0 c1 c2
    obtain ⟨q0, q1, q2, q3, q4, q5⟩ := HQ.out w12 HB12.out
    have c0 := q0.c0
    have c1 := q0.c1
    have c2 := q0.c2
    have JX := Lib.hid (HR1.out _ _ cp cl w12 q1 q2)
    clear q0 q1 q2 q5
    go_wp2_with fail
    refine JX.out.mono ?_
    rintro e w13 ⟨B1, D1, k1, k2, rfl, hks, his, hb⟩
    have HK1 := Lib.hid hks
    have HI1 := Lib.hid his
    have HB13 := Lib.hid (eb_of HB12.out hb (Nat.le_refl _))
    clear hb hks his JX c0 c1 c2 q3 q4
    obtain ⟨kn, hkn⟩ : ∃ kn, KV.length = kn := ⟨_, rfl⟩
    obtain ⟨ln, hln⟩ : ∃ ln, LV.length = ln := ⟨_, rfl⟩
    rw [hkn, hln] at HSM ⊢
    obtain ⟨w14, hw14⟩ : ∃ w14, w14 = w13.alloc (.cells #[.slice B1 kn k1, .slice D1 ln k2, .int .i64 wv] 27) := ⟨_, rfl⟩
    have HB14' : Hid (Below w13.heap.size w13 w14) := Lib.hid (hw14 ▸ alloc_below _ _)
    have HB14 := Lib.hid (eb_of HB13.out HB14'.out (Nat.le_refl _))
    have HROW : Hid (Row3 w14 w13.heap.size 27 (.slice B1 kn k1) (.slice D1 ln k2) (.int .i64 wv)) := Lib.hid (hw14 ▸ heap_alloc_new w13 _)
    obtain ⟨q0, q1, q2, q3, q4, q5⟩ := HQ.out w14 HB14.out
    have c0 := q0.c0
    have c1 := q0.c1
    have c2 := q0.c2
    rw [hw14] at c0 c1 c2 q3 q4
    have JX := Lib.hid (HR2.out _ _ cp cl w14 q1 q2)
    clear q0 q1 q2 q5
    go_wp2_with fail
    rw [← hw14]
    clear hw14 c0 c1 c2 q3 q4
    refine JX.out.mono ?_
    rintro e w15 ⟨B2, D2, k3, k4, rfl, hks, his, hb⟩
    have HK2 := Lib.hid hks
    have HI2 := Lib.hid his
    have HB15 := Lib.hid (eb_of HB14.out hb (Nat.le_refl _))
    have HB15' := Lib.hid (eb_of HB14'.out hb (Nat.le_refl _))
    have HROW2 := Lib.hid (HROW.out.below hb (Nat.le_refl _))
    clear hb hks his JX HROW
    rw [hkn, hln]
    clear hkn hln
    obtain ⟨w16, hw16⟩ : ∃ w16, w16 = w15.alloc (.cells #[.slice B2 kn k3, .slice D2 ln k4, .int .i64 wv] 27) := ⟨_, rfl⟩
    have HB16' : Hid (Below w15.heap.size w15 w16) := Lib.hid (hw16 ▸ alloc_below _ _)
    have HROW3 := Lib.hid (HROW2.out.below HB16'.out (Nat.le_refl _))
    have h16 := eb_of HB15'.out HB16'.out (Nat.le_refl _)
    have JX := Lib.hid (HSM.out B1 B2 D1 D2 k1 k3 k2 k4 w16 (HK1.out.below h16 (Nat.le_refl _)) (HK2.out.below HB16'.out (Nat.le_refl _)) (HI1.out.below h16 (Nat.le_refl _)) (HI2.out.below HB16'.out (Nat.le_refl _)))
    have HBW := Lib.hid ((HQ.out w16 (eb_of HB15.out HB16'.out (Nat.le_refl _))).2.2.2.2.2)
    have d0 := HROW3.out.c0
    have d1 := HROW3.out.c1
    have d2 := HROW3.out.c2
    rw [hw16] at d0 d1 d2
    clear h16 HROW2 HROW3
    go_wp2_with fail
    rw [← hw16]
    clear hw16 d0 d1 d2
    refine JX.out.mono ?_
    rintro e w17 ⟨rfl, hb⟩
    have HB17 := Lib.hid (eb_of HBW.out hb (Nat.le_refl _))
    clear hb
    go_wp2_with fail
    refine (JW.out _).mono ?_
    rintro e w18 ⟨rfl, hb⟩
    have HB18 := Lib.hid (eb_of HB17.out hb (Nat.le_refl _))
    clear hb
    go_wp2_with fail
    go_ret
    exact ⟨rfl, HB18.out⟩
end Go.Proofs.Ythmipjlmmgdpmaa.KK
