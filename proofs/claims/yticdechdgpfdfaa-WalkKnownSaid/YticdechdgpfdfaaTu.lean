/-
  WalkTakes: the walk.
-/
import Derived.Test.YticdechdgpfdfaaTt
namespace Go.Proofs.Yticdechdgpfdfaa.KK
open Go.ChangeShapes Go.WideShapes Go.ChangeAt Go.RowKit Go.Proofs Go.Sort

theorem rTake9_any (id : Int) (A : Option Addr) (d : Nat) (xs : List El.En) (k c : Int) (w : World) (hf : EsAt w A xs) (hn : xs.length ≤ 4294967295) (hs : Sized xs) :
    Calls Try.prog 28 #[.agg #[.int .i64 id, .slice A xs.length d], .agg #[.int .i64 k], .int .i64 c] w (TakOut id xs k c w) := by
  by_cases h1 : curE id xs k = 0
  · obtain ⟨hr, m, hm, hml⟩ := curE_zero h1
    by_cases h2 : c < -5000
    · exact rTake_lo id A d xs k c w hf hn hs h1 h2
    by_cases h3 : 5000 < c
    · exact rTake_hi id A d xs k c w hf hn hs h1 h2 h3
    by_cases hc : c < 0
    · exact rTake_b id A d xs k c w hf hn hs m hm (by rw [← hm]; exact h1) h2 h3 hc
    · exact rTake_f id A d xs k c w hf hn hs m hm (by rw [← hm]; exact h1) h2 h3 hc
  · exact rTake_bad id A d xs k c w hf hn hs h1
set_option maxRecDepth 100000 in
set_option maxHeartbeats 4000000 in
theorem rSkip9_bad (id : Int) (B : Option Addr) (d : Nat) (xs : List El.En) (k : Int) (dead back : Bool) (w : World) (hf : EsAt w B xs) (hn : xs.length ≤ 4294967295) (hs : Sized xs) (h1 : curE id xs k ≠ 0) :
    Calls Try.prog 31 #[.agg #[.int .i64 id, .slice B xs.length d], .agg #[.int .i64 k], .bool dead, .bool back] w (GoOut id xs k back (fun x => x.2.2.1 == dead) w) := by
  obtain ⟨w1, hw1, r0, b0, r1, b2, hsz, hb⟩ := boxNx id B xs.length d k w
  have J := Lib.hid (fun w2 (h : Below w.heap.size w w2) => rCur_any id B d xs k w2 (hf.below h (Nat.le_refl _)) hn hs)
  have HL := Lib.hid (goE_no (back := back) (q := fun x => x.2.2.1 == dead) h1)
  obtain ⟨n1, n2⟩ := ne_b h1
  have HB := Lib.hid hb
  have HR1 := Lib.hid r1
  have HK2 := Lib.hid b2
  have x0 := r0.c0
  have x1 := r0.c1
  have x2 := b0.cell
  unfold GoOut
  clear hf hs r0 b0 r1 b2 hb hsz h1
  generalize goE id xs k back (fun x => x.2.2.1 == dead) = res at *
  generalize curE id xs k = r2 at *
  generalize xs.length = n at *
  go_enter Try.func31, Try.ntmps31
  go_wp2_with fail
  refine (J.out _ HB.out).mono ?_
  rintro e w2 ⟨rfl, hb⟩
  have r1 : Z4 _ _ _ := Row4.below HR1.out hb (Nat.le_refl _)
  have b2 := box_below HK2.out hb (Nat.le_refl _)
  have HO := Lib.hid (out2 r1 b2 (by omega) (.string ⟨#[]⟩) (.string ⟨#[]⟩) (.bool false) (.int .i64 0) (.int .i64 0))
  have HB2 := Lib.hid (eb_of HB.out hb (by first | exact Nat.le_refl _ | exact HB.out.size))
  have y0 := r1.c0
  have y1 := r1.c1
  have y2 := r1.c2
  have y3 := r1.c3
  have z0 := r1.fz 0
  have z1 := r1.fz 1
  have z2 := r1.fz 2
  have z3 := r1.fz 3
  have y4 := b2.cell
  have z4 := b2.frozen
  clear hb x0 x1 x2 r1 b2
  go_wp2_with fail
  obtain ⟨k1, k2, k3⟩ := HO.out
  have c0 := k1.c0
  have c1 := k1.c1
  have c2 := k1.c2
  have c3 := k1.c3
  have c4 := k2.cell
  refine bodyPost_ret (v := .tuple #[.agg #[.string ⟨#[]⟩, .string ⟨#[]⟩, .bool false, .int .i64 0], .agg #[.int .i64 0], .int .i64 r2]) (by simp [results, Try.f31, go_sem, c0, c1, c2, c3, c4]) rfl ?_
  exact ⟨by rw [HL.out]; rfl, k3 _ _ HB2.out (by omega) (by omega)⟩
theorem rSkip9_any (id : Int) (B : Option Addr) (d : Nat) (xs : List El.En) (k : Int) (dead back : Bool) (w : World) (hf : EsAt w B xs) (hn : xs.length ≤ 4294967295) (hs : Sized xs) :
    Calls Try.prog 31 #[.agg #[.int .i64 id, .slice B xs.length d], .agg #[.int .i64 k], .bool dead, .bool back] w (GoOut id xs k back (fun x => x.2.2.1 == dead) w) := by
  by_cases h1 : curE id xs k = 0
  · obtain ⟨hr, m, rfl, hml⟩ := curE_zero h1
    cases back with
    | false => exact rSkip9_f id B d xs m dead w hf hn hs h1
    | true => exact rSkip9_b id B d xs m dead w hf hn hs h1
  · exact rSkip9_bad id B d xs k dead back w hf hn hs h1
set_option maxRecDepth 100000 in
set_option maxHeartbeats 16000000 in
theorem Takes9_any (id : Int) (A : Option Addr) (c : Nat) (xs : List El.En) (k m : Int) (w : World) (hf : EsAt w A xs) (hn : xs.length ≤ 9223372036854775807) (hs : Sized xs) :
    Calls Try.prog 5 #[.agg #[.int .i64 id, .slice A xs.length c], .agg #[.int .i64 k], .int .i64 m] w fun e w' => e = .returned (.bool true) ∧ Below w.heap.size w w' := by
  have JF := Lib.hid (fun w1 (h : Below w.heap.size w w1) => far8_any id A c xs w1 (hf.below h (Nat.le_refl _)) hn hs)
  have JW := Lib.hid (fun w => awake9_any w)
  obtain ⟨w0, hw0, r0, b0, hsz, hb⟩ := boxUC id A xs.length c k w
  have HB := Lib.hid hb
  have RU := Lib.hid r0
  have RK := Lib.hid b0
  have x0 := r0.c0
  have x1 := r0.c1
  have x2 := b0.cell
  clear r0 b0 hsz hb
  cases hfar : farF xs with
  | true =>
    rw [hfar] at JF
    clear hfar hf hs
    generalize xs.length = n at *
    go_enter Try.func5, Try.ntmps5
    go_wp2_with fail
    clear x0 x1 x2
    refine (JF.out _ HB.out).mono ?_
    rintro e w1 ⟨rfl, hb⟩
    have HB1 := Lib.hid (eb_of HB.out hb (by first | exact Nat.le_refl _ | exact HB.out.size))
    have RU_1 := Lib.hid (Row2.below RU.out hb (Nat.le_refl _))
    have RK_1 := Lib.hid (box_below RK.out hb (Nat.le_refl _))
    clear RU RK
    clear hb
    have cU0 := RU_1.out.c0
    have cU1 := RU_1.out.c1
    have cK := RK_1.out.cell
    have fK := RK_1.out.frozen
    go_wp2_with fail
    clear cU0 cU1 cK fK
    refine (JW.out _).mono ?_
    rintro e w2 ⟨rfl, hb⟩
    have HB2 := Lib.hid (eb_of HB1.out hb (by first | exact Nat.le_refl _ | exact HB1.out.size))
    have RU_2 := Lib.hid (Row2.below RU_1.out hb (Nat.le_refl _))
    have RK_2 := Lib.hid (box_below RK_1.out hb (Nat.le_refl _))
    clear HB1 RU_1 RK_1
    clear hb
    go_wp2_with fail
    go_ret
    exact ⟨by first | rfl | (simp; done), HB2.out⟩
  | false =>
    have hl5 := far_len hfar
    have hn5 : xs.length ≤ 4294967295 := by omega
    rw [hfar] at JF
    have J1 := Lib.hid (fun w1 (h : Below w.heap.size w w1) => pTake9_any id A c xs k m w1 (hf.below h (Nat.le_refl _)) hn5 hs)
    have J2 := Lib.hid (fun w1 (h : Below w.heap.size w w1) => rTake9_any id A c xs k m w1 (hf.below h (Nat.le_refl _)) hn5 hs)
    have J3 := Lib.hid (fun (dead back : Bool) w1 (h : Below w.heap.size w w1) => pSkip9_any id A c xs k dead back w1 (hf.below h (Nat.le_refl _)) hn5 hs)
    have J4 := Lib.hid (fun (dead back : Bool) w1 (h : Below w.heap.size w w1) => rSkip9_any id A c xs k dead back w1 (hf.below h (Nat.le_refl _)) hn5 hs)
    have hLl : (takE id xs k m).1.length ≤ 5000 := by
      unfold takE
      split
      · simp
      · split
        · simp
        · simp only [List.length_map, List.length_take]
          omega
    unfold TakOut at J1 J2
    unfold GoOut at J3 J4
    generalize hG : (fun (dead back : Bool) => goE id xs k back (fun x => x.2.2.1 == dead)) = gg at *
    have J3 : Hid (∀ (dead back : Bool) w1 (h : Below w.heap.size w w1), Calls Try.prog 30 #[.agg #[.int .i64 id, .slice A xs.length c], .agg #[.int .i64 k], .bool dead, .bool back] w1 fun e w' => e = .returned (.tuple #[entV (gg dead back).1, .agg #[.int .i64 (gg dead back).2.1], .int .i64 (gg dead back).2.2]) ∧ Below w1.heap.size w1 w') := Lib.hid (fun dead back w1 h => by rw [← hG]; exact J3.out dead back w1 h)
    have J4 : Hid (∀ (dead back : Bool) w1 (h : Below w.heap.size w w1), Calls Try.prog 31 #[.agg #[.int .i64 id, .slice A xs.length c], .agg #[.int .i64 k], .bool dead, .bool back] w1 fun e w' => e = .returned (.tuple #[entV (gg dead back).1, .agg #[.int .i64 (gg dead back).2.1], .int .i64 (gg dead back).2.2]) ∧ Below w1.heap.size w1 w') := Lib.hid (fun dead back w1 h => by rw [← hG]; exact J4.out dead back w1 h)
    clear hfar hf hs hl5 hn5 hG
    generalize takE id xs k m = g1 at *
    obtain ⟨L, p1, e1⟩ := g1
    simp only at J1 J2 hLl
    obtain ⟨ln, hln⟩ : ∃ ln, L.length = ln := ⟨_, rfl⟩
    rw [hln] at J1 J2 hLl
    have HLN := Lib.hid hln
    clear hln
    generalize xs.length = n at *
    go_enter Try.func5, Try.ntmps5
    go_wp2_with fail
    clear x0 x1 x2
    refine (JF.out _ HB.out).mono ?_
    rintro e w1 ⟨rfl, hb⟩
    have HB1 := Lib.hid (eb_of HB.out hb (by first | exact Nat.le_refl _ | exact HB.out.size))
    have RU_1 := Lib.hid (Row2.below RU.out hb (Nat.le_refl _))
    have RK_1 := Lib.hid (box_below RK.out hb (Nat.le_refl _))
    clear RU RK
    clear hb
    have cU0 := RU_1.out.c0
    have cU1 := RU_1.out.c1
    have cK := RK_1.out.cell
    have fK := RK_1.out.frozen
    go_wp2_with fail
    clear cU0 cU1 cK fK
    refine (J1.out _ HB1.out).mono ?_
    rintro e w2 ⟨A1, d1, rfl, hes, _, _, hb⟩
    have HB2 := Lib.hid (eb_of HB1.out hb (by first | exact Nat.le_refl _ | exact HB1.out.size))
    have RU_2 := Lib.hid (Row2.below RU_1.out hb (Nat.le_refl _))
    have RK_2 := Lib.hid (box_below RK_1.out hb (Nat.le_refl _))
    clear HB1 RU_1 RK_1
    clear hb
    have KE1 := Lib.hid hes
    clear hes
    have LV1 : Hid (w.heap.size + 1 ≤ w2.heap.size) := Lib.hid (by have := RU_2.out.lt; (try simp only [World.size_alloc] at this); omega)
    have hb := alloc_below w2 (.cells #[.int .i64 p1] 26)
    have HB3 := Lib.hid (eb_of HB2.out hb (by first | exact Nat.le_refl _ | exact HB2.out.size))
    have RU_3 := Lib.hid (Row2.below RU_2.out hb (Nat.le_refl _))
    have RK_3 := Lib.hid (box_below RK_2.out hb (Nat.le_refl _))
    have K1_3 := Lib.hid (EsAt.below KE1.out hb (Nat.le_refl _))
    clear HB2 RU_2 RK_2 KE1
    clear hb
    have RV1_3 : Hid (Boxed (w2.alloc (.cells #[.int .i64 p1] 26)) (w2.heap.size) 26 (.int .i64 p1)) := Lib.hid (heap_alloc_new _ _)
    have cU0 := RU_3.out.c0
    have cU1 := RU_3.out.c1
    have cK := RK_3.out.cell
    have fK := RK_3.out.frozen
    go_wp2_with fail
    clear cU0 cU1 cK fK
    refine (J2.out _ HB3.out).mono ?_
    rintro e w4 ⟨A2, d2, rfl, hes, _, _, hb⟩
    have HB4 := Lib.hid (eb_of HB3.out hb (by first | exact Nat.le_refl _ | exact HB3.out.size))
    have RU_4 := Lib.hid (Row2.below RU_3.out hb (Nat.le_refl _))
    have RK_4 := Lib.hid (box_below RK_3.out hb (Nat.le_refl _))
    have RV1_4 := Lib.hid (box_below RV1_3.out hb (Nat.le_refl _))
    have K1_4 := Lib.hid (EsAt.below K1_3.out hb (Nat.le_refl _))
    clear HB3 RU_3 RK_3 RV1_3 K1_3
    clear hb
    have KE2 := Lib.hid hes
    clear hes
    have LV2 : Hid (w.heap.size + 1 ≤ w4.heap.size) := Lib.hid (by have := RU_4.out.lt; (try simp only [World.size_alloc] at this); omega)
    have hb := alloc_below w4 (.cells #[.int .i64 p1] 26)
    have HB5 := Lib.hid (eb_of HB4.out hb (by first | exact Nat.le_refl _ | exact HB4.out.size))
    have RU_5 := Lib.hid (Row2.below RU_4.out hb (Nat.le_refl _))
    have RK_5 := Lib.hid (box_below RK_4.out hb (Nat.le_refl _))
    have RV1_5 := Lib.hid (box_below RV1_4.out hb (Nat.le_refl _))
    have K1_5 := Lib.hid (EsAt.below K1_4.out hb (Nat.le_refl _))
    have K2_5 := Lib.hid (EsAt.below KE2.out hb (Nat.le_refl _))
    clear HB4 RU_4 RK_4 RV1_4 K1_4 KE2
    clear hb
    have RV2_5 : Hid (Boxed (w4.alloc (.cells #[.int .i64 p1] 26)) (w4.heap.size) 26 (.int .i64 p1)) := Lib.hid (heap_alloc_new _ _)
    have cV1 := RV1_5.out.cell
    have fV1 := RV1_5.out.frozen
    have cV2 := RV2_5.out.cell
    have fV2 := RV2_5.out.frozen
    go_wp2_with fail
    clear cV1 fV1 cV2 fV2
    have JS : Hid (Calls Try.prog 29 #[.slice A1 ln d1, .slice A2 ln d2] (w4.alloc (.cells #[.int .i64 p1] 26)) fun e w' => e = .returned (.bool true) ∧ Below (w4.alloc (.cells #[.int .i64 p1] 26)).heap.size (w4.alloc (.cells #[.int .i64 p1] 26)) w') := Lib.hid (by
      have K := Same_any A1 A2 d1 d2 L L (w4.alloc (.cells #[.int .i64 p1] 26)) K1_5.out K2_5.out (by rw [HLN.out]; omega) (by rw [HLN.out]; omega)
      rw [HLN.out] at K
      simpa using K)
    refine (JS.out).mono ?_
    rintro e w6 ⟨rfl, hb⟩
    have HB6 := Lib.hid (eb_of HB5.out hb (by first | exact Nat.le_refl _ | exact HB5.out.size))
    have RU_6 := Lib.hid (Row2.below RU_5.out hb (Nat.le_refl _))
    have RK_6 := Lib.hid (box_below RK_5.out hb (Nat.le_refl _))
    have RV1_6 := Lib.hid (box_below RV1_5.out hb (Nat.le_refl _))
    have RV2_6 := Lib.hid (box_below RV2_5.out hb (Nat.le_refl _))
    have K1_6 := Lib.hid (EsAt.below K1_5.out hb (Nat.le_refl _))
    have K2_6 := Lib.hid (EsAt.below K2_5.out hb (Nat.le_refl _))
    clear HB5 RU_5 RK_5 RV1_5 RV2_5 K1_5 K2_5
    clear hb
    have cV1 := RV1_6.out.cell
    have fV1 := RV1_6.out.frozen
    have cV2 := RV2_6.out.cell
    have fV2 := RV2_6.out.frozen
    go_wp2_with fail
    clear cV1 fV1 cV2 fV2
    go_loopw [13, 14, 15, 16, 17, 18, 19] (fun vi v14 v15 v16 v17 v18 v19 wr => ∃ i : Nat, vi = .int .i64 (i : Int) ∧ i ≤ 4 ∧ Below w.heap.size w wr ∧ Row2 wr w.heap.size 24 (.int .i64 id) (.slice A n c) ∧ Boxed wr (w.heap.size + 1) 26 (.int .i64 k)) (fun vi _ _ _ _ _ _ _ => 4 - (intOf vi).toNat)
    case atStart => exact ⟨0, rfl, by omega, HB6.out, RU_6.out, RK_6.out⟩
    case round =>
      clear HB6 RU_6 RK_6 RV1_6 RV2_6 K1_6 K2_6 J1 J2 JF JS
      obtain ⟨i, rfl, hi, hb, hu, hk⟩ := hrel
      have HBa := Lib.hid hb
      have RUa := Lib.hid hu
      have RKa := Lib.hid hk
      have cU0 := hu.c0
      have cU1 := hu.c1
      have cK := hk.cell
      clear hb hu hk
      have hi5 : i = 0 ∨ i = 1 ∨ i = 2 ∨ i = 3 ∨ i = 4 := by omega
      clear hi
      rcases hi5 with rfl | rfl | rfl | rfl | rfl
      · have J5 := Lib.hid (fun w1 h => J3.out true true w1 h)
        have J6 := Lib.hid (fun w1 h => J4.out true true w1 h)
        clear J3 J4
        generalize gg true true = g2 at *
        obtain ⟨⟨xk, xv, xd, xq⟩, xp, xe⟩ := g2
        simp only [entV] at J5 J6
        go_wp2_with fail
        clear cU0 cU1 cK
        refine (J5.out _ HBa.out).mono ?_
        rintro e w301 ⟨rfl, hb⟩
        have HB301 := Lib.hid (eb_of HBa.out hb (by first | exact Nat.le_refl _ | exact HBa.out.size))
        have RU_301 := Lib.hid (Row2.below RUa.out hb (Nat.le_refl _))
        have RK_301 := Lib.hid (box_below RKa.out hb (Nat.le_refl _))
        clear HBa RUa RKa
        clear hb
        have LX : Hid (w.heap.size + 1 ≤ w301.heap.size) := Lib.hid (by have := RU_301.out.lt; (try simp only [World.size_alloc] at this); omega)
        have hb := alloc_below w301 (.cells #[.string xk, .string xv, .bool xd, .int .i64 xq] 34)
        have HB302 := Lib.hid (eb_of HB301.out hb (by first | exact Nat.le_refl _ | exact HB301.out.size))
        have RU_302 := Lib.hid (Row2.below RU_301.out hb (Nat.le_refl _))
        have RK_302 := Lib.hid (box_below RK_301.out hb (Nat.le_refl _))
        clear HB301 RU_301 RK_301
        clear hb
        have RX_302 : Hid (Row4 (w301.alloc (.cells #[.string xk, .string xv, .bool xd, .int .i64 xq] 34)) (w301.heap.size) 34 (.string xk) (.string xv) (.bool xd) (.int .i64 xq)) := Lib.hid (heap_alloc_new _ _)
        have LP : Hid (w.heap.size + 1 ≤ w301.heap.size + 1) := Lib.hid (by have := RU_302.out.lt; (try simp only [World.size_alloc] at this); omega)
        have hb := alloc_below (w301.alloc (.cells #[.string xk, .string xv, .bool xd, .int .i64 xq] 34)) (.cells #[.int .i64 xp] 26)
        have HB303 := Lib.hid (eb_of HB302.out hb (by first | exact Nat.le_refl _ | exact HB302.out.size))
        have RU_303 := Lib.hid (Row2.below RU_302.out hb (Nat.le_refl _))
        have RK_303 := Lib.hid (box_below RK_302.out hb (Nat.le_refl _))
        have RX_303 := Lib.hid (Row4.below RX_302.out hb (Nat.le_refl _))
        clear HB302 RU_302 RK_302 RX_302
        clear hb
        have RP_303 : Hid (Boxed ((w301.alloc (.cells #[.string xk, .string xv, .bool xd, .int .i64 xq] 34)).alloc (.cells #[.int .i64 xp] 26)) (w301.heap.size + 1) 26 (.int .i64 xp)) := Lib.hid (by
          have hq := heap_alloc_new (w301.alloc (.cells #[.string xk, .string xv, .bool xd, .int .i64 xq] 34)) (.cells #[.int .i64 xp] 26)
          simp only [World.size_alloc] at hq
          exact hq)
        have cU0 := RU_303.out.c0
        have cU1 := RU_303.out.c1
        have cK := RK_303.out.cell
        have fK := RK_303.out.frozen
        go_wp2_with fail
        clear cU0 cU1 cK fK
        refine (J6.out _ HB303.out).mono ?_
        rintro e w304 ⟨rfl, hb⟩
        have HB304 := Lib.hid (eb_of HB303.out hb (by first | exact Nat.le_refl _ | exact HB303.out.size))
        have RU_304 := Lib.hid (Row2.below RU_303.out hb (Nat.le_refl _))
        have RK_304 := Lib.hid (box_below RK_303.out hb (Nat.le_refl _))
        have RX_304 := Lib.hid (Row4.below RX_303.out hb (Nat.le_refl _))
        have RP_304 := Lib.hid (box_below RP_303.out hb (Nat.le_refl _))
        clear HB303 RU_303 RK_303 RX_303 RP_303
        clear hb
        have LY : Hid (w.heap.size + 1 ≤ w304.heap.size) := Lib.hid (by have := RU_304.out.lt; (try simp only [World.size_alloc] at this); omega)
        have hb := alloc_below w304 (.cells #[.string xk, .string xv, .bool xd, .int .i64 xq] 34)
        have HB305 := Lib.hid (eb_of HB304.out hb (by first | exact Nat.le_refl _ | exact HB304.out.size))
        have RU_305 := Lib.hid (Row2.below RU_304.out hb (Nat.le_refl _))
        have RK_305 := Lib.hid (box_below RK_304.out hb (Nat.le_refl _))
        have RX_305 := Lib.hid (Row4.below RX_304.out hb (Nat.le_refl _))
        have RP_305 := Lib.hid (box_below RP_304.out hb (Nat.le_refl _))
        clear HB304 RU_304 RK_304 RX_304 RP_304
        clear hb
        have RY_305 : Hid (Row4 (w304.alloc (.cells #[.string xk, .string xv, .bool xd, .int .i64 xq] 34)) (w304.heap.size) 34 (.string xk) (.string xv) (.bool xd) (.int .i64 xq)) := Lib.hid (heap_alloc_new _ _)
        have LQ : Hid (w.heap.size + 1 ≤ w304.heap.size + 1) := Lib.hid (by have := RU_305.out.lt; (try simp only [World.size_alloc] at this); omega)
        have hb := alloc_below (w304.alloc (.cells #[.string xk, .string xv, .bool xd, .int .i64 xq] 34)) (.cells #[.int .i64 xp] 26)
        have HB306 := Lib.hid (eb_of HB305.out hb (by first | exact Nat.le_refl _ | exact HB305.out.size))
        have RU_306 := Lib.hid (Row2.below RU_305.out hb (Nat.le_refl _))
        have RK_306 := Lib.hid (box_below RK_305.out hb (Nat.le_refl _))
        have RX_306 := Lib.hid (Row4.below RX_305.out hb (Nat.le_refl _))
        have RP_306 := Lib.hid (box_below RP_305.out hb (Nat.le_refl _))
        have RY_306 := Lib.hid (Row4.below RY_305.out hb (Nat.le_refl _))
        clear HB305 RU_305 RK_305 RX_305 RP_305 RY_305
        clear hb
        have RQ_306 : Hid (Boxed ((w304.alloc (.cells #[.string xk, .string xv, .bool xd, .int .i64 xq] 34)).alloc (.cells #[.int .i64 xp] 26)) (w304.heap.size + 1) 26 (.int .i64 xp)) := Lib.hid (by
          have hq := heap_alloc_new (w304.alloc (.cells #[.string xk, .string xv, .bool xd, .int .i64 xq] 34)) (.cells #[.int .i64 xp] 26)
          simp only [World.size_alloc] at hq
          exact hq)
        have cU0 := RU_306.out.c0
        have cU1 := RU_306.out.c1
        have cK := RK_306.out.cell
        have fK := RK_306.out.frozen
        have cX0 := RX_306.out.c0
        have cX1 := RX_306.out.c1
        have cX2 := RX_306.out.c2
        have cX3 := RX_306.out.c3
        have cP := RP_306.out.cell
        have fP := RP_306.out.frozen
        have cY0 := RY_306.out.c0
        have cY1 := RY_306.out.c1
        have cY2 := RY_306.out.c2
        have cY3 := RY_306.out.c3
        have cQ := RQ_306.out.cell
        have fQ := RQ_306.out.frozen
        go_wp2_with fail
        exact ⟨⟨1, by first | rfl | go_num, by omega, HB306.out, RU_306.out, RK_306.out⟩, by simp [intOf]⟩

      · have J5 := Lib.hid (fun w1 h => J3.out false true w1 h)
        have J6 := Lib.hid (fun w1 h => J4.out false true w1 h)
        clear J3 J4
        generalize gg false true = g2 at *
        obtain ⟨⟨xk, xv, xd, xq⟩, xp, xe⟩ := g2
        simp only [entV] at J5 J6
        go_wp2_with fail
        clear cU0 cU1 cK
        refine (J5.out _ HBa.out).mono ?_
        rintro e w321 ⟨rfl, hb⟩
        have HB321 := Lib.hid (eb_of HBa.out hb (by first | exact Nat.le_refl _ | exact HBa.out.size))
        have RU_321 := Lib.hid (Row2.below RUa.out hb (Nat.le_refl _))
        have RK_321 := Lib.hid (box_below RKa.out hb (Nat.le_refl _))
        clear HBa RUa RKa
        clear hb
        have LX : Hid (w.heap.size + 1 ≤ w321.heap.size) := Lib.hid (by have := RU_321.out.lt; (try simp only [World.size_alloc] at this); omega)
        have hb := alloc_below w321 (.cells #[.string xk, .string xv, .bool xd, .int .i64 xq] 34)
        have HB322 := Lib.hid (eb_of HB321.out hb (by first | exact Nat.le_refl _ | exact HB321.out.size))
        have RU_322 := Lib.hid (Row2.below RU_321.out hb (Nat.le_refl _))
        have RK_322 := Lib.hid (box_below RK_321.out hb (Nat.le_refl _))
        clear HB321 RU_321 RK_321
        clear hb
        have RX_322 : Hid (Row4 (w321.alloc (.cells #[.string xk, .string xv, .bool xd, .int .i64 xq] 34)) (w321.heap.size) 34 (.string xk) (.string xv) (.bool xd) (.int .i64 xq)) := Lib.hid (heap_alloc_new _ _)
        have LP : Hid (w.heap.size + 1 ≤ w321.heap.size + 1) := Lib.hid (by have := RU_322.out.lt; (try simp only [World.size_alloc] at this); omega)
        have hb := alloc_below (w321.alloc (.cells #[.string xk, .string xv, .bool xd, .int .i64 xq] 34)) (.cells #[.int .i64 xp] 26)
        have HB323 := Lib.hid (eb_of HB322.out hb (by first | exact Nat.le_refl _ | exact HB322.out.size))
        have RU_323 := Lib.hid (Row2.below RU_322.out hb (Nat.le_refl _))
        have RK_323 := Lib.hid (box_below RK_322.out hb (Nat.le_refl _))
        have RX_323 := Lib.hid (Row4.below RX_322.out hb (Nat.le_refl _))
        clear HB322 RU_322 RK_322 RX_322
        clear hb
        have RP_323 : Hid (Boxed ((w321.alloc (.cells #[.string xk, .string xv, .bool xd, .int .i64 xq] 34)).alloc (.cells #[.int .i64 xp] 26)) (w321.heap.size + 1) 26 (.int .i64 xp)) := Lib.hid (by
          have hq := heap_alloc_new (w321.alloc (.cells #[.string xk, .string xv, .bool xd, .int .i64 xq] 34)) (.cells #[.int .i64 xp] 26)
          simp only [World.size_alloc] at hq
          exact hq)
        have cU0 := RU_323.out.c0
        have cU1 := RU_323.out.c1
        have cK := RK_323.out.cell
        have fK := RK_323.out.frozen
        go_wp2_with fail
        clear cU0 cU1 cK fK
        refine (J6.out _ HB323.out).mono ?_
        rintro e w324 ⟨rfl, hb⟩
        have HB324 := Lib.hid (eb_of HB323.out hb (by first | exact Nat.le_refl _ | exact HB323.out.size))
        have RU_324 := Lib.hid (Row2.below RU_323.out hb (Nat.le_refl _))
        have RK_324 := Lib.hid (box_below RK_323.out hb (Nat.le_refl _))
        have RX_324 := Lib.hid (Row4.below RX_323.out hb (Nat.le_refl _))
        have RP_324 := Lib.hid (box_below RP_323.out hb (Nat.le_refl _))
        clear HB323 RU_323 RK_323 RX_323 RP_323
        clear hb
        have LY : Hid (w.heap.size + 1 ≤ w324.heap.size) := Lib.hid (by have := RU_324.out.lt; (try simp only [World.size_alloc] at this); omega)
        have hb := alloc_below w324 (.cells #[.string xk, .string xv, .bool xd, .int .i64 xq] 34)
        have HB325 := Lib.hid (eb_of HB324.out hb (by first | exact Nat.le_refl _ | exact HB324.out.size))
        have RU_325 := Lib.hid (Row2.below RU_324.out hb (Nat.le_refl _))
        have RK_325 := Lib.hid (box_below RK_324.out hb (Nat.le_refl _))
        have RX_325 := Lib.hid (Row4.below RX_324.out hb (Nat.le_refl _))
        have RP_325 := Lib.hid (box_below RP_324.out hb (Nat.le_refl _))
        clear HB324 RU_324 RK_324 RX_324 RP_324
        clear hb
        have RY_325 : Hid (Row4 (w324.alloc (.cells #[.string xk, .string xv, .bool xd, .int .i64 xq] 34)) (w324.heap.size) 34 (.string xk) (.string xv) (.bool xd) (.int .i64 xq)) := Lib.hid (heap_alloc_new _ _)
        have LQ : Hid (w.heap.size + 1 ≤ w324.heap.size + 1) := Lib.hid (by have := RU_325.out.lt; (try simp only [World.size_alloc] at this); omega)
        have hb := alloc_below (w324.alloc (.cells #[.string xk, .string xv, .bool xd, .int .i64 xq] 34)) (.cells #[.int .i64 xp] 26)
        have HB326 := Lib.hid (eb_of HB325.out hb (by first | exact Nat.le_refl _ | exact HB325.out.size))
        have RU_326 := Lib.hid (Row2.below RU_325.out hb (Nat.le_refl _))
        have RK_326 := Lib.hid (box_below RK_325.out hb (Nat.le_refl _))
        have RX_326 := Lib.hid (Row4.below RX_325.out hb (Nat.le_refl _))
        have RP_326 := Lib.hid (box_below RP_325.out hb (Nat.le_refl _))
        have RY_326 := Lib.hid (Row4.below RY_325.out hb (Nat.le_refl _))
        clear HB325 RU_325 RK_325 RX_325 RP_325 RY_325
        clear hb
        have RQ_326 : Hid (Boxed ((w324.alloc (.cells #[.string xk, .string xv, .bool xd, .int .i64 xq] 34)).alloc (.cells #[.int .i64 xp] 26)) (w324.heap.size + 1) 26 (.int .i64 xp)) := Lib.hid (by
          have hq := heap_alloc_new (w324.alloc (.cells #[.string xk, .string xv, .bool xd, .int .i64 xq] 34)) (.cells #[.int .i64 xp] 26)
          simp only [World.size_alloc] at hq
          exact hq)
        have cU0 := RU_326.out.c0
        have cU1 := RU_326.out.c1
        have cK := RK_326.out.cell
        have fK := RK_326.out.frozen
        have cX0 := RX_326.out.c0
        have cX1 := RX_326.out.c1
        have cX2 := RX_326.out.c2
        have cX3 := RX_326.out.c3
        have cP := RP_326.out.cell
        have fP := RP_326.out.frozen
        have cY0 := RY_326.out.c0
        have cY1 := RY_326.out.c1
        have cY2 := RY_326.out.c2
        have cY3 := RY_326.out.c3
        have cQ := RQ_326.out.cell
        have fQ := RQ_326.out.frozen
        go_wp2_with fail
        exact ⟨⟨2, by first | rfl | go_num, by omega, HB326.out, RU_326.out, RK_326.out⟩, by simp [intOf]⟩

      · have J5 := Lib.hid (fun w1 h => J3.out true false w1 h)
        have J6 := Lib.hid (fun w1 h => J4.out true false w1 h)
        clear J3 J4
        generalize gg true false = g2 at *
        obtain ⟨⟨xk, xv, xd, xq⟩, xp, xe⟩ := g2
        simp only [entV] at J5 J6
        go_wp2_with fail
        clear cU0 cU1 cK
        refine (J5.out _ HBa.out).mono ?_
        rintro e w341 ⟨rfl, hb⟩
        have HB341 := Lib.hid (eb_of HBa.out hb (by first | exact Nat.le_refl _ | exact HBa.out.size))
        have RU_341 := Lib.hid (Row2.below RUa.out hb (Nat.le_refl _))
        have RK_341 := Lib.hid (box_below RKa.out hb (Nat.le_refl _))
        clear HBa RUa RKa
        clear hb
        have LX : Hid (w.heap.size + 1 ≤ w341.heap.size) := Lib.hid (by have := RU_341.out.lt; (try simp only [World.size_alloc] at this); omega)
        have hb := alloc_below w341 (.cells #[.string xk, .string xv, .bool xd, .int .i64 xq] 34)
        have HB342 := Lib.hid (eb_of HB341.out hb (by first | exact Nat.le_refl _ | exact HB341.out.size))
        have RU_342 := Lib.hid (Row2.below RU_341.out hb (Nat.le_refl _))
        have RK_342 := Lib.hid (box_below RK_341.out hb (Nat.le_refl _))
        clear HB341 RU_341 RK_341
        clear hb
        have RX_342 : Hid (Row4 (w341.alloc (.cells #[.string xk, .string xv, .bool xd, .int .i64 xq] 34)) (w341.heap.size) 34 (.string xk) (.string xv) (.bool xd) (.int .i64 xq)) := Lib.hid (heap_alloc_new _ _)
        have LP : Hid (w.heap.size + 1 ≤ w341.heap.size + 1) := Lib.hid (by have := RU_342.out.lt; (try simp only [World.size_alloc] at this); omega)
        have hb := alloc_below (w341.alloc (.cells #[.string xk, .string xv, .bool xd, .int .i64 xq] 34)) (.cells #[.int .i64 xp] 26)
        have HB343 := Lib.hid (eb_of HB342.out hb (by first | exact Nat.le_refl _ | exact HB342.out.size))
        have RU_343 := Lib.hid (Row2.below RU_342.out hb (Nat.le_refl _))
        have RK_343 := Lib.hid (box_below RK_342.out hb (Nat.le_refl _))
        have RX_343 := Lib.hid (Row4.below RX_342.out hb (Nat.le_refl _))
        clear HB342 RU_342 RK_342 RX_342
        clear hb
        have RP_343 : Hid (Boxed ((w341.alloc (.cells #[.string xk, .string xv, .bool xd, .int .i64 xq] 34)).alloc (.cells #[.int .i64 xp] 26)) (w341.heap.size + 1) 26 (.int .i64 xp)) := Lib.hid (by
          have hq := heap_alloc_new (w341.alloc (.cells #[.string xk, .string xv, .bool xd, .int .i64 xq] 34)) (.cells #[.int .i64 xp] 26)
          simp only [World.size_alloc] at hq
          exact hq)
        have cU0 := RU_343.out.c0
        have cU1 := RU_343.out.c1
        have cK := RK_343.out.cell
        have fK := RK_343.out.frozen
        go_wp2_with fail
        clear cU0 cU1 cK fK
        refine (J6.out _ HB343.out).mono ?_
        rintro e w344 ⟨rfl, hb⟩
        have HB344 := Lib.hid (eb_of HB343.out hb (by first | exact Nat.le_refl _ | exact HB343.out.size))
        have RU_344 := Lib.hid (Row2.below RU_343.out hb (Nat.le_refl _))
        have RK_344 := Lib.hid (box_below RK_343.out hb (Nat.le_refl _))
        have RX_344 := Lib.hid (Row4.below RX_343.out hb (Nat.le_refl _))
        have RP_344 := Lib.hid (box_below RP_343.out hb (Nat.le_refl _))
        clear HB343 RU_343 RK_343 RX_343 RP_343
        clear hb
        have LY : Hid (w.heap.size + 1 ≤ w344.heap.size) := Lib.hid (by have := RU_344.out.lt; (try simp only [World.size_alloc] at this); omega)
        have hb := alloc_below w344 (.cells #[.string xk, .string xv, .bool xd, .int .i64 xq] 34)
        have HB345 := Lib.hid (eb_of HB344.out hb (by first | exact Nat.le_refl _ | exact HB344.out.size))
        have RU_345 := Lib.hid (Row2.below RU_344.out hb (Nat.le_refl _))
        have RK_345 := Lib.hid (box_below RK_344.out hb (Nat.le_refl _))
        have RX_345 := Lib.hid (Row4.below RX_344.out hb (Nat.le_refl _))
        have RP_345 := Lib.hid (box_below RP_344.out hb (Nat.le_refl _))
        clear HB344 RU_344 RK_344 RX_344 RP_344
        clear hb
        have RY_345 : Hid (Row4 (w344.alloc (.cells #[.string xk, .string xv, .bool xd, .int .i64 xq] 34)) (w344.heap.size) 34 (.string xk) (.string xv) (.bool xd) (.int .i64 xq)) := Lib.hid (heap_alloc_new _ _)
        have LQ : Hid (w.heap.size + 1 ≤ w344.heap.size + 1) := Lib.hid (by have := RU_345.out.lt; (try simp only [World.size_alloc] at this); omega)
        have hb := alloc_below (w344.alloc (.cells #[.string xk, .string xv, .bool xd, .int .i64 xq] 34)) (.cells #[.int .i64 xp] 26)
        have HB346 := Lib.hid (eb_of HB345.out hb (by first | exact Nat.le_refl _ | exact HB345.out.size))
        have RU_346 := Lib.hid (Row2.below RU_345.out hb (Nat.le_refl _))
        have RK_346 := Lib.hid (box_below RK_345.out hb (Nat.le_refl _))
        have RX_346 := Lib.hid (Row4.below RX_345.out hb (Nat.le_refl _))
        have RP_346 := Lib.hid (box_below RP_345.out hb (Nat.le_refl _))
        have RY_346 := Lib.hid (Row4.below RY_345.out hb (Nat.le_refl _))
        clear HB345 RU_345 RK_345 RX_345 RP_345 RY_345
        clear hb
        have RQ_346 : Hid (Boxed ((w344.alloc (.cells #[.string xk, .string xv, .bool xd, .int .i64 xq] 34)).alloc (.cells #[.int .i64 xp] 26)) (w344.heap.size + 1) 26 (.int .i64 xp)) := Lib.hid (by
          have hq := heap_alloc_new (w344.alloc (.cells #[.string xk, .string xv, .bool xd, .int .i64 xq] 34)) (.cells #[.int .i64 xp] 26)
          simp only [World.size_alloc] at hq
          exact hq)
        have cU0 := RU_346.out.c0
        have cU1 := RU_346.out.c1
        have cK := RK_346.out.cell
        have fK := RK_346.out.frozen
        have cX0 := RX_346.out.c0
        have cX1 := RX_346.out.c1
        have cX2 := RX_346.out.c2
        have cX3 := RX_346.out.c3
        have cP := RP_346.out.cell
        have fP := RP_346.out.frozen
        have cY0 := RY_346.out.c0
        have cY1 := RY_346.out.c1
        have cY2 := RY_346.out.c2
        have cY3 := RY_346.out.c3
        have cQ := RQ_346.out.cell
        have fQ := RQ_346.out.frozen
        go_wp2_with fail
        exact ⟨⟨3, by first | rfl | go_num, by omega, HB346.out, RU_346.out, RK_346.out⟩, by simp [intOf]⟩

      · have J5 := Lib.hid (fun w1 h => J3.out false false w1 h)
        have J6 := Lib.hid (fun w1 h => J4.out false false w1 h)
        clear J3 J4
        generalize gg false false = g2 at *
        obtain ⟨⟨xk, xv, xd, xq⟩, xp, xe⟩ := g2
        simp only [entV] at J5 J6
        go_wp2_with fail
        clear cU0 cU1 cK
        refine (J5.out _ HBa.out).mono ?_
        rintro e w361 ⟨rfl, hb⟩
        have HB361 := Lib.hid (eb_of HBa.out hb (by first | exact Nat.le_refl _ | exact HBa.out.size))
        have RU_361 := Lib.hid (Row2.below RUa.out hb (Nat.le_refl _))
        have RK_361 := Lib.hid (box_below RKa.out hb (Nat.le_refl _))
        clear HBa RUa RKa
        clear hb
        have LX : Hid (w.heap.size + 1 ≤ w361.heap.size) := Lib.hid (by have := RU_361.out.lt; (try simp only [World.size_alloc] at this); omega)
        have hb := alloc_below w361 (.cells #[.string xk, .string xv, .bool xd, .int .i64 xq] 34)
        have HB362 := Lib.hid (eb_of HB361.out hb (by first | exact Nat.le_refl _ | exact HB361.out.size))
        have RU_362 := Lib.hid (Row2.below RU_361.out hb (Nat.le_refl _))
        have RK_362 := Lib.hid (box_below RK_361.out hb (Nat.le_refl _))
        clear HB361 RU_361 RK_361
        clear hb
        have RX_362 : Hid (Row4 (w361.alloc (.cells #[.string xk, .string xv, .bool xd, .int .i64 xq] 34)) (w361.heap.size) 34 (.string xk) (.string xv) (.bool xd) (.int .i64 xq)) := Lib.hid (heap_alloc_new _ _)
        have LP : Hid (w.heap.size + 1 ≤ w361.heap.size + 1) := Lib.hid (by have := RU_362.out.lt; (try simp only [World.size_alloc] at this); omega)
        have hb := alloc_below (w361.alloc (.cells #[.string xk, .string xv, .bool xd, .int .i64 xq] 34)) (.cells #[.int .i64 xp] 26)
        have HB363 := Lib.hid (eb_of HB362.out hb (by first | exact Nat.le_refl _ | exact HB362.out.size))
        have RU_363 := Lib.hid (Row2.below RU_362.out hb (Nat.le_refl _))
        have RK_363 := Lib.hid (box_below RK_362.out hb (Nat.le_refl _))
        have RX_363 := Lib.hid (Row4.below RX_362.out hb (Nat.le_refl _))
        clear HB362 RU_362 RK_362 RX_362
        clear hb
        have RP_363 : Hid (Boxed ((w361.alloc (.cells #[.string xk, .string xv, .bool xd, .int .i64 xq] 34)).alloc (.cells #[.int .i64 xp] 26)) (w361.heap.size + 1) 26 (.int .i64 xp)) := Lib.hid (by
          have hq := heap_alloc_new (w361.alloc (.cells #[.string xk, .string xv, .bool xd, .int .i64 xq] 34)) (.cells #[.int .i64 xp] 26)
          simp only [World.size_alloc] at hq
          exact hq)
        have cU0 := RU_363.out.c0
        have cU1 := RU_363.out.c1
        have cK := RK_363.out.cell
        have fK := RK_363.out.frozen
        go_wp2_with fail
        clear cU0 cU1 cK fK
        refine (J6.out _ HB363.out).mono ?_
        rintro e w364 ⟨rfl, hb⟩
        have HB364 := Lib.hid (eb_of HB363.out hb (by first | exact Nat.le_refl _ | exact HB363.out.size))
        have RU_364 := Lib.hid (Row2.below RU_363.out hb (Nat.le_refl _))
        have RK_364 := Lib.hid (box_below RK_363.out hb (Nat.le_refl _))
        have RX_364 := Lib.hid (Row4.below RX_363.out hb (Nat.le_refl _))
        have RP_364 := Lib.hid (box_below RP_363.out hb (Nat.le_refl _))
        clear HB363 RU_363 RK_363 RX_363 RP_363
        clear hb
        have LY : Hid (w.heap.size + 1 ≤ w364.heap.size) := Lib.hid (by have := RU_364.out.lt; (try simp only [World.size_alloc] at this); omega)
        have hb := alloc_below w364 (.cells #[.string xk, .string xv, .bool xd, .int .i64 xq] 34)
        have HB365 := Lib.hid (eb_of HB364.out hb (by first | exact Nat.le_refl _ | exact HB364.out.size))
        have RU_365 := Lib.hid (Row2.below RU_364.out hb (Nat.le_refl _))
        have RK_365 := Lib.hid (box_below RK_364.out hb (Nat.le_refl _))
        have RX_365 := Lib.hid (Row4.below RX_364.out hb (Nat.le_refl _))
        have RP_365 := Lib.hid (box_below RP_364.out hb (Nat.le_refl _))
        clear HB364 RU_364 RK_364 RX_364 RP_364
        clear hb
        have RY_365 : Hid (Row4 (w364.alloc (.cells #[.string xk, .string xv, .bool xd, .int .i64 xq] 34)) (w364.heap.size) 34 (.string xk) (.string xv) (.bool xd) (.int .i64 xq)) := Lib.hid (heap_alloc_new _ _)
        have LQ : Hid (w.heap.size + 1 ≤ w364.heap.size + 1) := Lib.hid (by have := RU_365.out.lt; (try simp only [World.size_alloc] at this); omega)
        have hb := alloc_below (w364.alloc (.cells #[.string xk, .string xv, .bool xd, .int .i64 xq] 34)) (.cells #[.int .i64 xp] 26)
        have HB366 := Lib.hid (eb_of HB365.out hb (by first | exact Nat.le_refl _ | exact HB365.out.size))
        have RU_366 := Lib.hid (Row2.below RU_365.out hb (Nat.le_refl _))
        have RK_366 := Lib.hid (box_below RK_365.out hb (Nat.le_refl _))
        have RX_366 := Lib.hid (Row4.below RX_365.out hb (Nat.le_refl _))
        have RP_366 := Lib.hid (box_below RP_365.out hb (Nat.le_refl _))
        have RY_366 := Lib.hid (Row4.below RY_365.out hb (Nat.le_refl _))
        clear HB365 RU_365 RK_365 RX_365 RP_365 RY_365
        clear hb
        have RQ_366 : Hid (Boxed ((w364.alloc (.cells #[.string xk, .string xv, .bool xd, .int .i64 xq] 34)).alloc (.cells #[.int .i64 xp] 26)) (w364.heap.size + 1) 26 (.int .i64 xp)) := Lib.hid (by
          have hq := heap_alloc_new (w364.alloc (.cells #[.string xk, .string xv, .bool xd, .int .i64 xq] 34)) (.cells #[.int .i64 xp] 26)
          simp only [World.size_alloc] at hq
          exact hq)
        have cU0 := RU_366.out.c0
        have cU1 := RU_366.out.c1
        have cK := RK_366.out.cell
        have fK := RK_366.out.frozen
        have cX0 := RX_366.out.c0
        have cX1 := RX_366.out.c1
        have cX2 := RX_366.out.c2
        have cX3 := RX_366.out.c3
        have cP := RP_366.out.cell
        have fP := RP_366.out.frozen
        have cY0 := RY_366.out.c0
        have cY1 := RY_366.out.c1
        have cY2 := RY_366.out.c2
        have cY3 := RY_366.out.c3
        have cQ := RQ_366.out.cell
        have fQ := RQ_366.out.frozen
        go_wp2_with fail
        exact ⟨⟨4, by first | rfl | go_num, by omega, HB366.out, RU_366.out, RK_366.out⟩, by simp [intOf]⟩

      · go_wp2_with fail
        refine (JW.out _).mono ?_
        rintro e w501 ⟨rfl, hb⟩
        have HB501 := Lib.hid (eb_of HBa.out hb (by first | exact Nat.le_refl _ | exact HBa.out.size))
        clear HBa
        clear hb
        go_wp2_with fail
        go_ret
        exact ⟨by first | rfl | (simp; done), HB501.out⟩

end Go.Proofs.Yticdechdgpfdfaa.KK
