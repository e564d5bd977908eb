/-
  Shadow: the walk of Parts.
-/
import Derived.Test.YtlobkbhghpknmaaSo
import Derived.Test.YtlobkbhghpknmaaSv
namespace Go.Proofs.Ytlobkbhghpknmaa.KK
open Go.ChangeShapes Go.WideShapes Go.ChangeAt Go.RowKit Go.Proofs

theorem sift_again {xs : List El.En} {b : Bool} (h : (siftE xs b).2.2 = 0) : siftE (siftE xs b).1.1 b = (((siftE xs b).1.1, 0, 0), 0, 0) := by
  obtain ⟨h1, h2⟩ := sift_run h
  have e := sift_part h1 h2 (kp b) b
  rw [sift_of h1 h2 b]
  simp only at e ⊢
  rw [e, List.filter_filter, List.filter_filter]
  have e1 : (fun a => kp b a && kp b a) = kp b := by funext a; cases kp b a <;> rfl
  have e2 : (fun a => !kp b a && kp b a) = fun _ => false := by funext a; cases kp b a <;> rfl
  rw [e1]
  simp
set_option maxRecDepth 100000 in
set_option maxHeartbeats 4000000 in
theorem Parts_any (A : Option Addr) (c : Nat) (xs : List El.En) (b0 : Bool) (w : World) (hf : EsAt w A xs) (hn : xs.length ≤ 9223372036854775807) (hs : Sized xs) :
    Calls Try.prog 6 #[.slice A xs.length c, .bool b0] w fun e w' => e = .returned (.bool true) ∧ Below w.heap.size w w' := by
  have JF := Lib.hid (far12_any A c xs w hf hn)
  have HF := Lib.hid hf
  have HS := Lib.hid hs
  obtain ⟨n, hnn⟩ : ∃ n, xs.length = n := ⟨_, rfl⟩
  rw [hnn] at hn JF ⊢
  have HN := Lib.hid hnn
  clear hnn hf hs
  go_enter Try.func6, Try.ntmps6
  go_wp2_with fail
  refine JF.out.mono ?_
  rintro e w1 ⟨b, rfl, hfar, hb⟩
  have HB1 := Lib.hid hb
  have HF1 := Lib.hid (HF.out.below hb (Nat.le_refl _))
  clear hb
  cases b with
  | true =>
    clear hfar
    go_wp2_with fail
    refine (awake12_any _).mono ?_
    rintro e w2 ⟨rfl, hb⟩
    have HB2 := Lib.hid (eb_of HB1.out hb (Nat.le_refl _))
    clear hb
    go_wp2_with fail
    go_ret
    exact ⟨rfl, HB2.out⟩
  | false =>
    have hn' := hfar rfl
    clear hfar
    have hn32 : xs.length ≤ 4294967295 := by have := HN.out; omega
    have J1 := Lib.hid (fun w h => pFilter_any A c xs b0 w h hn32 HS.out)
    unfold FiltOut at J1
    by_cases he : (siftE xs b0).2.2 = 0
    rotate_left
    · obtain ⟨b1, b2⟩ := ne_b he
      clear he hn32
      rw [HN.out] at J1
      generalize siftE xs b0 = r at *
      obtain ⟨⟨ks, sh, dr⟩, i, er⟩ := r
      simp only at J1 b1 b2
      generalize ks.length = m at *
      go_wp2_with fail
      refine (J1.out _ HF1.out).mono ?_
      rintro e w2 ⟨A2, c2, rfl, _, hb⟩
      have HB2 := Lib.hid (eb_of HB1.out hb (Nat.le_refl _))
      clear hb
      go_wp2_with fail
      refine (awake12_any _).mono ?_
      rintro e w9 ⟨rfl, hb⟩
      have HB9 := Lib.hid (eb_of HB2.out hb (Nat.le_refl _))
      clear hb
      go_wp2_with fail
      go_ret
      exact ⟨rfl, HB9.out⟩
    have hag := sift_again he
    have hm := sift_len xs b0
    have hz1 := sift_sized he HS.out
    have J2 := Lib.hid (fun w A c h => pFilter_any A c (siftE xs b0).1.1 b0 w h (by omega) hz1)
    unfold FiltOut at J2
    rw [hag] at J2
    have HOK := Lib.hid he
    have hi0 : (siftE xs b0).2.1 = 0 := by
      obtain ⟨h1, h2⟩ := sift_run he
      rw [sift_of h1 h2 b0]
    rw [he, hi0, HN.out] at J1
    rw [HN.out] at hm
    obtain ⟨ks, hks⟩ : ∃ ks, (siftE xs b0).1.1 = ks := ⟨_, rfl⟩
    have HKS := Lib.hid hks
    rw [hks] at J1 J2 hm
    simp only at J2
    have J6 := Lib.hid (fun A A' c c' w h g => sameE_any A A' c c' ks ks w h g (by omega) (by omega))
    simp only [decide_true] at J6
    obtain ⟨m, hmm⟩ : ∃ m, ks.length = m := ⟨_, rfl⟩
    have HM := Lib.hid hmm
    rw [hmm] at J1 J2 J6
    obtain ⟨i0, hi, hz0, hz1', hz2⟩ := info_parts infoE
    have hdn : decide ((20000 : Int) < (n : Int)) = false := by
      have := (sift_run he).1
      rw [HN.out] at this
      simp; omega
    have h64 : ¬ 20000 < n := by
      have := (sift_run he).1
      rw [HN.out] at this
      omega
    have JB := Lib.hid (fun w => pBegin_any b0 w)
    have HE0 := Lib.hid (show siftE xs b0 = sgo (false, ⟨#[]⟩, b0) 0 zO xs from if_neg (by rw [HN.out]; exact h64))
    clear he hag hm hz1 hi0 hks hmm hn32 hdn
    go_wp2_with fail
    refine (J1.out _ HF1.out).mono ?_
    rintro e w2 ⟨A2, c2, rfl, he2, hb⟩
    have HB2' := Lib.hid (eb_of HB1.out hb (Nat.le_refl _))
    have HF2 := Lib.hid (HF1.out.below hb (Nat.le_refl _))
    have HE2 := Lib.hid he2
    clear hb he2
    go_wp2_with fail
    refine (J2.out _ _ _ HE2.out).mono ?_
    rintro e w3 ⟨A3, c3, rfl, he3, hb⟩
    have HB3 := Lib.hid (eb_of HB2'.out hb (Nat.le_refl _))
    have HF3 := Lib.hid (HF2.out.below hb (Nat.le_refl _))
    have HE3 := Lib.hid (HE2.out.below hb (Nat.le_refl _))
    have HG3 := Lib.hid he3
    clear hb he3
    go_wp2_with fail
    refine (J6.out _ _ _ _ _ HG3.out HE3.out).mono ?_
    rintro e w4 ⟨rfl, hb⟩
    have HB4 := Lib.hid (eb_of HB3.out hb (Nat.le_refl _))
    have HF5 := Lib.hid (HF3.out.below hb (Nat.le_refl _))
    have HW5 := Lib.hid (HE3.out.below hb (Nat.le_refl _))
    clear hb
    go_wp2_with fail
    refine (JB.out _).mono ?_
    rintro e w5s ⟨rfl, hb⟩
    have HB5 := Lib.hid hb
    have hw1 := hb.size
    have HST : Hid (FiltR xs b0 w4 (w5s.heap.size + 1) w5s.heap.size 0 (.slice none 0 0) (w5s.alloc (.cells #[.bool false, .string ⟨#[]⟩, .bool b0] 23))) := Lib.hid
      ⟨none, 0, zO, false, ⟨#[]⟩, rfl, World.ownsRow_nil _ _ _ _, heap_alloc_new _ _, eb_of HB5.out (al1 _ _) (Nat.le_refl _), by simp, HE0.out, by decide, by decide⟩
    clear hb
    go_wp2_with fail
    go_loopw [12, 13] (fun ov iv wr => ∃ k : Nat, k ≤ n ∧ iv = .int .i64 k ∧ FiltR xs b0 w4 (w5s.heap.size + 1) w5s.heap.size k ov wr) (fun _ iv _ => n - (intOf iv).toNat)
    case atStart => exact ⟨0, Nat.zero_le _, rfl, HST.out⟩
    case round =>
      obtain ⟨k, hk, rfl, A1, c1, o, ss, sl, rfl, ho, hs7, hb, hbase, ha, hsl, hle⟩ := hrel
      have HA := Lib.hid ha
      have HB2 := Lib.hid hb
      have HO := Lib.hid ho
      have HS7 := Lib.hid hs7
      have HLE := Lib.hid hle
      have s0 := hs7.c0
      have s1 := hs7.c1
      have s2 := hs7.c2
      have sf0 := hs7.fz 0
      have sf1 := hs7.fz 1
      have sf2 := hs7.fz 2
      have hl7 : w5s.heap.size < wr.heap.size := by omega
      clear ha ho hs7 hle
      by_cases hlt : k < n
      rotate_left
      · have HEN : siftE xs b0 = (o, 0, 0) := HA.out.trans (sgo_end (by rw [HN.out]; exact hlt))
        have hks : o.1 = ks := by have := HKS.out; rw [HEN] at this; exact this
        have HES : Hid (EsAt wr A1 ks) := Lib.hid (by rw [← hks]; exact EsAt.of_own HO.out)
        have HW := Lib.hid (HW5.out.below hb (Nat.le_refl _))
        have HB9 := Lib.hid (eb_of HB4.out hb (Nat.le_refl _))
        have hlo : o.1.length = m := by rw [hks]; exact HM.out
        rw [hlo]
        clear hb HEN hks hlo
        go_wp2_with fail
        refine (J6.out _ _ _ _ _ HES.out HW.out).mono ?_
        rintro e w9 ⟨rfl, hb⟩
        have HB10 := Lib.hid (eb_of HB9.out hb (Nat.le_refl _))
        clear hb
        go_wp2_with fail
        refine (awake12_any _).mono ?_
        rintro e w10 ⟨rfl, hb⟩
        have HB11 := Lib.hid (eb_of HB10.out hb (Nat.le_refl _))
        clear hb
        go_wp2_with fail
        go_ret
        exact ⟨rfl, HB11.out⟩
      have hlx : k < xs.length := by rw [HN.out]; exact hlt
      have hf' := HF5.out.below hb (Nat.le_refl _)
      clear hb
      rcases hf' with h0 | ⟨bl, off, rfl, hbl, hc⟩
      · rw [h0] at hlx; simp at hlx
      obtain ⟨g0, g1, g2, g3⟩ := hc k hlx
      have hsx := HS.out.at hlx
      have hok := fun g => sgo_ok (s := (ss, sl, b0)) (o := o) hlx g
      have hno := fun g => sgo_no (s := (ss, sl, b0)) (o := o) hlx g
      clear hc
      obtain ⟨⟨xk, xv, xd, xq⟩, hx⟩ : ∃ x, xs[k] = x := ⟨_, rfl⟩
      rw [hx] at g0 g1 g2 g3 hok hno hsx
      simp only at g0 g1 g2 g3 hsx
      clear hx
      obtain ⟨hx1, hx2⟩ := hsx
      have HX4 : Hid (∀ w', Below wr.heap.size wr w' → Row3 w' w5s.heap.size 23 (.bool ss) (.string sl) (.bool b0) ∧ w'.ownsRow (w5s.heap.size + 1) 25 4 (.slice A1 o.1.length c1) o.1.length (cellsE o.1)) := Lib.hid fun w' h => ⟨HS7.out.below h (Nat.le_refl _), own_below HO.out h⟩
      have HK : Hid (∀ wN, Below wr.heap.size wr wN → (wN.cell? ⟨w5s.heap.size, 0, none⟩ = some (.bool ss) ∧ wN.cell? ⟨w5s.heap.size, 1, none⟩ = some (.string sl) ∧ wN.cell? ⟨w5s.heap.size, 2, none⟩ = some (.bool b0) ∧ wN.cell? ⟨bl, off + k * 4, none⟩ = some (.string xk) ∧ wN.cell? ⟨bl, off + k * 4 + 1, none⟩ = some (.string xv) ∧ wN.cell? ⟨bl, off + k * 4 + 2, none⟩ = some (.bool xd) ∧ wN.cell? ⟨bl, off + k * 4 + 3, none⟩ = some (.int .i64 xq)) ∧ Below wr.heap.size wr wN) := Lib.hid fun wN h => by
        have hq := (HX4.out _ h).1
        exact ⟨⟨hq.c0, hq.c1, hq.c2, (h.cell (p := ⟨bl, _, none⟩) hbl).trans g0, (h.cell (p := ⟨bl, _, none⟩) hbl).trans g1, (h.cell (p := ⟨bl, _, none⟩) hbl).trans g2, (h.cell (p := ⟨bl, _, none⟩) hbl).trans g3⟩, h⟩
      have hst : stepE (ss, sl, b0) (xk, xv, xd, xq) = 0 := Classical.byContradiction fun hne => hne (by
        have h1 := HA.out.trans (hno hne)
        have h2 := HOK.out
        rw [h1] at h2; exact h2)
      have hck : chkS (true, xk, b0) = 0 := chk_next (x := (xk, xv, xd, xq)) ((step_iff _ _ _ _).1 hst).2.1 b0
      have JC := Lib.hid (fun w => by have K := pChk_any true xk b0 w hx1; rw [hck] at K; exact K)
      clear hck
      · have JN := Lib.hid (fun w => step_ok ss sl b0 xk xv xd xq w hsl hx1 hx2 hst)
        have HAA : Hid (siftE xs b0 = sgo (true, xk, b0) (k + 1) (addO o (xk, xv, xd, xq) (fateS (ss, sl, b0) (xk, xv, xd, xq))) (xs.drop (k + 1))) := Lib.hid (HA.out.trans (hok hst))
        clear hst hok hno
        cases hfk : fateS (ss, sl, b0) (xk, xv, xd, xq)
        case shad =>
          have hkb : keptB (ss, sl, b0) (xk, xv, xd, xq) = false := by unfold keptB; rw [hfk]
          rw [hkb] at JN
          rw [hfk] at HAA
          clear hkb hfk
          go_wp2_with fail
          have HD := Lib.hid (show Below wr.heap.size wr wr.drew from (Below.refl _ _).drew)
          have HFF := Lib.hid (Below.refl wr.heap.size wr)
          go_region_held3 (fun wN => (wN.cell? ⟨w5s.heap.size, 0, none⟩ = some (.bool ss) ∧ wN.cell? ⟨w5s.heap.size, 1, none⟩ = some (.string sl) ∧ wN.cell? ⟨w5s.heap.size, 2, none⟩ = some (.bool b0) ∧ wN.cell? ⟨bl, off + k * 4, none⟩ = some (.string xk) ∧ wN.cell? ⟨bl, off + k * 4 + 1, none⟩ = some (.string xv) ∧ wN.cell? ⟨bl, off + k * 4 + 2, none⟩ = some (.bool xd) ∧ wN.cell? ⟨bl, off + k * 4 + 3, none⟩ = some (.int .i64 xq)) ∧ Below wr.heap.size wr wN)
            ((refine HK.out _ ?_; first | with_reducible assumption | with_reducible exact HD.out | with_reducible exact bl_al (by assumption) (Nat.le_refl _) _ | with_reducible exact bAD HFF.out (Nat.le_refl _) _ | with_reducible exact set3s (by assumption) (Nat.le_refl _) _ _ _))
            ((go_at_call 11; refine (JN.out _).mono ?_; rintro e w5 ⟨rfl, hb5⟩; (try have HR5 := Lib.hid (show Row3 w5 wr.heap.size 23 (.bool false) (.string ⟨#[]⟩) (.bool false) from row_al hb5)); (try (have e0 := HR5.out.c0; have e1 := HR5.out.c1; have e2 := HR5.out.c2; have e3 := HR5.out.fz 0; have e4 := HR5.out.fz 1; have e5 := HR5.out.fz 2)); have hb6 : Below wr.heap.size wr w5 := eb_of (by first | with_reducible exact HD.out | with_reducible assumption | with_reducible exact bAD HFF.out (Nat.le_refl _) _ | exact And.right (by assumption)) hb5 (Nat.le_refl _); clear hb5))
          all_goals
            first
              | (have hrx := HR5.out.set (.bool true) (.string xk) (.bool b0)
                 have hbw := set3s hb6 (Nat.le_refl _) (.bool true) (.string xk) (.bool b0)
                 have hbx : wr.heap.size ≤ wr.heap.size := Nat.le_refl _
                 revert hrx hbw
                 generalize World.setCell _ _ _ = wx
                 intro hrx hbw
                 clear HR5 hb6 e0 e1 e2 e3 e4 e5)
              | (have hrx : Row3 (w5.alloc (.cells #[.bool true, .string xk, .bool b0] 23)) w5.heap.size 23 (.bool true) (.string xk) (.bool b0) := heap_alloc_new _ _
                 have hbw := bl_al hb6 (Nat.le_refl _) (.cells #[.bool true, .string xk, .bool b0] 23)
                 have hbx : wr.heap.size ≤ w5.heap.size := hb6.size
                 revert hrx hbw
                 generalize World.alloc w5 _ = wx
                 intro hrx hbw
                 clear hb6)
            have k0' := abv_s hrx.c0; have k1' := abv_s hrx.c1; have k2' := abv_s hrx.c2
            have hgx := fun o' v' (h : wr.cell? ⟨bl, o', none⟩ = some v') => abv_s ((hbw.cell (p := ⟨bl, o', none⟩) hbl).trans h)
            have kg := hgx _ _ g0
            have HBW0 := Lib.hid hbw
            have HRX0 := Lib.hid hrx
            clear hgx hbw hrx s0 s1 s2 sf0 sf1 sf2
            go_wp2_with fail
            refine wp_region_abv (by first | assumption | kernel_rfl) (by kernel_rfl) ?_
            repeat (first | go_big_quiet_step (with_reducible exact callAbv (JC.out _)) | quiet_step (with_reducible exact callAbv (JC.out _)))
            refine wpQuiet_nil ?_
            intro w99 hw99
            obtain ⟨p, rfl⟩ := hw99
            have hbw := eb_of HBW0.out p.h (Nat.le_refl _)
            have hrx := HRX0.out.below p.h (Nat.le_refl _)
            clear HBW0 HRX0 k0' k1' k2' kg
            revert hbw hrx
            generalize p.world = wq
            intro hbw hrx
            have HB6 := Lib.hid hbw
            have HG6 : Hid (wq.cell? ⟨bl, off + k * 4, none⟩ = some (.string xk) ∧ wq.cell? ⟨bl, off + k * 4 + 1, none⟩ = some (.string xv) ∧ wq.cell? ⟨bl, off + k * 4 + 2, none⟩ = some (.bool xd) ∧ wq.cell? ⟨bl, off + k * 4 + 3, none⟩ = some (.int .i64 xq)) := Lib.hid ⟨(hbw.cell (p := ⟨bl, _, none⟩) hbl).trans g0, (hbw.cell (p := ⟨bl, _, none⟩) hbl).trans g1, (hbw.cell (p := ⟨bl, _, none⟩) hbl).trans g2, (hbw.cell (p := ⟨bl, _, none⟩) hbl).trans g3⟩
            obtain ⟨hs6, ho6⟩ := HX4.out _ hbw
            have hzx := hbw.size
            have HRX := Lib.hid hrx
            have HS6 := Lib.hid hs6
            have HO6 := Lib.hid ho6
            clear hbw hrx hs6 ho6 g0 g1 g2 g3
            have x0 := HRX.out.c0; have x1 := HRX.out.c1; have x2 := HRX.out.c2
            have y0 := HS6.out.c0; have y1 := HS6.out.c1; have y2 := HS6.out.c2
            have z0 := HS6.out.fz 0; have z1 := HS6.out.fz 1; have z2 := HS6.out.fz 2
            go_wp2_with fail
            go_roundw
            case rel => exact ⟨k + 1, by omega, by go_num, A1, c1, addO o (xk, xv, xd, xq) .shad, true, xk, rfl, ownsRow_setCell_below (ownsRow_setCell_below (ownsRow_setCell_below HO6.out (a := ⟨w5s.heap.size, 0, none⟩) (by simp) _) (a := ⟨w5s.heap.size, 1, none⟩) (by simp) _) (a := ⟨w5s.heap.size, 2, none⟩) (by simp) _, HS6.out.set _ _ _, set3s (eb_of HB2.out HB6.out (Nat.le_refl _)) hw1 _ _ _, by simp [World.setCell]; omega, HAA.out, hx1, addO_le (x := (xk, xv, xd, xq)) (f := .shad) HLE.out⟩
            case measure => simp [intOf]; omega
        case drop =>
          have hkb : keptB (ss, sl, b0) (xk, xv, xd, xq) = false := by unfold keptB; rw [hfk]
          rw [hkb] at JN
          rw [hfk] at HAA
          clear hkb hfk
          go_wp2_with fail
          have HD := Lib.hid (show Below wr.heap.size wr wr.drew from (Below.refl _ _).drew)
          have HFF := Lib.hid (Below.refl wr.heap.size wr)
          go_region_held3 (fun wN => (wN.cell? ⟨w5s.heap.size, 0, none⟩ = some (.bool ss) ∧ wN.cell? ⟨w5s.heap.size, 1, none⟩ = some (.string sl) ∧ wN.cell? ⟨w5s.heap.size, 2, none⟩ = some (.bool b0) ∧ wN.cell? ⟨bl, off + k * 4, none⟩ = some (.string xk) ∧ wN.cell? ⟨bl, off + k * 4 + 1, none⟩ = some (.string xv) ∧ wN.cell? ⟨bl, off + k * 4 + 2, none⟩ = some (.bool xd) ∧ wN.cell? ⟨bl, off + k * 4 + 3, none⟩ = some (.int .i64 xq)) ∧ Below wr.heap.size wr wN)
            ((refine HK.out _ ?_; first | with_reducible assumption | with_reducible exact HD.out | with_reducible exact bl_al (by assumption) (Nat.le_refl _) _ | with_reducible exact bAD HFF.out (Nat.le_refl _) _ | with_reducible exact set3s (by assumption) (Nat.le_refl _) _ _ _))
            ((go_at_call 11; refine (JN.out _).mono ?_; rintro e w5 ⟨rfl, hb5⟩; (try have HR5 := Lib.hid (show Row3 w5 wr.heap.size 23 (.bool false) (.string ⟨#[]⟩) (.bool false) from row_al hb5)); (try (have e0 := HR5.out.c0; have e1 := HR5.out.c1; have e2 := HR5.out.c2; have e3 := HR5.out.fz 0; have e4 := HR5.out.fz 1; have e5 := HR5.out.fz 2)); have hb6 : Below wr.heap.size wr w5 := eb_of (by first | with_reducible exact HD.out | with_reducible assumption | with_reducible exact bAD HFF.out (Nat.le_refl _) _ | exact And.right (by assumption)) hb5 (Nat.le_refl _); clear hb5))
          all_goals
            first
              | (have hrx := HR5.out.set (.bool true) (.string xk) (.bool b0)
                 have hbw := set3s hb6 (Nat.le_refl _) (.bool true) (.string xk) (.bool b0)
                 have hbx : wr.heap.size ≤ wr.heap.size := Nat.le_refl _
                 revert hrx hbw
                 generalize World.setCell _ _ _ = wx
                 intro hrx hbw
                 clear HR5 hb6 e0 e1 e2 e3 e4 e5)
              | (have hrx : Row3 (w5.alloc (.cells #[.bool true, .string xk, .bool b0] 23)) w5.heap.size 23 (.bool true) (.string xk) (.bool b0) := heap_alloc_new _ _
                 have hbw := bl_al hb6 (Nat.le_refl _) (.cells #[.bool true, .string xk, .bool b0] 23)
                 have hbx : wr.heap.size ≤ w5.heap.size := hb6.size
                 revert hrx hbw
                 generalize World.alloc w5 _ = wx
                 intro hrx hbw
                 clear hb6)
            have k0' := abv_s hrx.c0; have k1' := abv_s hrx.c1; have k2' := abv_s hrx.c2
            have hgx := fun o' v' (h : wr.cell? ⟨bl, o', none⟩ = some v') => abv_s ((hbw.cell (p := ⟨bl, o', none⟩) hbl).trans h)
            have kg := hgx _ _ g0
            have HBW0 := Lib.hid hbw
            have HRX0 := Lib.hid hrx
            clear hgx hbw hrx s0 s1 s2 sf0 sf1 sf2
            go_wp2_with fail
            refine wp_region_abv (by first | assumption | kernel_rfl) (by kernel_rfl) ?_
            repeat (first | go_big_quiet_step (with_reducible exact callAbv (JC.out _)) | quiet_step (with_reducible exact callAbv (JC.out _)))
            refine wpQuiet_nil ?_
            intro w99 hw99
            obtain ⟨p, rfl⟩ := hw99
            have hbw := eb_of HBW0.out p.h (Nat.le_refl _)
            have hrx := HRX0.out.below p.h (Nat.le_refl _)
            clear HBW0 HRX0 k0' k1' k2' kg
            revert hbw hrx
            generalize p.world = wq
            intro hbw hrx
            have HB6 := Lib.hid hbw
            have HG6 : Hid (wq.cell? ⟨bl, off + k * 4, none⟩ = some (.string xk) ∧ wq.cell? ⟨bl, off + k * 4 + 1, none⟩ = some (.string xv) ∧ wq.cell? ⟨bl, off + k * 4 + 2, none⟩ = some (.bool xd) ∧ wq.cell? ⟨bl, off + k * 4 + 3, none⟩ = some (.int .i64 xq)) := Lib.hid ⟨(hbw.cell (p := ⟨bl, _, none⟩) hbl).trans g0, (hbw.cell (p := ⟨bl, _, none⟩) hbl).trans g1, (hbw.cell (p := ⟨bl, _, none⟩) hbl).trans g2, (hbw.cell (p := ⟨bl, _, none⟩) hbl).trans g3⟩
            obtain ⟨hs6, ho6⟩ := HX4.out _ hbw
            have hzx := hbw.size
            have HRX := Lib.hid hrx
            have HS6 := Lib.hid hs6
            have HO6 := Lib.hid ho6
            clear hbw hrx hs6 ho6 g0 g1 g2 g3
            have x0 := HRX.out.c0; have x1 := HRX.out.c1; have x2 := HRX.out.c2
            have y0 := HS6.out.c0; have y1 := HS6.out.c1; have y2 := HS6.out.c2
            have z0 := HS6.out.fz 0; have z1 := HS6.out.fz 1; have z2 := HS6.out.fz 2
            go_wp2_with fail
            go_roundw
            case rel => exact ⟨k + 1, by omega, by go_num, A1, c1, addO o (xk, xv, xd, xq) .drop, true, xk, rfl, ownsRow_setCell_below (ownsRow_setCell_below (ownsRow_setCell_below HO6.out (a := ⟨w5s.heap.size, 0, none⟩) (by simp) _) (a := ⟨w5s.heap.size, 1, none⟩) (by simp) _) (a := ⟨w5s.heap.size, 2, none⟩) (by simp) _, HS6.out.set _ _ _, set3s (eb_of HB2.out HB6.out (Nat.le_refl _)) hw1 _ _ _, by simp [World.setCell]; omega, HAA.out, hx1, addO_le (x := (xk, xv, xd, xq)) (f := .drop) HLE.out⟩
            case measure => simp [intOf]; omega
        case kept =>
          have hkb : keptB (ss, sl, b0) (xk, xv, xd, xq) = true := by unfold keptB; rw [hfk]
          rw [hkb] at JN
          rw [hfk] at HAA
          clear hkb hfk
          go_wp2_with fail
          have HD := Lib.hid (show Below wr.heap.size wr wr.drew from (Below.refl _ _).drew)
          have HFF := Lib.hid (Below.refl wr.heap.size wr)
          go_region_held3 (fun wN => (wN.cell? ⟨w5s.heap.size, 0, none⟩ = some (.bool ss) ∧ wN.cell? ⟨w5s.heap.size, 1, none⟩ = some (.string sl) ∧ wN.cell? ⟨w5s.heap.size, 2, none⟩ = some (.bool b0) ∧ wN.cell? ⟨bl, off + k * 4, none⟩ = some (.string xk) ∧ wN.cell? ⟨bl, off + k * 4 + 1, none⟩ = some (.string xv) ∧ wN.cell? ⟨bl, off + k * 4 + 2, none⟩ = some (.bool xd) ∧ wN.cell? ⟨bl, off + k * 4 + 3, none⟩ = some (.int .i64 xq)) ∧ Below wr.heap.size wr wN)
            ((refine HK.out _ ?_; first | with_reducible assumption | with_reducible exact HD.out | with_reducible exact bl_al (by assumption) (Nat.le_refl _) _ | with_reducible exact bAD HFF.out (Nat.le_refl _) _ | with_reducible exact set3s (by assumption) (Nat.le_refl _) _ _ _))
            ((go_at_call 11; refine (JN.out _).mono ?_; rintro e w5 ⟨rfl, hb5⟩; (try have HR5 := Lib.hid (show Row3 w5 wr.heap.size 23 (.bool false) (.string ⟨#[]⟩) (.bool false) from row_al hb5)); (try (have e0 := HR5.out.c0; have e1 := HR5.out.c1; have e2 := HR5.out.c2; have e3 := HR5.out.fz 0; have e4 := HR5.out.fz 1; have e5 := HR5.out.fz 2)); have hb6 : Below wr.heap.size wr w5 := eb_of (by first | with_reducible exact HD.out | with_reducible assumption | with_reducible exact bAD HFF.out (Nat.le_refl _) _ | exact And.right (by assumption)) hb5 (Nat.le_refl _); clear hb5))
          all_goals
            first
              | (have hrx := HR5.out.set (.bool true) (.string xk) (.bool b0)
                 have hbw := set3s hb6 (Nat.le_refl _) (.bool true) (.string xk) (.bool b0)
                 have hbx : wr.heap.size ≤ wr.heap.size := Nat.le_refl _
                 revert hrx hbw
                 generalize World.setCell _ _ _ = wx
                 intro hrx hbw
                 clear HR5 hb6 e0 e1 e2 e3 e4 e5)
              | (have hrx : Row3 (w5.alloc (.cells #[.bool true, .string xk, .bool b0] 23)) w5.heap.size 23 (.bool true) (.string xk) (.bool b0) := heap_alloc_new _ _
                 have hbw := bl_al hb6 (Nat.le_refl _) (.cells #[.bool true, .string xk, .bool b0] 23)
                 have hbx : wr.heap.size ≤ w5.heap.size := hb6.size
                 revert hrx hbw
                 generalize World.alloc w5 _ = wx
                 intro hrx hbw
                 clear hb6)
            have k0' := abv_s hrx.c0; have k1' := abv_s hrx.c1; have k2' := abv_s hrx.c2
            have hgx := fun o' v' (h : wr.cell? ⟨bl, o', none⟩ = some v') => abv_s ((hbw.cell (p := ⟨bl, o', none⟩) hbl).trans h)
            have kg := hgx _ _ g0
            have HBW0 := Lib.hid hbw
            have HRX0 := Lib.hid hrx
            clear hgx hbw hrx s0 s1 s2 sf0 sf1 sf2
            go_wp2_with fail
            refine wp_region_abv (by first | assumption | kernel_rfl) (by kernel_rfl) ?_
            repeat (first | go_big_quiet_step (with_reducible exact callAbv (JC.out _)) | quiet_step (with_reducible exact callAbv (JC.out _)))
            refine wpQuiet_nil ?_
            intro w99 hw99
            obtain ⟨p, rfl⟩ := hw99
            have hbw := eb_of HBW0.out p.h (Nat.le_refl _)
            have hrx := HRX0.out.below p.h (Nat.le_refl _)
            clear HBW0 HRX0 k0' k1' k2' kg
            revert hbw hrx
            generalize p.world = wq
            intro hbw hrx
            have HB6 := Lib.hid hbw
            have HG6 : Hid (wq.cell? ⟨bl, off + k * 4, none⟩ = some (.string xk) ∧ wq.cell? ⟨bl, off + k * 4 + 1, none⟩ = some (.string xv) ∧ wq.cell? ⟨bl, off + k * 4 + 2, none⟩ = some (.bool xd) ∧ wq.cell? ⟨bl, off + k * 4 + 3, none⟩ = some (.int .i64 xq)) := Lib.hid ⟨(hbw.cell (p := ⟨bl, _, none⟩) hbl).trans g0, (hbw.cell (p := ⟨bl, _, none⟩) hbl).trans g1, (hbw.cell (p := ⟨bl, _, none⟩) hbl).trans g2, (hbw.cell (p := ⟨bl, _, none⟩) hbl).trans g3⟩
            obtain ⟨hs6, ho6⟩ := HX4.out _ hbw
            have hzx := hbw.size
            have HRX := Lib.hid hrx
            have HS6 := Lib.hid hs6
            have HO6 := Lib.hid ho6
            clear hbw hrx hs6 ho6 g0 g1 g2 g3
            have HO7 := Lib.hid (HO6.out.alloc (.cells #[.string xk, .string xv, .bool xd, .int .i64 xq] 25))
            obtain ⟨q0, q1, q2, q3⟩ : Hid (wq.cell? ⟨bl, off + k * 4, none⟩ = some (.string xk)) ∧ Hid (wq.cell? ⟨bl, off + k * 4 + 1, none⟩ = some (.string xv)) ∧ Hid (wq.cell? ⟨bl, off + k * 4 + 2, none⟩ = some (.bool xd)) ∧ Hid (wq.cell? ⟨bl, off + k * 4 + 3, none⟩ = some (.int .i64 xq)) := ⟨HG6.out.1, HG6.out.2.1, HG6.out.2.2.1, HG6.out.2.2.2⟩
            have g0 := q0.out; have g1 := q1.out; have g2 := q2.out; have g3 := q3.out
            have hbl' : bl < wq.heap.size := by omega
            have hle1 : o.1.length ≤ 20000 := by have := HLE.out; omega
            go_wp2_with (at_builtin; go_loud (refine wpList_append_own _ rfl (.tmp 92) (.tmp 97) 33 rfl (w5s.heap.size + 1) 25 i0 (.agg #[.string ⟨#[]⟩, .string ⟨#[]⟩, .bool false, .int .i64 0]) 4 48 Try.underlying33 hi hz0 hz1' hz2 rfl (by decide) _ o.1.length _ rfl HO7.out ⟨wq.heap.size, 0, none⟩ 1 1 [.string xk, .string xv, .bool xd, .int .i64 xq] rfl rfl (new4 wq (xk, xv, xd, xq)) (by simp [Value.oneCell']) (by unfold maxLen; omega) (by omega) (by simp; omega) ?_; intro v3 w3 hown3 hg3 _; have HP := Lib.hid (filt_app HRX.out HS6.out HO6.out hbx hl7 (own_snoc (x := (xk, xv, xd, xq)) hown3) hg3 (by omega) (fun g e => (HO.out.lt g e).2)); clear hg3 hown3; have x0 := HP.out.1.c0; have x1 := HP.out.1.c1; have x2 := HP.out.1.c2; have y0 := HP.out.2.1.c0; have y1 := HP.out.2.1.c1; have y2 := HP.out.2.1.c2; have z0 := HP.out.2.1.fz 0; have z1 := HP.out.2.1.fz 1; have z2 := HP.out.2.1.fz 2))
            obtain ⟨A', c', rfl⟩ := own_sl HP.out.2.2.1
            have hlen : (addO o (xk, xv, xd, xq) .kept).1.length = o.1.length + 1 := by simp [addO]
            have HBw : Hid (Below w4.heap.size w4 w3) := Lib.hid ((eb_of HB2.out HB6.out (Nat.le_refl _)).trans (HP.out.2.2.2.below (fun g e => by have := (HO6.out.lt g e).1; omega) (by omega)))
            have hw3 := HP.out.2.2.2.size
            go_roundw
            case rel => exact ⟨k + 1, by omega, by go_num, A', c', addO o (xk, xv, xd, xq) .kept, true, xk, by rw [hlen], by rw [hlen]; exact ownsRow_setCell_below (ownsRow_setCell_below (ownsRow_setCell_below HP.out.2.2.1 (a := ⟨w5s.heap.size, 0, none⟩) (by simp) _) (a := ⟨w5s.heap.size, 1, none⟩) (by simp) _) (a := ⟨w5s.heap.size, 2, none⟩) (by simp) _, HP.out.2.1.set _ _ _, set3s HBw.out hw1 _ _ _, by simp [World.setCell]; omega, HAA.out, hx1, addO_le (x := (xk, xv, xd, xq)) (f := .kept) HLE.out⟩
            case measure => simp [intOf]; omega
end Go.Proofs.Ytlobkbhghpknmaa.KK
