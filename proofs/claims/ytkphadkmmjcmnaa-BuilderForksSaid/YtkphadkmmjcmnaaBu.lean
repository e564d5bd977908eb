/-
  The walk of BuilderForks.
-/
import Derived.Test.YtkphadkmmjcmnaaBt
namespace Go.Proofs.Ytkphadkmmjcmnaa.KK
open Go.ChangeShapes Go.WideShapes Go.ChangeAt Go.RowKit Go.Proofs

set_option maxRecDepth 100000 in
set_option maxHeartbeats 8000000 in
theorem Forks_law (A : Option Addr) (c : Nat) (zs : List El.En) (a : Int) (w : World) (ha : 0 ≤ a ∧ a ≤ 255) (hf : EsAt w A zs) (hn : zs.length ≤ 9223372036854775807) (hs : Sized zs) :
    Calls Try.prog 7 #[.slice A zs.length c, .int .u8 a] w fun e w' => e = .returned (.bool true) ∧ Below w.heap.size w w' := by
  have JW := Lib.hid awake_any
  obtain ⟨n, hnn⟩ : ∃ n, zs.length = n := ⟨_, rfl⟩
  by_cases hfar : 60 < n
  · rw [hnn] at hn ⊢
    clear hf hs hnn
    go_enter Try.func7, Try.ntmps7
    go_wp2_with fail
    refine (JW.out _).mono ?_
    rintro e w1 ⟨rfl, hb⟩
    go_wp2_with fail
    go_ret
    exact ⟨rfl, hb⟩
  have HN := Lib.hid hnn
  rw [hnn] at hn ⊢
  have HS := Lib.hid hs
  obtain ⟨kk, hkk, hkn⟩ : ∃ kk : Nat, (kk : Int) = a % ((n : Int) + 1) ∧ kk ≤ n := ⟨(a % ((n : Int) + 1)).toNat, by
    have := Int.emod_nonneg a (show ((n : Int) + 1) ≠ 0 by omega); omega, by
    have := Int.emod_nonneg a (show ((n : Int) + 1) ≠ 0 by omega)
    have := Int.emod_lt_of_pos a (show (0 : Int) < (n : Int) + 1 by omega); omega⟩
  -- the cells of an entry that came in, in whatever world
  have HC := Lib.hid (fun (i : Nat) (hi : i < n) => show ∃ b off, A = some ⟨b, off, none⟩ ∧ b < w.heap.size ∧ ∃ x, (∃ h : i < zs.length, zs[i] = x) ∧ x.1.size ≤ 9223372036854775807 ∧ x.2.1.size ≤ 9223372036854775807 ∧ ∀ w', Below w.heap.size w w' → w'.cell? ⟨b, off + i * 4, none⟩ = some (.string x.1) ∧ w'.cell? ⟨b, off + i * 4 + 1, none⟩ = some (.string x.2.1) ∧ w'.cell? ⟨b, off + i * 4 + 2, none⟩ = some (.bool x.2.2.1) ∧ w'.cell? ⟨b, off + i * 4 + 3, none⟩ = some (.int .i64 x.2.2.2) from by
    rcases hf with h0 | ⟨b, off, hA, hbl, hc⟩
    · rw [h0] at hnn; simp at hnn; omega
    · have hi' : i < zs.length := by omega
      refine ⟨b, off, hA, hbl, zs[i], ⟨hi', rfl⟩, (hs.at hi').1, (hs.at hi').2, fun w' h => ?_⟩
      obtain ⟨c0, c1, c2, c3⟩ := hc i hi'
      exact ⟨(h.cell (p := ⟨b, _, none⟩) hbl).trans c0, (h.cell (p := ⟨b, _, none⟩) hbl).trans c1, (h.cell (p := ⟨b, _, none⟩) hbl).trans c2, (h.cell (p := ⟨b, _, none⟩) hbl).trans c3⟩)
  clear hf hs hnn
  have JN := Lib.hid (fun (w1 : World) => New_ok 100 100 w1 rfl (by omega) (by omega))
  go_enter Try.func7, Try.ntmps7
  go_wp2_with fail
  go_loopw [5] (fun i wr => ∃ k : Nat, k ≤ n ∧ i = .int .i64 k ∧ Below w.heap.size w wr) (fun i _ => n - (intOf i).toNat)
  case atStart => exact ⟨0, by omega, rfl, Below.refl _ _⟩
  case round =>
    obtain ⟨k, hk, rfl, hb⟩ := hrel
    have HB := Lib.hid hb
    clear hb
    by_cases hlt : k < n
    · obtain ⟨b, off, rfl, hbl, x, -, s0, s1, hcx⟩ := HC.out k hlt
      obtain ⟨g0, g1, -, -⟩ := hcx _ HB.out
      have hI : (k : Int) < (n : Int) := by omega
      clear hcx
      obtain ⟨kx, vx, dx, qx⟩ := x
      simp only at g0 g1 s0 s1
      by_cases h1 : 100 < kx.size
      · go_wp2_with fail
        refine (JW.out _).mono ?_
        rintro e w1 ⟨rfl, hb⟩
        go_wp2_with fail
        go_ret
        exact ⟨rfl, eb_of HB.out hb (Nat.le_refl _)⟩
      by_cases h2 : 100 < vx.size
      · go_wp2_with fail
        refine (JW.out _).mono ?_
        rintro e w1 ⟨rfl, hb⟩
        go_wp2_with fail
        go_ret
        exact ⟨rfl, eb_of HB.out hb (Nat.le_refl _)⟩
      go_wp2_with fail
      go_roundw
      case rel => exact ⟨k + 1, by omega, by go_num, HB.out⟩
      case measure => simp [intOf]; omega
    · go_wp2_with fail
      refine (JN.out _).mono ?_
      rintro e w1 ⟨M1, rfl, hM1, hd, hb⟩
      have hMb : w.heap.size ≤ M1 := Nat.le_trans HB.out.size hM1
      have HB1 := Lib.hid (eb_of HB.out hb (Nat.le_refl _))
      have HH1 := Lib.hid (Hold.mk hd (Rv.nil w1 w.heap.size) hMb HB1.out.size)
      clear hb hd hM1 HB
      go_wp2_with fail
      go_loopw [9] (fun i wr => ∃ (k : Nat) (xs : List El.En) (v : Value) (wb : Option Nat), k ≤ kk ∧ i = .int .i64 k ∧ Below w.heap.size w wr ∧ OkL 100 xs ∧ GL xs ∧ Hold w.heap.size M1 100 1 xs wr v wb) (fun i _ => kk - (intOf i).toNat)
      case atStart => exact ⟨0, [], _, _, by omega, rfl, HB1.out, OkL.nil (by omega), GL.nil, HH1.out⟩
      case round =>
        obtain ⟨k2, xs, v, wb, hk, rfl, hb, hok, hgl, hh⟩ := hrel
        have HB := Lib.hid hb
        have HOK := Lib.hid hok
        have HGL := Lib.hid hgl
        have HH := Lib.hid hh
        clear hb hok hgl hh HB1 HH1
        by_cases hlt : k2 < kk
        · have hI2 : (k2 : Int) < a % ((n : Int) + 1) := by omega
          have hI : (k2 : Int) < (n : Int) := by omega
          obtain ⟨b, off, rfl, hbl, x, -, s0, s1, hcx⟩ := HC.out k2 (by omega)
          obtain ⟨g0, g1, g2, g3⟩ := hcx _ HB.out
          clear hcx
          have JA := Lib.hid (Add_any w.heap.size M1 100 v wb xs x wr HH.out.d HH.out.r HOK.out HH.out.s ⟨s0, s1⟩)
          have HOK3 := Lib.hid (HOK.out.add x)
          have HGL3 := Lib.hid (HGL.out.add (by omega : 100 ≤ 5000) x)
          generalize addL 100 xs x = ys at *
          generalize addE 100 xs x = r at *
          unfold valE at JA
          generalize x.1 = kx at *
          generalize x.2.1 = vx at *
          generalize x.2.2.1 = dx at *
          generalize x.2.2.2 = qx at *
          go_wp2_with fail
          refine JA.out.mono ?_
          rintro e w3 ⟨rfl, ho⟩
          have HB3 := Lib.hid (HB.out.trans (ho.below hMb HH.out.r HH.out.s))
          obtain ⟨v3, wb3, hh3⟩ := ho.hold HH.out
          have HH3 := Lib.hid hh3
          clear ho hh3
          go_wp2_with fail
          go_roundw
          case rel => exact ⟨k2 + 1, ys, v3, wb3, by omega, by go_num, HB3.out, HOK3.out, HGL3.out, HH3.out⟩
          case measure => simp [intOf]; omega
        · have hkk2 : k2 = kk := by omega
          subst hkk2
          have hI2 : ¬ (k2 : Int) < a % ((n : Int) + 1) := by omega
          have hx100 : xs.length ≤ 100 := HOK.out.1
          have JK := Lib.hid (Fork_any w.heap.size M1 100 1 v wb xs wr HH.out.d HH.out.r (by decide) (by omega))
          clear hk
          go_wp2_with fail
          refine JK.out.mono ?_
          rintro e w2 ⟨M2, A1, c1, rfl, rfl, hM2, hd2, hr2, hb⟩
          have hMl : M1 < wr.heap.size := HH.out.d.lt
          have HB2 := Lib.hid (eb_of HB.out hb (Nat.le_refl _))
          have HT := Lib.hid (show Two w.heap.size M1 M2 100 xs xs w2 (.slice A1 xs.length c1) wb (.slice A1 xs.length xs.length) none from
            ⟨HH.out.below hb, ⟨hd2, hr2, by omega, HB2.out.size⟩, by omega, (fun g h => by cases h), fun g _ _ => ⟨rfl, [], by simp⟩⟩)
          have hM2b : w.heap.size ≤ M2 := by omega
          have hMne : M1 ≠ M2 := by omega
          clear hb hd2 hr2 hM2 hMl JK HB HH
          have JL := Lib.hid (fun (w' : World) (h : Bd w' M1 1 100 (.slice A1 xs.length c1)) => len_any h (by decide) (by omega))
          go_wp2_with fail
          refine (JL.out _ HT.out.h1.d).mono ?_
          rintro e w3 ⟨rfl, hb⟩
          have HB3 := Lib.hid (eb_of HB2.out hb (Nat.le_refl _))
          have HT3 := Lib.hid (HT.out.below hb)
          clear hb HB2 HT
          go_wp2_with fail
          go_loopw [12] (fun iv wr => ∃ (i : Nat) (F : List El.En) (v2 : Value) (wb2 : Option Nat), k2 ≤ i ∧ i ≤ n ∧ iv = .int .i64 i ∧ Below w.heap.size w wr ∧ OkL 100 F ∧ GL F ∧ F = addsL 100 xs ((zs.take i).drop k2) ∧ Two w.heap.size M1 M2 100 xs F wr (.slice A1 xs.length c1) wb v2 wb2) (fun iv _ => n - (intOf iv).toNat)
          case atStart => exact ⟨k2, xs, _, _, Nat.le_refl _, hkn, by rw [hkk], HB3.out, HOK.out, HGL.out, (adds_start 100 xs zs k2).symm, HT3.out⟩
          case round =>
            obtain ⟨i, F, v2, wb2, hik, hin, rfl, hb, hokF, hglF, hF, ht⟩ := hrel
            have HB := Lib.hid hb
            have HOKF := Lib.hid hokF
            have HGLF := Lib.hid hglF
            have HF := Lib.hid hF
            have HT := Lib.hid ht
            clear hb hokF hglF hF ht HB3 HT3
            by_cases hlt3 : i < n
            · have hI : (i : Int) < (n : Int) := by omega
              obtain ⟨b, off, rfl, hbl, x, ⟨hix, hx⟩, s0, s1, hcx⟩ := HC.out i hlt3
              obtain ⟨g0, g1, g2, g3⟩ := hcx _ HB.out
              clear hcx
              have JA := Lib.hid (Add_any w.heap.size M2 100 v2 wb2 F x wr HT.out.h2.d HT.out.h2.r HOKF.out HT.out.h2.s ⟨s0, s1⟩)
              have HOK3 := Lib.hid (HOKF.out.add x)
              have HGL3 := Lib.hid (HGLF.out.add (by omega : 100 ≤ 5000) x)
              have HF3 : Hid (addL 100 F x = addsL 100 xs ((zs.take (i + 1)).drop k2)) := Lib.hid (by rw [adds_next 100 xs zs hik hix, ← HF.out, hx])
              clear hx
              generalize addL 100 F x = ys at *
              generalize addE 100 F x = r at *
              unfold valE at JA
              generalize x.1 = kx at *
              generalize x.2.1 = vx at *
              generalize x.2.2.1 = dx at *
              generalize x.2.2.2 = qx at *
              go_wp2_with fail
              refine JA.out.mono ?_
              rintro e w3 ⟨rfl, ho⟩
              have HB3 := Lib.hid (HB.out.trans (ho.below hM2b HT.out.h2.r HT.out.h2.s))
              obtain ⟨v3, wb3, ht3⟩ := HT.out.add2 ho
              have HT3 := Lib.hid ht3
              clear ho ht3
              go_wp2_with fail
              go_roundw
              case rel => exact ⟨i + 1, ys, v3, wb3, by omega, by omega, by go_num, HB3.out, HOK3.out, HGL3.out, HF3.out, HT3.out⟩
              case measure => simp [intOf]; omega
            · have hF2 : F = addsL 100 xs (zs.drop k2) := HF.out.trans (adds_end 100 xs zs k2 (by have := HN.out; omega))
              have HF := Lib.hid hF2
              have hF100 : F.length ≤ 100 := HOKF.out.1
              clear hF2 hin
              have hes1 : EsAt wr A1 xs := by
                obtain ⟨A9, c9, hv9, _, _, hes9⟩ := HT.out.h1.r.form
                injection hv9 with hv9; subst hv9; exact hes9
              have JLast := Lib.hid (Last_any HT.out.h1.d (by decide) hes1 (by omega))
              obtain ⟨Af, cf, hvf, -, -, -⟩ := HT.out.h2.r.form
              subst hvf
              have JLf := Lib.hid (fun (w' : World) (h : Bd w' M2 1 100 (.slice Af F.length cf)) => len_any h (by decide) (by omega))
              obtain ⟨⟨lk, lv, ld, lq⟩, hl⟩ : ∃ y, lastE xs = y := ⟨_, rfl⟩
              rw [hl] at JLast
              have HL := Lib.hid hl
              obtain ⟨re, hre⟩ : ∃ re : Int, (if xs = [] then (4 : Int) else 0) = re := ⟨_, rfl⟩
              rw [hre] at JLast
              have HRE := Lib.hid hre
              unfold valE at JLast
              simp only at JLast
              clear hes1 hl hre
              go_wp2_with fail
              refine JLast.out.mono ?_
              rintro e w3 ⟨rfl, hb⟩
              have HB3 := Lib.hid (eb_of HB.out hb (Nat.le_refl _))
              have HT3 := Lib.hid (HT.out.below hb)
              have hbb := alloc_below w3 (.cells #[.string lk, .string lv, .bool ld, .int .i64 lq] 36)
              have RL := Row4.new w3 36 (.string lk) (.string lv) (.bool ld) (.int .i64 lq)
              have HB4 := Lib.hid (eb_of HB3.out hbb (Nat.le_refl _))
              have HT4 := Lib.hid (HT3.out.below hbb)
              have hwbl : ∀ g, wb = some g → g ≠ w3.heap.size := fun g hg => by have := (HT3.out.h1.r.wlt g hg).2; omega
              have hMl : M1 ≠ w3.heap.size ∧ M2 ≠ w3.heap.size := by have := HT3.out.h1.d.lt; have := HT3.out.h2.d.lt; omega
              clear hb hbb JLast HB HT HB3 HT3
              go_wp2_with fail
              generalize w3.alloc (.cells #[.string lk, .string lv, .bool ld, .int .i64 lq] 36) = wx at *
              generalize w3.heap.size = bl at *
              refine (JLf.out _ HT4.out.h2.d).mono ?_
              rintro e w5 ⟨rfl, hb⟩
              have HB5 := Lib.hid (eb_of HB4.out hb (Nat.le_refl _))
              have HT5 := Lib.hid (HT4.out.below hb)
              have RL5 := RL.below hb (Nat.le_refl _)
              clear hb HB4 HT4 RL
              go_wp2_with fail
              refine (JL.out _ HT5.out.h1.d).mono ?_
              rintro e w6 ⟨rfl, hb⟩
              have HB6 := Lib.hid (eb_of HB5.out hb (Nat.le_refl _))
              have HT6 := Lib.hid (HT5.out.below hb)
              have RL6 := RL5.below hb (Nat.le_refl _)
              clear hb HB5 HT5 RL5
              go_wp2_with fail
              go_loopw [15] (fun iv wr => ∃ (i : Nat) (G : List El.En) (v1 : Value) (wb1 : Option Nat), k2 ≤ i ∧ i ≤ n ∧ iv = .int .i64 i ∧ Below w.heap.size w wr ∧ OkL 100 G ∧ GL G ∧ Rel xs (addsL 100 xs ((zs.take i).drop k2)) G ∧ Two w.heap.size M1 M2 100 G F wr v1 wb1 (.slice Af F.length cf) wb2 ∧ Row4 wr bl 36 (.string lk) (.string lv) (.bool ld) (.int .i64 lq) ∧ (∀ g, wb1 = some g → g ≠ bl)) (fun iv _ => n - (intOf iv).toNat)
              case atStart => exact ⟨k2, xs, _, _, Nat.le_refl _, hkn, by rw [hkk], HB6.out, HOK.out, HGL.out, by rw [adds_start]; exact Rel.refl xs, HT6.out, RL6, hwbl⟩
              case round =>
                obtain ⟨i4, G, v1, wb1, hik4, hin4, rfl, hb, hokG, hglG, hrl, ht, hrow, hwb1⟩ := hrel
                have HB := Lib.hid hb
                have HOKG := Lib.hid hokG
                have HGLG := Lib.hid hglG
                have HRL := Lib.hid hrl
                have HT := Lib.hid ht
                clear hb hokG hglG hrl ht HB6 HT6 RL6 hwbl
                by_cases hlt4 : i4 < n
                · have hI : (i4 : Int) < (n : Int) := by omega
                  obtain ⟨b, off, rfl, hbl, ⟨kx, vx, dx, qx⟩, ⟨hix, hx⟩, s0, s1, hcx⟩ := HC.out i4 hlt4
                  have hnx := adds_next 100 xs zs hik4 hix
                  rw [hx] at hnx
                  have HNX := Lib.hid hnx
                  obtain ⟨g0, g1, g2, g3⟩ := hcx _ HB.out
                  simp only at g0 g1 g2 g3 s0 s1
                  clear hcx hnx hx
                  have JC := Lib.hid (fun w' => fCheck_any kx vx dx qx w' s0 s1)
                  have hbo := alloc_below wr (.cells #[.string kx, .string vx, .bool dx, .int .i64 qx] 36)
                  have RO := Row4.new wr 36 (.string kx) (.string vx) (.bool dx) (.int .i64 qx)
                  by_cases hc : El.chk (kx, vx, dx, qx) = 0
                  · rw [hc] at JC
                    have HCE := Lib.hid hc
                    clear hc
                    go_wp2_with fail
                    refine (JC.out _).mono ?_
                    rintro e w7 ⟨rfl, hb⟩
                    have HBo := Lib.hid (show Below wr.heap.size wr w7 from hbo.trans (hb.mono hbo.size))
                    have RO7 := RO.below hb (Nat.le_refl _)
                    have y0 := RO7.c0
                    have y1 := RO7.c1
                    have y2 := RO7.c2
                    have y3 := RO7.c3
                    have z1 := RO7.fz 1
                    have z2 := RO7.fz 2
                    clear hb hbo RO RO7 JC g0 g1 g2 g3
                    cases dx with
                    | true =>
                      have HBw := Lib.hid (show Below wr.heap.size wr ((w7.setCell ⟨wr.heap.size, 2, none⟩ (.bool false)).setCell ⟨wr.heap.size, 1, none⟩ (.string ⟨#[120]⟩)) from (HBo.out.setCell (p := ⟨wr.heap.size, 2, none⟩) (Nat.le_refl _) _).setCell (p := ⟨wr.heap.size, 1, none⟩) (Nat.le_refl _) _)
                      have HTw := Lib.hid (HT.out.below HBw.out)
                      have JA := Lib.hid (Add_any w.heap.size M1 100 v1 wb1 G (kx, ⟨#[120]⟩, false, qx) _ HTw.out.h1.d HTw.out.h1.r HOKG.out HTw.out.h1.s ⟨s0, by show (1 : Nat) ≤ _; omega⟩)
                      have HRL3 := Lib.hid (HRL.out.step (most := 100) HCE.out)
                      rw [← HNX.out] at HRL3
                      have HOK3 := Lib.hid (HOKG.out.add (kx, ⟨#[120]⟩, false, qx))
                      have HGL3 := Lib.hid (HGLG.out.add (by omega : 100 ≤ 5000) (kx, ⟨#[120]⟩, false, qx))
                      have HEX := Lib.hid (addL_ext 100 G (kx, ⟨#[120]⟩, false, qx))
                      have HRL3 : Hid (Rel xs (addsL 100 xs ((zs.take (i4 + 1)).drop k2)) (addL 100 G (kx, ⟨#[120]⟩, false, qx))) := HRL3
                      generalize addL 100 G (kx, ⟨#[120]⟩, false, qx) = ys at *
                      generalize addE 100 G (kx, ⟨#[120]⟩, false, qx) = r at *
                      unfold valE at JA
                      simp only at JA
                      go_wp2_with fail
                      refine JA.out.mono ?_
                      rintro e w8 ⟨rfl, ho⟩
                      have hbx := ho.below hMb HTw.out.h1.r HTw.out.h1.s
                      have HB8 := Lib.hid ((eb_of HB.out HBw.out (Nat.le_refl _)).trans hbx)
                      have hrw := hrow.below HBw.out (Nat.le_refl _)
                      have hrow8 := ho.row hrw hMl.1.symm (fun e => hwb1 bl e rfl)
                      obtain ⟨v1', wb1', ht8, hwb8⟩ := HTw.out.add1 ho HEX.out
                      have HT8 := Lib.hid ht8
                      have hwb9 : ∀ g, wb1' = some g → g ≠ bl := fun g hg => by
                        rcases hwb8 with e | ⟨g2, e, e2⟩
                        · exact hwb1 g (e ▸ hg)
                        · rw [e] at hg; injection hg with hg; have := hrw.lt; omega
                      clear ho ht8 hbx hrw hwb8
                      go_wp2_with fail
                      go_roundw
                      case rel => exact ⟨i4 + 1, ys, v1', wb1', by omega, by omega, by go_num, HB8.out, HOK3.out, HGL3.out, HRL3.out, HT8.out, hrow8, hwb9⟩
                      case measure => simp [intOf]; omega
                    | false =>
                      have HBw := Lib.hid (show Below wr.heap.size wr ((w7.setCell ⟨wr.heap.size, 2, none⟩ (.bool true)).setCell ⟨wr.heap.size, 1, none⟩ (.string ⟨#[]⟩)) from (HBo.out.setCell (p := ⟨wr.heap.size, 2, none⟩) (Nat.le_refl _) _).setCell (p := ⟨wr.heap.size, 1, none⟩) (Nat.le_refl _) _)
                      have HTw := Lib.hid (HT.out.below HBw.out)
                      have JA := Lib.hid (Add_any w.heap.size M1 100 v1 wb1 G (kx, ⟨#[]⟩, true, qx) _ HTw.out.h1.d HTw.out.h1.r HOKG.out HTw.out.h1.s ⟨s0, by show (0 : Nat) ≤ _; omega⟩)
                      have HRL3 := Lib.hid (HRL.out.step (most := 100) HCE.out)
                      rw [← HNX.out] at HRL3
                      have HOK3 := Lib.hid (HOKG.out.add (kx, ⟨#[]⟩, true, qx))
                      have HGL3 := Lib.hid (HGLG.out.add (by omega : 100 ≤ 5000) (kx, ⟨#[]⟩, true, qx))
                      have HEX := Lib.hid (addL_ext 100 G (kx, ⟨#[]⟩, true, qx))
                      have HRL3 : Hid (Rel xs (addsL 100 xs ((zs.take (i4 + 1)).drop k2)) (addL 100 G (kx, ⟨#[]⟩, true, qx))) := HRL3
                      generalize addL 100 G (kx, ⟨#[]⟩, true, qx) = ys at *
                      generalize addE 100 G (kx, ⟨#[]⟩, true, qx) = r at *
                      unfold valE at JA
                      simp only at JA
                      go_wp2_with fail
                      refine JA.out.mono ?_
                      rintro e w8 ⟨rfl, ho⟩
                      have hbx := ho.below hMb HTw.out.h1.r HTw.out.h1.s
                      have HB8 := Lib.hid ((eb_of HB.out HBw.out (Nat.le_refl _)).trans hbx)
                      have hrw := hrow.below HBw.out (Nat.le_refl _)
                      have hrow8 := ho.row hrw hMl.1.symm (fun e => hwb1 bl e rfl)
                      obtain ⟨v1', wb1', ht8, hwb8⟩ := HTw.out.add1 ho HEX.out
                      have HT8 := Lib.hid ht8
                      have hwb9 : ∀ g, wb1' = some g → g ≠ bl := fun g hg => by
                        rcases hwb8 with e | ⟨g2, e, e2⟩
                        · exact hwb1 g (e ▸ hg)
                        · rw [e] at hg; injection hg with hg; have := hrw.lt; omega
                      clear ho ht8 hbx hrw hwb8
                      go_wp2_with fail
                      go_roundw
                      case rel => exact ⟨i4 + 1, ys, v1', wb1', by omega, by omega, by go_num, HB8.out, HOK3.out, HGL3.out, HRL3.out, HT8.out, hrow8, hwb9⟩
                      case measure => simp [intOf]; omega
                  · have HNX2 : Hid (addsL 100 xs ((zs.take (i4 + 1)).drop k2) = addsL 100 xs ((zs.take i4).drop k2)) := Lib.hid (HNX.out.trans (addL_bad hc))
                    obtain ⟨b1, b2⟩ := ne_b hc
                    obtain ⟨r, hr⟩ : ∃ r, El.chk (kx, vx, dx, qx) = r := ⟨_, rfl⟩
                    rw [hr] at JC b1 b2
                    clear hc hr HNX
                    go_wp2_with fail
                    refine (JC.out _).mono ?_
                    rintro e w7 ⟨rfl, hb⟩
                    have HBo := Lib.hid (show Below wr.heap.size wr w7 from hbo.trans (hb.mono hbo.size))
                    clear hb hbo RO JC g0 g1 g2 g3
                    go_wp2_with fail
                    go_roundw
                    case rel => exact ⟨i4 + 1, G, v1, wb1, by omega, by omega, by go_num, eb_of HB.out HBo.out (Nat.le_refl _), HOKG.out, HGLG.out, by rw [HNX2.out]; exact HRL.out, HT.out.below HBo.out, hrow.below HBo.out (Nat.le_refl _), hwb1⟩
                    case measure => simp [intOf]; omega
                · have hrl2 : Rel xs F G := by
                    have h := HRL.out
                    rw [adds_end 100 xs zs k2 (by have := HN.out; omega), ← HF.out] at h
                    exact h
                  have HRL := Lib.hid hrl2
                  obtain ⟨tf1, tf2, tf3⟩ := of3 HGLF.out
                  obtain ⟨tg1, tg2, tg3⟩ := of3 HGLG.out
                  have hiff := hrl2.nil
                  have tg2 : ofId 3 G = ofId 3 F := by rw [tg2, tf2]; simp only [hiff]
                  have tg3 : ofE 3 G = ofE 3 F := by rw [tg3, tf3]; simp only [hiff]
                  have hlenG : G.length = F.length := hrl2.len.symm
                  have hwas : xs.length ≤ F.length := hrl2.le
                  have JSf := Lib.hid (Seal_any w.heap.size M2 100 (.slice Af F.length cf) wb2 F 3 wr HT.out.h2.d HT.out.h2.r HOKF.out HT.out.h2.off HOKF.out.sized (by omega))
                  have JSb := Lib.hid (fun (w' : World) (h : Hold w.heap.size M1 100 1 G w' v1 wb1) => Seal_any w.heap.size M1 100 v1 wb1 G 3 w' h.d h.r HOKG.out h.off HOKG.out.sized (by omega))
                  unfold SealOut runV at JSf JSb
                  rw [tf1] at JSf
                  rw [tg1, tg2, tg3, hlenG] at JSb
                  have HLG := Lib.hid hlenG
                  obtain ⟨st2, hst2, hst20⟩ : ∃ st2 : Int, (if ofE 3 F = 0 then (2 : Int) else 1) = st2 ∧ st2 ≠ 0 := ⟨_, rfl, by split <;> decide⟩
                  rw [hst2] at JSf
                  clear tf1 tf2 tf3 tg1 tg2 tg3 hiff hrl2 hlenG hst2
                  generalize ofE 3 F = r3 at *
                  generalize ofId 3 F = rid at *
                  go_wp2_with fail
                  refine JSf.out.mono ?_
                  rintro e w7 ⟨Ar, cr, rfl, her, hfr, -, hdf, -, hch⟩
                  have hb7 : Below w.heap.size wr w7 := hch.below (fun k hk => by omega) HB.out.size
                  have HB7 := Lib.hid (HB.out.trans hb7)
                  have hM1l : M1 < wr.heap.size := HT.out.h1.d.lt
                  have hh1 : Hold w.heap.size M1 100 1 G w7 v1 wb1 := ⟨HT.out.h1.d.chg hch (fun e => hMne e), HT.out.h1.r.chg hch (fun A n c e e2 => HT.out.h1.r.notM HT.out.h2.d n c A e e2), hMb, HB7.out.size⟩
                  have hrw7 : Row4 w7 bl 36 (.string lk) (.string lv) (.bool ld) (.int .i64 lq) := (hch.block bl hrow.lt (fun e => hMl.2 e.symm)).trans hrow
                  have hbb := alloc_below w7 (.cells #[.int .i64 rid, .slice Ar F.length cr] 43)
                  have RR := Row2.new w7 43 (.int .i64 rid) (.slice Ar F.length cr)
                  have HER := Lib.hid (her.below hbb (Nat.le_refl _))
                  have HDF := Lib.hid (hdf.below hbb)
                  have HH1 := Lib.hid (hh1.below hbb)
                  have RL8 := hrw7.below hbb (Nat.le_refl _)
                  have HB8 := Lib.hid (HB7.out.trans (hbb.mono HB7.out.size))
                  have hArM : ∀ a, Ar = some a → ¬ a.block = M1 := fun a h => by have := hfr a h; omega
                  have hM1s := hh1.d.lt
                  have hRM : w7.heap.size ≠ M1 := by omega
                  clear JSf her hfr hdf hch hb7 hh1 hrw7 hbb hM1l hM1s HB HT hrow hwb1 HB7
                  go_wp2_with fail
                  generalize w7.alloc (.cells #[.int .i64 rid, .slice Ar F.length cr] 43) = wy at *
                  generalize w7.heap.size = bR at *
                  refine (JSb.out _ HH1.out).mono ?_
                  rintro e w8 ⟨As, cs, rfl, hes, hfs, -, hdb, -, hch⟩
                  have hb8 : Below w.heap.size wy w8 := hch.below (fun k hk => by omega) HB8.out.size
                  have HB9 := Lib.hid (HB8.out.trans hb8)
                  have hbb := alloc_below w8 (.cells #[.int .i64 rid, .slice As F.length cs] 43)
                  have RS := Row2.new w8 43 (.int .i64 rid) (.slice As F.length cs)
                  have RR9 := (RR.chg hch hRM).below hbb (Nat.le_refl _)
                  have RL9 : Row4 w8 bl 36 (.string lk) (.string lv) (.bool ld) (.int .i64 lq) := (hch.block bl RL8.lt (fun e => hMl.1 e.symm)).trans RL8
                  have RL9 := RL9.below hbb (Nat.le_refl _)
                  have HER := Lib.hid ((hch.es HER.out hArM).below hbb (Nat.le_refl _))
                  have HES := Lib.hid (hes.below hbb (Nat.le_refl _))
                  have HDF := Lib.hid ((HDF.out.chg hch (fun e => hMne e.symm)).below hbb)
                  have HB10 := Lib.hid (HB9.out.trans (hbb.mono HB9.out.size))
                  clear JSb hes hfs hdb hch hb8 hbb RR RL8 HH1 HB8 HB9
                  have JLf2 := Lib.hid (fun (w' : World) (h : Bd w' M2 st2 100 (.slice Af F.length cf)) => len_any h hst20 (by omega))
                  have p1 := RR9.c1
                  have p2 := RS.c1
                  go_wp2_with fail
                  generalize w8.alloc (.cells #[.int .i64 rid, .slice As F.length cs] 43) = wz at *
                  generalize w8.heap.size = bS at *
                  refine (JLf2.out _ HDF.out).mono ?_
                  rintro e w9 ⟨rfl, hb⟩
                  have HB11 := Lib.hid (eb_of HB10.out hb (Nat.le_refl _))
                  have HER := Lib.hid (HER.out.below hb (Nat.le_refl _))
                  have HES := Lib.hid (HES.out.below hb (Nat.le_refl _))
                  have RR := RR9.below hb (Nat.le_refl _)
                  have RS := RS.below hb (Nat.le_refl _)
                  have RL := RL9.below hb (Nat.le_refl _)
                  clear hb RR9 RL9 p1 p2 HB10 HDF JLf2 JLf JL
                  have p1 := RR.c1
                  have p2 := RS.c1
                  go_wp2_with fail
                  clear p1 p2
                  have HRR := Lib.hid RR
                  have HRS := Lib.hid RS
                  have HRLx := Lib.hid RL
                  clear RR RS RL
                  go_loopw [21] (fun iv wr => ∃ j : Nat, j ≤ F.length ∧ iv = .int .i64 j ∧ Below w9.heap.size w9 wr) (fun iv _ => F.length - (intOf iv).toNat)
                  case atStart => exact ⟨0, by omega, rfl, Below.refl _ _⟩
                  case round =>
                    obtain ⟨j, hj, rfl, hb⟩ := hrel
                    have HB := Lib.hid hb
                    clear hb
                    have RR := HRR.out.below HB.out (Nat.le_refl _)
                    have RS := HRS.out.below HB.out (Nat.le_refl _)
                    have p0 := RR.c1
                    have q0 := RS.c1
                    clear RR RS
                    by_cases hjl : j < F.length
                    · have hjg : j < G.length := by rw [HLG.out]; exact hjl
                      have hI : (j : Int) < (F.length : Int) := by omega
                      rcases HER.out.below HB.out (Nat.le_refl _) with h0 | ⟨b1, o1, rfl, hbl1, hc1⟩
                      · rw [h0] at hjl; simp at hjl
                      rcases HES.out.below HB.out (Nat.le_refl _) with h0 | ⟨b2, o2, rfl, hbl2, hc2⟩
                      · rw [h0] at hjg; simp at hjg
                      obtain ⟨g0, g1, g2, g3⟩ := hc1 j hjl
                      obtain ⟨k0, k1, k2', k3⟩ := hc2 j hjg
                      have hkey := HRL.out.key hjl hjg
                      rw [← hkey] at k0
                      by_cases hjw : j < xs.length
                      · have heq := (HRL.out.eq hjl hjg).2 hjw
                        rw [← heq] at k1 k2' k3
                        have hJ : decide ((j : Int) < (xs.length : Int)) = true := by rw [decide_eq_true_eq]; omega
                        clear hc1 hc2 hkey heq
                        go_wp2_with fail
                        go_quiet (fail)
                        go_wp2_with fail
                        go_roundw
                        case rel => exact ⟨j + 1, by omega, by go_num, HB.out.trans ((below_drewN' _).mono HB.out.size)⟩
                        case measure => simp [intOf]; omega
                      · have hdd := HRL.out.dead hjl hjg hjw
                        have hJ : decide ((j : Int) < (xs.length : Int)) = false := by rw [decide_eq_false_iff_not]; omega
                        have hJ2 : decide (j < xs.length) = false := by rw [decide_eq_false_iff_not]; omega
                        rw [hdd] at k2'
                        obtain ⟨fd, hfd⟩ : ∃ fd, F[j].2.2.1 = fd := ⟨_, rfl⟩
                        rw [hfd] at g2 k2'
                        clear hc1 hc2 hkey hdd hfd
                        by_cases hv : F[j].2.1 = G[j].2.1
                        · rw [← hv] at k1
                          clear hv
                          cases fd
                          all_goals
                            simp only [Bool.not_true, Bool.not_false] at k2'
                            go_wp2_with fail
                            go_quiet (fail)
                            go_wp2_with fail
                            go_roundw
                            case rel => exact ⟨j + 1, by omega, by go_num, HB.out.trans ((below_drewN' _).mono HB.out.size)⟩
                            case measure => simp [intOf]; omega
                        · have e3 := str_beq_ne hv
                          clear hv
                          cases fd
                          all_goals
                            simp only [Bool.not_true, Bool.not_false] at k2'
                            go_wp2_with fail
                            go_quiet (fail)
                            go_wp2_with fail
                            go_roundw
                            case rel => exact ⟨j + 1, by omega, by go_num, HB.out.trans ((below_drewN' _).mono HB.out.size)⟩
                            case measure => simp [intOf]; omega
                    · have HBF := Lib.hid (eb_of HB11.out HB.out (Nat.le_refl _))
                      by_cases hx0 : xs = []
                      · have hre0 : re = 4 := by rw [← HRE.out, if_pos hx0]
                        subst hre0
                        go_wp2_with fail
                        refine wp_region_abv (by first | assumption | kernel_rfl) (by kernel_rfl) ?_
                        repeat (first | go_big_quiet_step (exact callAbv (JW.out _)) | quiet_step (exact callAbv (JW.out _)))
                        refine wpQuiet_nil ?_
                        intro w10 hw10
                        obtain ⟨p, rfl⟩ := hw10
                        go_wp2_with fail
                        go_ret
                        exact ⟨rfl, eb_of HBF.out p.h (Nat.le_refl _)⟩
                      · have hre0 : re = 0 := by rw [← HRE.out, if_neg hx0]
                        subst hre0
                        obtain ⟨q, hq⟩ : ∃ q, xs.length = q + 1 := ⟨xs.length - 1, by have := List.length_pos_iff.2 hx0; omega⟩
                        have hqF : q < F.length := by omega
                        have hlast : F[q] = (lk, lv, ld, lq) := by
                          obtain ⟨R, hR, _⟩ := HRL.out
                          have hqx : q < xs.length := by omega
                          have := lastE_succ hq
                          rw [HL.out] at this
                          rw [this]
                          simp only [hR]
                          rw [List.getElem_append_left hqx]
                        rcases HER.out.below HB.out (Nat.le_refl _) with h0 | ⟨b1, o1, rfl, hbl1, hc1⟩
                        · rw [h0] at hqF; simp at hqF
                        obtain ⟨g0, g1, g2, g3⟩ := hc1 q hqF
                        rw [hlast] at g0 g1 g2 g3
                        simp only at g0 g1 g2 g3
                        have RLx := HRLx.out.below HB.out (Nat.le_refl _)
                        have s0 := abv_c RLx.c0
                        have s1 := abv_c RLx.c1
                        have s2 := abv_c RLx.c2
                        have s3 := abv_c RLx.c3
                        have g0 := abv_c g0
                        have g1 := abv_c g1
                        have g2 := abv_c g2
                        have g3 := abv_c g3
                        have p1 := abv_c p0
                        have hwp : IntKind.i64.wrap (((q + 1 : Nat) : Int) - 1) = (q : Int) := by rw [IntKind.wrap_i64]; omega
                        have hwp2 : IntKind.i64.wrap (q : Int) = (q : Int) := by rw [IntKind.wrap_i64]; omega
                        have hIq : (q : Int) < (F.length : Int) := by omega
                        have hp : decide ((0 : Int) < (q : Int) + 1) = true := by rw [decide_eq_true_eq]; omega
                        have hp2 : decide (0 < q + 1) = true := by rw [decide_eq_true_eq]; omega
                        rw [hq]
                        clear hc1 hlast hq hwas hx0
                        go_wp2_with fail
                        refine wp_region_abv (by first | assumption | kernel_rfl) (by kernel_rfl) ?_
                        repeat (first | go_big_quiet_step (exact callAbv (JW.out _)) | quiet_step (exact callAbv (JW.out _)))
                        refine wpQuiet_nil ?_
                        intro w10 hw10
                        obtain ⟨p, rfl⟩ := hw10
                        go_wp2_with fail
                        go_ret
                        exact ⟨rfl, eb_of HBF.out p.h (Nat.le_refl _)⟩
end Go.Proofs.Ytkphadkmmjcmnaa.KK
