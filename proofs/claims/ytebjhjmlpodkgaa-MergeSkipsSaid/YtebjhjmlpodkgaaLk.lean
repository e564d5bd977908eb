/-
  Trees of losers: Replace, when the key can be taken.
-/
import Derived.Test.YtebjhjmlpodkgaaLj
namespace Go.Proofs.Ytebjhjmlpodkgaa.KK
open Go.ChangeShapes Go.WideShapes Go.ChangeAt Go.RowKit Go.Proofs

theorem kAt_set {ks : List LK} {p q : Nat} {k : LK} (h : q ≠ p) : kAt (ks.set p k) q = kAt ks q := by
  simp only [kAt, List.getD_eq_getElem?_getD]; rw [List.getElem?_set_ne (Ne.symm h)]
theorem kAt_set_self {ks : List LK} {p : Nat} {k : LK} (h : p < ks.length) : kAt (ks.set p k) p = k := by simp [kAt, h]
theorem wn_set {ks : List LK} {p : Nat} {k : LK} : ∀ a b, a ≠ p → b ≠ p → wn (ks.set p k) a b = wn ks a b := fun a b ha hb => by
  unfold wn cf; rw [kAt_set ha, kAt_set hb]
theorem keysV_set : ∀ (ks : List LK) (p : Nat) (k : LK), p < ks.length → ((keysV ks).set (p * 2) (.string k.1)).set (p * 2 + 1) (.bool k.2) = keysV (ks.set p k)
  | x :: ks, 0, k, _ => by simp [keysV]
  | x :: ks, p + 1, k, h => by
    have ih := keysV_set ks p k (by simpa using h)
    have e : keysV (x :: ks) = .string x.1 :: .bool x.2 :: keysV ks := by simp [keysV]
    rw [e, show (p + 1) * 2 = p * 2 + 1 + 1 by omega, List.set_cons_succ, List.set_cons_succ, List.set_cons_succ, List.set_cons_succ, ih]
    simp [keysV]
theorem CR.key {w : World} {b p : Nat} {ks : List LK} (h : CR w b (keysV ks)) (hp : p < ks.length) (k : ByteArray) (d : Bool) : CR ((w.setCell ⟨b, p * 2, none⟩ (.string k)).setCell ⟨b, p * 2 + 1, none⟩ (.bool d)) b (keysV (ks.set p (k, d))) := by
  rw [← keysV_set ks p (k, d) hp]
  exact (h.set (by rw [keysV_len]; omega) _).set (by rw [List.length_set, keysV_len]; omega) _
theorem keyAll_set {ks : List LK} {p : Nat} {k : LK} (h : keysE ks = 0) (hk : keyE k = 0) : keysE (ks.set p k) = 0 := by
  obtain ⟨h1, h2, h3⟩ := keysE_ok h
  unfold keysE
  rw [if_neg (by rw [List.length_set]; omega), if_neg (by rw [List.length_set]; omega)]
  have : ∀ xs : List LK, (∀ x ∈ xs, keyE x = 0) → firstK xs = 0 := by
    intro xs
    induction xs with
    | nil => intro _; rfl
    | cons x t ih => intro h; rw [firstK, if_pos (h x (by simp))]; exact ih (fun y hy => h y (by simp [hy]))
  refine this _ fun x hx => ?_
  rcases List.mem_or_eq_of_mem_set hx with g | g
  · exact h3 x g
  · rw [g]; exact hk
theorem repE_ok {ks : List LK} {k : LK} (h : repE ks k = 0) : (kAt ks (wnr ks)).2 = false ∧ keyE k = 0 ∧ (k.2 = false → Kl.lt (Kl.L k.1) (Kl.L (kAt ks (wnr ks)).1) = false) := by
  unfold repE at h
  split at h
  · cases h
  · rename_i h1
    split at h
    · rename_i h2; exact absurd h h2
    · rename_i h2
      split at h
      · cases h
      · rename_i h3
        exact ⟨by simpa using h1, Decidable.not_not.1 h2, fun hd => by
          cases hl : Kl.lt (Kl.L k.1) (Kl.L (kAt ks (wnr ks)).1) with
          | false => rfl
          | true => exact absurd ⟨hd, hl⟩ h3⟩
theorem Row_in {ks : List LK} {n : Nat} (h : ks.length = n) : ∀ x ∈ loL ks, -1 ≤ x ∧ x < n := by
  subst h
  exact st_in (W := wn ks) (n := ks.length) (p := ks.length) ⟨(loL_row ks).len, (loL_row ks).zero, fun i a b => by rw [(loL_row ks).all i a b, Lo.st_full]⟩
set_option maxRecDepth 100000 in
set_option maxHeartbeats 4000000 in
theorem replace_ok (A B : Option Addr) (c d : Nat) (ks : List LK) (k : ByteArray) (b : Bool) (w : World) (hf : KsAt w A ks) (hg : IsAt w B (loL ks)) (h : keysE ks = 0) (hr : repE ks (k, b) = 0) :
    Calls Try.prog 100 #[.agg #[.slice A ks.length c, .slice B ks.length d, .int .i64 (wnr ks : Nat)], .agg #[.string k, .bool b]] w fun e w' => ∃ kb lb cp cl,
      e = .returned (.tuple #[.agg #[.slice (some ⟨kb, 0, none⟩) ks.length cp, .slice (some ⟨lb, 0, none⟩) ks.length cl, .int .i64 (wnr (ks.set (wnr ks) (k, b)) : Nat)], .int .i64 (Lo.gm ((ks.length + wnr ks) / 2) : Nat), .int .i64 0]) ∧
      Tree w w' kb lb (ks.set (wnr ks) (k, b)) (loL (ks.set (wnr ks) (k, b))) := by
  obtain ⟨hd, hk, hl⟩ := repE_ok hr
  obtain ⟨h1, h32, _⟩ := keysE_ok h
  have hp := wnr_lt h
  have HX := boxes A B ks.length c ks.length d (wnr ks) k b w
  obtain ⟨x0, x1, x2, x3, x4⟩ := HX.out _ (Below.refl _ _)
  have J := Lib.hid (by
    have K := winner_any A B c d ks _ (hf.below x4 (Nat.le_refl _)) (hg.below x4 (Nat.le_refl _)) h
    rw [if_neg (by simp [hd])] at K; exact K)
  have JK := Lib.hid (fun w => by have K := pKey_any k b w; rw [hk] at K; exact K)
  have hne : ks ≠ [] := fun e => by subst e; simp at h1
  have hnl : loL ks ≠ [] := fun e => by have := loL_len ks; rw [e] at this; simp at this; omega
  have JA := Lib.hid (fun w' (hb : Below w.heap.size w w') => cloneK_any A c ks w' (hf.below hb (Nat.le_refl _)) hne (by omega))
  have JB := Lib.hid (fun w' (hb : Below w.heap.size w w') => by
    have K := cloneI_any B d (loL ks) w' (hg.below hb (Nat.le_refl _)) hnl (by rw [loL_len]; omega)
    rw [loL_len] at K; exact K)
  have HRW := Lib.hid (loL_row ks)
  have HFIN := Lib.hid (Lo.climb_again' (wn_tot (ks.set (wnr ks) (k, b))) hp (wn_set (ks := ks) (k := (k, b))) rfl (loL_row ks) 0)
  have hless : b = true ∨ (b = false ∧ Op.bytesLess k.toList (kAt ks (wnr ks)).1.toList = false) := by
    cases b with
    | true => exact .inl rfl
    | false => exact .inr ⟨rfl, by rw [less_L]; exact hl rfl⟩
  clear hf hg h hr hd hk hl hne hnl x0 x1 x2 x3 x4
  obtain ⟨nn, hnn⟩ : ∃ nn, ks.length = nn := ⟨_, rfl⟩
  have HNN := Lib.hid hnn
  have HPN : Hid (wnr ks < ks.length ∧ ks.length ≤ 32) := Lib.hid ⟨hp, h32⟩
  have HPP : Hid (wnr ks = wnr ks) := Lib.hid rfl
  generalize kAt ks (wnr ks) = q at *
  obtain ⟨p, hpp⟩ : ∃ p, wnr ks = p := ⟨_, rfl⟩
  have HP := Lib.hid hpp
  rw [hpp, hnn] at J HX
  rw [hnn] at JA JB
  rw [hpp, hnn] at HFIN
  rw [hpp, hnn]
  rw [hpp, hnn] at hp
  rw [hnn] at h1 h32
  have hpz : (p : Int) < (nn : Int) := by omega
  have HWV : Hid (wnr (ks.set p (k, b)) = Lo.pl (wn (ks.set p (k, b))) nn 1) := Lib.hid (by unfold wnr; rw [List.length_set, HNN.out])
  have HLV : Hid (Lo.Row nn (fun i => (Lo.lo (wn (ks.set p (k, b))) nn i : Int)) (loL (ks.set p (k, b)))) := Lib.hid (by have := loL_row (ks.set p (k, b)); rwa [List.length_set, HNN.out] at this)
  rw [← HWV.out] at HFIN
  clear HWV
  rw [Nat.zero_add] at HFIN
  generalize Lo.gm ((nn + p) / 2) = gg at *
  generalize wnr (ks.set p (k, b)) = wv at *
  generalize loL (ks.set p (k, b)) = LV at *
  clear hnn hpp HPN HPP HRW
  go_enter Try.func100, Try.ntmps100
  go_wp2_with fail
  refine J.out.mono ?_
  rintro e w1 ⟨rfl, hb⟩
  obtain ⟨x0, x1, x2, x3, x4⟩ := HX.out _ hb
  have HB1 := Lib.hid x4
  have HR := Lib.hid x3
  have HR0 := Lib.hid x0
  clear hb x0 x3 x4
  go_wp2_with fail
  refine (JK.out _).mono ?_
  rintro e w2 ⟨rfl, hb⟩
  have HB2 := Lib.hid (eb_of HB1.out hb (Nat.le_refl _))
  have HR2 := Lib.hid (HR.out.below hb (Nat.le_refl _))
  have HR3 := Lib.hid (HR0.out.below hb (Nat.le_refl _))
  have x1 := (hb.cell (p := ⟨w.heap.size + 1, 0, none⟩) (cell_lt x1)).trans x1
  have x2 := (hb.cell (p := ⟨w.heap.size + 1, 1, none⟩) (cell_lt x2)).trans x2
  clear hb HR HR0
  have HFF := Lib.hid (Below.refl w2.heap.size w2)
  have t0 := HR3.out.c0
  have t1 := HR3.out.c1
  have r0 := HR2.out.c0
  have r1 := HR2.out.c1
  have r2 := HR2.out.c2
  have z0 := HR2.out.fz 0
  have z1 := HR2.out.fz 1
  have z2 := HR2.out.fz 2
  have hlt := HR2.out.lt
  have hle := HB2.out.size
  have HKP : Hid (∀ w', Chg (fun k => k = w.heap.size + 1 + 1) w2 w' → Chg (fun k => k = w.heap.size + 1 + 1) w2 w' ∧ w'.cell? ⟨w.heap.size, 0, none⟩ = some (.slice A nn c) ∧ w'.cell? ⟨w.heap.size, 1, none⟩ = some (.slice B nn d)) := Lib.hid (fun w' h => ⟨h, h.cell t0 (by omega), h.cell t1 (by omega)⟩)
  rcases hless with rfl | ⟨rfl, hless⟩
  all_goals
    go_wp2_with fail
    go_region_held3 (fun w' => Chg (fun k => k = w.heap.size + 1 + 1) w2 w' ∧ w'.cell? ⟨w.heap.size, 0, none⟩ = some (.slice A nn c) ∧ w'.cell? ⟨w.heap.size, 1, none⟩ = some (.slice B nn d))
      (first
        | (exact HKP.out _ (Chg.of_below (by assumption)))
        | (exact HKP.out _ (Chg.of_below HFF.out))
        | (exact HKP.out _ (Chg.of_below (below_drewN' 1)))
        | (exact HKP.out _ ((Chg.of_below (by assumption)).trans (((chg_set (w.heap.size + 1 + 1) 0 _).trans (chg_set (w.heap.size + 1 + 1) 1 _)).trans (chg_set (w.heap.size + 1 + 1) 2 _)))))
      (first
        | (go_at_call 75; refine (JA.out _ (eb_of HB2.out (by first | assumption | exact HFF.out | exact below_drewN' 1) (Nat.le_refl _))).mono ?_; rintro e w5 ⟨kb, cp, rfl, hgk, hck, hb5⟩; have hb7 : Below w2.heap.size w2 w5 := eb_of (by first | assumption | exact HFF.out | exact below_drewN' 1) hb5 (Nat.le_refl _); have HCK := Lib.hid hck; have HGK := Lib.hid hgk; have HB5 := Lib.hid hb5; obtain ⟨hcc, hff⟩ := bcell hb7; clear hck hgk hb5)
        | (go_at_call 74; refine (JB.out _ (eb_of HB2.out (by first | assumption | exact HFF.out | exact below_drewN' 1) (Nat.le_refl _))).mono ?_; rintro e w6 ⟨lb, cl, rfl, hgl, hcl, hb6⟩; have hb8 : Below w2.heap.size w2 w6 := eb_of (by first | assumption | exact HFF.out | exact below_drewN' 1) hb6 (Nat.le_refl _); have HCL := Lib.hid hcl; have HGL := Lib.hid hgl; have HB6 := Lib.hid hb6; obtain ⟨hcc, hff⟩ := bcell hb8; clear hcl hgl hb6))
    all_goals
      have hgl := HGL.out
      have hgk := HGK.out
      have hckl := HCK.out.lt
      have HC6 := Lib.hid (HCK.out.below HB6.out hckl)
      have HCL6 := HCL
      have HE0 : Hid (kb ≠ lb ∧ w.heap.size + 1 + 1 < kb ∧ w.heap.size + 1 + 1 < lb) := Lib.hid (by have h5 := HB5.out.size; have hd : w2.drew.heap.size = w2.heap.size := rfl; exact ⟨by omega, by omega, by omega⟩)
      have HR6 := Lib.hid (HR2.out.below hb8 (Nat.le_refl _))
      have c3 : Chg (fun k => k = w.heap.size + 1 + 1) w6 _ := ((chg_set (w.heap.size + 1 + 1) 0 (.slice (some ⟨kb, 0, none⟩) nn cp)).trans (chg_set (w.heap.size + 1 + 1) 1 (.slice (some ⟨lb, 0, none⟩) nn cl))).trans (chg_set (w.heap.size + 1 + 1) 2 (.int .i64 0))
      obtain ⟨wf, hwf⟩ : ∃ wf, wf = ((w6.setCell ⟨w.heap.size + 1 + 1, 0, none⟩ (.slice (some ⟨kb, 0, none⟩) nn cp)).setCell ⟨w.heap.size + 1 + 1, 1, none⟩ (.slice (some ⟨lb, 0, none⟩) nn cl)).setCell ⟨w.heap.size + 1 + 1, 2, none⟩ (.int .i64 0) := ⟨_, rfl⟩
      rw [← hwf] at c3
      have HRF : Hid (Row3 wf (w.heap.size + 1 + 1) 28 (.slice (some ⟨kb, 0, none⟩) nn cp) (.slice (some ⟨lb, 0, none⟩) nn cl) (.int .i64 0)) := Lib.hid (hwf ▸ HR6.out.set _ _ _)
      have HCF := Lib.hid (HC6.out.chg c3 (by have := HE0.out; omega))
      have HLF := Lib.hid (HCL6.out.chg c3 (by have := HE0.out; omega))
      have HBF : Hid (Below w.heap.size w wf) := Lib.hid ((eb_of HB2.out hb8 (Nat.le_refl _)).trans (c3.below (fun k hk => by omega) (by have := hb8.size; omega)))
      have y1 := c3.cell ((hb8.cell (p := ⟨w.heap.size + 1, 0, none⟩) (cell_lt x1)).trans x1) (by omega)
      have y2 := c3.cell ((hb8.cell (p := ⟨w.heap.size + 1, 1, none⟩) (cell_lt x2)).trans x2) (by omega)
      rw [← hwf]
      clear hwf c3 HR6 HCL6 HC6 HCL HCK HB5 HB6 HGK HGL hgl hgk hckl hcc hff hb7 hb8 x1 x2 t0 t1 r0 r1 r2 z0 z1 z2 HKP HFF HR2 HR3 hlt
      have s0 := HRF.out.c0
      have s1 := HRF.out.c1
      have hk0 : p < ks.length := by have := HNN.out; omega
      have e0 := HCF.out.cell (p * 2) (by rw [keysV_len]; omega)
      have e1 := HCF.out.cell (p * 2 + 1) (by rw [keysV_len]; omega)
      have f0 := HCF.out.frz (p * 2) (by rw [keysV_len]; omega)
      have f1 := HCF.out.frz (p * 2 + 1) (by rw [keysV_len]; omega)
      go_wp2_with fail
      have hch := fun (u v : Value) => ((chg_set (w := wf) kb (p * 2) u).trans (chg_set (w := wf.setCell ⟨kb, p * 2, none⟩ u) kb (p * 2 + 1) v))
      have hrow := Row_in (ks := ks) HNN.out
      refine (climb_any (w.heap.size + 1 + 1) lb (some ⟨kb, 0, none⟩) cp cl (ks.set p (k, _)) nn (by rw [List.length_set]; exact HNN.out) (loL ks) p 0 _ (HRF.out.chg (hch _ _) (by have := HE0.out; omega)) (HLF.out.chg (hch _ _) (by have := HE0.out; omega)) (by rw [loL_len]; exact HNN.out) hrow (HCF.out.key hk0 k _).ks (fun a ha => by obtain rfl := Option.some.inj ha; exact ⟨by have := HE0.out; show kb ≠ _; omega, HE0.out.1⟩) (by have := HE0.out; omega) hp (by omega)).mono ?_
      rintro e w3 ⟨R, hRR, rfl, hl3, ht3, hc3⟩
      obtain ⟨L', hE, hrw, _⟩ := HFIN.out
      rw [hE] at hRR
      subst hRR
      have HT3 := Lib.hid ht3
      have HL3 := Lib.hid hl3
      have HRW3 := Lib.hid hrw
      have HC3 := Lib.hid ((HCF.out.key hk0 k _).chg hc3 (by have := HE0.out; omega))
      have HB3 := Lib.hid (HBF.out.trans (((hch _ _).below (B := w.heap.size) (fun k hk => by have := HE0.out; omega) HBF.out.size).trans (hc3.below (fun k hk => by have := HE0.out; omega) (by have := HBF.out.size; simpa [World.setCell] using this))))
      clear hl3 ht3 hc3 hrw hch hrow hE e0 e1 f0 f1 s0 s1 y1 y2
      have s0 := HT3.out.c0
      have s1 := HT3.out.c1
      have s2 := HT3.out.c2
      have z0 := HT3.out.fz 0
      have z1 := HT3.out.fz 1
      have z2 := HT3.out.fz 2
      simp only [oW] at s2
      have HL4 : Hid (CR w3 lb (intsV LV)) := Lib.hid (by have := HL3.out; rw [show L' = LV from Row_eq HRW3.out HLV.out] at this; exact this)
      have HT4 : Hid (Row3 w3 (w.heap.size + 1 + 1) 28 (.slice (some ⟨kb, 0, none⟩) nn cp) (.slice (some ⟨lb, 0, none⟩) nn cl) (.int .i64 (wv : Int))) := HT3
      clear HT3 HL3 HRW3 HLV HFIN
      dsimp only
      go_wp2_with fail
      have HX := HT4.out.set (.slice (some ⟨kb, 0, none⟩) nn cp) (.slice (some ⟨lb, 0, none⟩) nn cl) (.int .i64 (wv : Int))
      have k0 := HX.c0
      have k1 := HX.c1
      have k2 := HX.c2
      refine bodyPost_ret (v := .tuple #[.agg #[.slice (some ⟨kb, 0, none⟩) nn cp, .slice (some ⟨lb, 0, none⟩) nn cl, .int .i64 (wv : Int)], .int .i64 (gg : Int), .int .i64 0]) (by simp [results, Try.f100, go_sem, k0, k1, k2]) rfl ?_
      have hc : Chg (fun k => k = w.heap.size + 1 + 1) w3 _ := ((chg_set (w.heap.size + 1 + 1) 0 (.slice (some ⟨kb, 0, none⟩) nn cp)).trans (chg_set (w.heap.size + 1 + 1) 1 (.slice (some ⟨lb, 0, none⟩) nn cl))).trans (chg_set (w.heap.size + 1 + 1) 2 (.int .i64 (wv : Int)))
      have he := HE0.out
      exact ⟨kb, lb, cp, cl, rfl, HC3.out.chg hc (by omega), HL4.out.chg hc (by omega), he.1, ⟨by omega, by omega⟩, HB3.out.trans (hc.below (fun k hk => by omega) HB3.out.size)⟩
end Go.Proofs.Ytebjhjmlpodkgaa.KK
