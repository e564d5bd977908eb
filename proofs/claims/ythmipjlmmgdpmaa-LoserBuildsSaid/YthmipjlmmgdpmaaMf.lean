/-
  The reference's trees: Replace.
-/
import Derived.Test.YthmipjlmmgdpmaaMe
namespace Go.Proofs.Ythmipjlmmgdpmaa.KK
open Go.ChangeShapes Go.WideShapes Go.ChangeAt Go.RowKit Go.Proofs

set_option maxRecDepth 100000 in
set_option maxHeartbeats 4000000 in
theorem rreplace_no (A B : Option Addr) (c d : Nat) (ks : List LK) (k : ByteArray) (b : Bool) (w : World) (hf : KsAt w A ks) (hg : IsAt w B (loL ks)) (h : keysE ks = 0) (hd : (kAt ks (wnr ks)).2 = false) (hr : repE ks (k, b) ≠ 0) :
    Calls Try.prog 24 #[.agg #[.slice A ks.length c, .slice B ks.length d, .int .i64 (wnr ks : Nat)], .agg #[.string k, .bool b]] w fun e w' => e = .returned (.tuple #[.agg #[.slice none 0 0, .slice none 0 0, .int .i64 0], .int .i64 0, .int .i64 (repE ks (k, b))]) ∧ Below w.heap.size w w' := by
  obtain ⟨h1, h32, _⟩ := keysE_ok h
  have hp := wnr_lt h
  have HX := boxes A B ks.length c ks.length d (wnr ks) k b w
  obtain ⟨x0, x1, x2, x3, x4⟩ := HX.out _ (Below.refl _ _)
  have J := Lib.hid (by
    have K := rended_any A B c d ks _ (hf.below x4 (Nat.le_refl _)) (hg.below x4 (Nat.le_refl _)) h
    rw [if_neg (by simp [hd])] at K; exact K)
  rcases hf with h0 | ⟨bb, off, rfl, hbl, hc⟩
  · subst h0; simp at hp
  obtain ⟨g0, g1⟩ := hc _ hp
  rw [← kAt_lt hp] at g0 g1
  have hcs : (b = true ∧ k.size ≠ 0 ∧ repE ks (k, b) = 2) ∨ (b = false ∧ Op.bytesLess k.toList (kAt ks (wnr ks)).1.toList = true ∧ repE ks (k, b) = 6) := by
    unfold repE at hr ⊢
    rw [if_neg (by simp [hd])] at hr ⊢
    by_cases hke : keyE (k, b) = 0
    · rw [if_neg (by simp [hke])] at hr ⊢
      split at hr
      · rename_i hl; rw [if_pos hl]; exact .inr ⟨hl.1, by rw [less_L]; exact hl.2, rfl⟩
      · exact absurd rfl hr
    · rw [if_pos hke]
      unfold keyE at hke ⊢
      split at hke
      · rename_i hl; rw [if_pos hl]; exact .inl ⟨hl.1, hl.2, rfl⟩
      · exact absurd rfl hke
  clear hg h hr hc g1 x0 x1 x2 x3 x4
  generalize kAt ks (wnr ks) = q at *
  generalize wnr ks = p at *
  generalize repE ks (k, b) = r at *
  generalize ks.length = n at *
  have hpn : (p : Int) < (n : Int) := by omega
  rcases hcs with ⟨rfl, hz, rfl⟩ | ⟨rfl, hless, rfl⟩
  · obtain ⟨z1, z2⟩ := str_full k hz
    clear hz
    go_enter Try.func24, Try.ntmps24
    go_wp2_with fail
    refine J.out.mono ?_
    rintro e w1 ⟨rfl, hb⟩
    obtain ⟨x0, x1, x2, x3, x4⟩ := HX.out _ hb
    have HB1 := Lib.hid x4
    have HR := Lib.hid x3
    have t0 := x0.c0
    have t2 := x0.c2
    have r0 := x3.c0
    have r1 := x3.c1
    have r2 := x3.c2
    have z0 := x3.fz 0
    have z1 := x3.fz 1
    have z2 := x3.fz 2
    have g0 := (x4.cell (p := ⟨bb, off + p * 2, none⟩) hbl).trans g0
    clear hb x0 x3 x4 hbl
    go_wp2_with fail
    go_quiet (fail)
    have HB2 := Lib.hid (HB1.out.trans ((below_drewN' nq).mono HB1.out.size))
    have HR2 : Hid (Row3 (w1.drewN nq) (w.heap.size + 1 + 1) 27 (.slice none 0 0) (.slice none 0 0) (.int .i64 0)) := Lib.hid (HR.out.below (below_drewN' nq) (Nat.le_refl _))
    go_wp2_with fail
    have HX := HR2.out.set (.slice none 0 0) (.slice none 0 0) (.int .i64 0)
    have k0 := HX.c0
    have k1 := HX.c1
    have k2 := HX.c2
    refine bodyPost_ret (v := .tuple #[.agg #[.slice none 0 0, .slice none 0 0, .int .i64 0], .int .i64 0, .int .i64 2]) (by simp [results, Try.f24, go_sem, k0, k1, k2]) rfl ?_
    have hc : Chg (fun k => k = w.heap.size + 1 + 1) (w1.drewN nq) _ := ((chg_set (w.heap.size + 1 + 1) 0 (.slice none 0 0)).trans (chg_set (w.heap.size + 1 + 1) 1 (.slice none 0 0))).trans (chg_set (w.heap.size + 1 + 1) 2 (.int .i64 0))
    exact ⟨rfl, HB2.out.trans (hc.below (fun k hk => by omega) HB2.out.size)⟩
  · go_enter Try.func24, Try.ntmps24
    go_wp2_with fail
    refine J.out.mono ?_
    rintro e w1 ⟨rfl, hb⟩
    obtain ⟨x0, x1, x2, x3, x4⟩ := HX.out _ hb
    have HB1 := Lib.hid x4
    have HR := Lib.hid x3
    have t0 := x0.c0
    have t2 := x0.c2
    have r0 := x3.c0
    have r1 := x3.c1
    have r2 := x3.c2
    have z0 := x3.fz 0
    have z1 := x3.fz 1
    have z2 := x3.fz 2
    have g0 := (x4.cell (p := ⟨bb, off + p * 2, none⟩) hbl).trans g0
    clear hb x0 x3 x4 hbl
    go_wp2_with fail
    go_quiet (fail)
    have HB2 := Lib.hid (HB1.out.trans ((below_drewN' nq).mono HB1.out.size))
    have HR2 : Hid (Row3 (w1.drewN nq) (w.heap.size + 1 + 1) 27 (.slice none 0 0) (.slice none 0 0) (.int .i64 0)) := Lib.hid (HR.out.below (below_drewN' nq) (Nat.le_refl _))
    go_wp2_with fail
    have HX := HR2.out.set (.slice none 0 0) (.slice none 0 0) (.int .i64 0)
    have k0 := HX.c0
    have k1 := HX.c1
    have k2 := HX.c2
    refine bodyPost_ret (v := .tuple #[.agg #[.slice none 0 0, .slice none 0 0, .int .i64 0], .int .i64 0, .int .i64 6]) (by simp [results, Try.f24, go_sem, k0, k1, k2]) rfl ?_
    have hc : Chg (fun k => k = w.heap.size + 1 + 1) (w1.drewN nq) _ := ((chg_set (w.heap.size + 1 + 1) 0 (.slice none 0 0)).trans (chg_set (w.heap.size + 1 + 1) 1 (.slice none 0 0))).trans (chg_set (w.heap.size + 1 + 1) 2 (.int .i64 0))
    exact ⟨rfl, HB2.out.trans (hc.below (fun k hk => by omega) HB2.out.size)⟩
set_option maxRecDepth 100000 in
set_option maxHeartbeats 4000000 in
theorem rreplace_ok (A B : Option Addr) (c d : Nat) (ks : List LK) (k : ByteArray) (b : Bool) (w : World) (hf : KsAt w A ks) (hg : IsAt w B (loL ks)) (h : keysE ks = 0) (hr : repE ks (k, b) = 0) :
    Calls Try.prog 24 #[.agg #[.slice A ks.length c, .slice B ks.length d, .int .i64 (wnr ks : Nat)], .agg #[.string k, .bool b]] w fun e w' => ∃ kb lb cp cl,
      e = .returned (.tuple #[.agg #[.slice (some ⟨kb, 0, none⟩) ks.length cp, .slice (some ⟨lb, 0, none⟩) ks.length cl, .int .i64 (wnr (ks.set (wnr ks) (k, b)) : Nat)], .int .i64 (Lo.gm ((ks.length + wnr ks) / 2) : Nat), .int .i64 0]) ∧
      Tree w w' kb lb (ks.set (wnr ks) (k, b)) (loL (ks.set (wnr ks) (k, b))) := by
  obtain ⟨hd, hke, hl⟩ := repE_ok hr
  obtain ⟨h1, h32, _⟩ := keysE_ok h
  have hp := wnr_lt h
  have HX := boxes A B ks.length c ks.length d (wnr ks) k b w
  obtain ⟨x0, x1, x2, x3, x4⟩ := HX.out _ (Below.refl _ _)
  have J := Lib.hid (by
    have K := rended_any A B c d ks _ (hf.below x4 (Nat.le_refl _)) (hg.below x4 (Nat.le_refl _)) h
    rw [if_neg (by simp [hd])] at K; exact K)
  have hkV := keyAll_set (p := wnr ks) h hke
  have JT := Lib.hid (fun (B : Option Addr) (e : Nat) (w' : World) (h1 : KsAt w' B (ks.set (wnr ks) (k, b))) => by
    have K := tree_any B e (ks.set (wnr ks) (k, b)) w' h1 hkV
    rw [List.length_set] at K; exact K)
  have hne : ks ≠ [] := fun e => by subst e; simp at h1
  obtain ⟨bb, off, rfl, hbl, hcell⟩ := hf.cells hne
  have HC := Lib.hid hcell
  have HKL := Lib.hid (keysV_len ks)
  obtain ⟨i0, hi, hz0, hz1, hz2⟩ := info_parts infoLK
  have g0 := hcell _ _ (keysV_get0 ks _ hp).1
  rw [← kAt_lt hp] at g0
  have hcs : (b = true ∧ k.size = 0) ∨ (b = false ∧ Op.bytesLess k.toList (kAt ks (wnr ks)).1.toList = false) := by
    cases b with
    | false => exact .inr ⟨rfl, by rw [less_L]; exact hl rfl⟩
    | true =>
      unfold keyE at hke
      split at hke
      · cases hke
      · rename_i hn; exact .inl ⟨rfl, Decidable.not_not.1 fun e => hn ⟨rfl, e⟩⟩
  clear hg h hr hd hke hl hkV hne hcell hf x0 x1 x2 x3 x4
  obtain ⟨nn, hnn⟩ : ∃ nn, ks.length = nn := ⟨_, rfl⟩
  have HNN := Lib.hid hnn
  obtain ⟨p, hpp⟩ : ∃ p, wnr ks = p := ⟨_, rfl⟩
  rw [hpp, hnn] at J HX JT
  rw [hpp, hnn]
  rw [hpp, hnn] at hp
  rw [hpp] at g0 hcs
  rw [hnn] at h1 h32 HKL
  generalize kAt ks p = q at *
  generalize hgg : Lo.gm ((nn + p) / 2) = gg at *
  have HGG := Lib.hid hgg
  have hpz : (p : Int) < (nn : Int) := by omega
  clear hnn hpp hgg
  obtain ⟨m0, hm0⟩ : ∃ m0, (nn + p) / 2 = m0 := ⟨_, rfl⟩
  have hm1 : ((nn : Int) + (p : Int)) / 2 = (m0 : Int) := by omega
  have hm2 : m0 < nn := by omega
  rw [hm0] at HGG
  clear hm0
  rcases hcs with ⟨rfl, hz⟩ | ⟨rfl, hless⟩
  · have z1 := str_empty k hz
    clear hz
    go_enter Try.func24, Try.ntmps24
    go_wp2_with fail
    refine J.out.mono ?_
    rintro e w1 ⟨rfl, hb⟩
    obtain ⟨x0, x1, x2, x3, x4⟩ := HX.out _ hb
    have HB1 := Lib.hid x4
    have HR := Lib.hid x3
    have HR0 := Lib.hid x0
    have t0 := x0.c0
    have t2 := x0.c2
    have g0 := (x4.cell (p := ⟨bb, off + p * 2, none⟩) hbl).trans g0
    clear hb x0 x3 x4
    go_wp2_with fail
    go_quiet (fail)
    obtain ⟨wd, hwd⟩ : ∃ wd, wd = w1.drewN nq := ⟨_, rfl⟩
    have HD : Hid (Below w1.heap.size w1 wd) := Lib.hid (hwd ▸ below_drewN' nq)
    have x1 := (HD.out.cell (p := ⟨w.heap.size + 1, 0, none⟩) (cell_lt x1)).trans x1
    have x2 := (HD.out.cell (p := ⟨w.heap.size + 1, 1, none⟩) (cell_lt x2)).trans x2
    rw [← hwd]
    clear hwd t0 t2 g0
    have t0 := (HR0.out.below HD.out (Nat.le_refl _)).c0
    have t2 := (HR0.out.below HD.out (Nat.le_refl _)).c2
    have HBd := Lib.hid (eb_of HB1.out HD.out (Nat.le_refl _))
    have HRd := Lib.hid (HR.out.below HD.out (Nat.le_refl _))
    have HR0d := Lib.hid (HR0.out.below HD.out (Nat.le_refl _))
    have hlt0 := HR0d.out.lt
    have hlt1 := cell_lt x1
    have hmade : (wd.alloc (.cells #[] 39)).ownsRow wd.heap.size 39 2 (.slice (some ⟨wd.heap.size, 0, none⟩) 0 0) 0 [] := World.ownsRow_made wd #[] 0 (Nat.le_refl _) (Nat.zero_le _) rfl
    clear HR HR0 HD HB1
    go_wp2_with (at_builtin; refine wpList_append_own _ rfl (.tmp 47) (.tmp 49) 22 rfl wd.heap.size 39 i0 (.agg #[.string ⟨#[]⟩, .bool false]) 2 24 Try.underlying22 hi hz0 hz1 hz2 rfl (by decide) _ 0 [] rfl hmade ⟨bb, off, none⟩ nn c (keysV ks) rfl HKL.out (fun j u hj => by rw [add_at']; exact Lib.cell?_alloc_some _ (((HBd.out.cell (p := ⟨bb, off + j, none⟩) hbl)).trans (HC.out j u hj))) (keysV_one _) (by unfold maxLen; omega) (by omega) (by simp) ?_; intro v' w5 hown hgr _; have hb1 : Below wd.heap.size wd w5 := ((Below.refl wd.heap.size wd).alloc (Nat.le_refl _) _).grown hgr (by simp) (fun k hk => (hmade.lt k hk).1); have HB5 := Lib.hid hb1; rw [Nat.zero_add, List.nil_append] at hown; obtain ⟨g, cap, rfl⟩ : ∃ g cap, v' = .slice (some ⟨g, 0, none⟩) nn cap := (by rcases hown.2 with ⟨_, h0⟩ | ⟨g, cap, cur, hv, _⟩; exact absurd h0 (by omega); exact ⟨g, cap, hv⟩); have HG := Lib.hid (hown.lt g rfl).1; have HCF := Lib.hid (CR.of_own hown (hown.lt g rfl).2); have t0 := (hb1.cell (p := ⟨w.heap.size, 0, none⟩) (cell_lt t0)).trans t0; have t2 := (hb1.cell (p := ⟨w.heap.size, 2, none⟩) (cell_lt t2)).trans t2; have y1 := (hb1.cell (p := ⟨w.heap.size + 1, 0, none⟩) (cell_lt x1)).trans x1; have y2 := (hb1.cell (p := ⟨w.heap.size + 1, 1, none⟩) (cell_lt x2)).trans x2; have e0 := HCF.out.cell (p * 2) (by rw [HKL.out]; omega); have e1 := HCF.out.cell (p * 2 + 1) (by rw [HKL.out]; omega); have f0 := HCF.out.frz (p * 2) (by rw [HKL.out]; omega); have f1 := HCF.out.frz (p * 2 + 1) (by rw [HKL.out]; omega); have hgl := HG.out; have hbl5 := HBd.out.size; clear hown hgr hb1)
    have hk0 : p < ks.length := by have := HNN.out; omega
    obtain ⟨wf, hwf⟩ : ∃ wf, wf = (w5.setCell ⟨g, p * 2, none⟩ (.string k)).setCell ⟨g, p * 2 + 1, none⟩ (.bool true) := ⟨_, rfl⟩
    have c3 : Chg (fun k => k = g) w5 wf := hwf ▸ (chg_set (w := w5) g (p * 2) (.string k)).trans (chg_set g (p * 2 + 1) (.bool true))
    have HCK : Hid (CR wf g (keysV (ks.set p (k, true)))) := Lib.hid (hwf ▸ HCF.out.key hk0 k true)
    have HB6 := Lib.hid (eb_of HBd.out HB5.out (Nat.le_refl _))
    have HBf : Hid (Below w.heap.size w wf) := Lib.hid (HB6.out.trans (c3.below (fun k hk => by omega) HB6.out.size))
    have HRf : Hid (Row3 wf (w.heap.size + 1 + 1) 27 (.slice none 0 0) (.slice none 0 0) (.int .i64 0)) := Lib.hid ((HRd.out.below HB5.out (Nat.le_refl _)).chg c3 (by have := HRd.out.lt; omega))
    have t0 := c3.cell t0 (by omega)
    have t2 := c3.cell t2 (by omega)
    rw [← hwf]
    clear hwf c3 y1 y2 e0 e1 f0 f1 hgl hlt0 hlt1 hbl5 HCF HB5 HB6 HBd HRd HR0d HX HC x1 x2 hmade
    go_loopw [9, 10] (fun gv iv wr => ∃ m g1 : Nat, iv = .int .i64 m ∧ gv = .int .i64 g1 ∧ m < nn ∧ g1 + m ≤ nn ∧ Below wf.heap.size wf wr ∧ Hid (gg = g1 + Lo.gm m)) (fun _ iv _ => (intOf iv).toNat)
    case atStart => exact ⟨m0, 0, by first | rfl | go_num, rfl, hm2, by omega, Below.refl _ _, Lib.hid (by rw [Nat.zero_add]; exact HGG.out.symm)⟩
    case round =>
      obtain ⟨m, g1, rfl, rfl, hmn, hgm, hb, HE⟩ := hrel
      have HBw := Lib.hid hb
      clear hb hm1
      by_cases hm0 : m = 0
      · have HG1 : Hid (gg = g1) := Lib.hid (by rw [HE.out, hm0, Lo.gm_zero, Nat.add_zero])
        have hkr := Lib.hid (HCK.out.below HBw.out HCK.out.lt).ks
        have JX := Lib.hid (JT.out _ cap wr hkr.out)
        have HR1 := Lib.hid (HRf.out.below HBw.out (Nat.le_refl _))
        have HB1 := Lib.hid (eb_of HBf.out HBw.out (Nat.le_refl _))
        subst hm0
        rw [HG1.out]
        clear HE t0 t2
        go_wp2_with fail
        refine JX.out.mono ?_
        rintro e w7 ⟨kb, lb, cp, cl, rfl, ht⟩
        have HT := Lib.hid ht
        have HR2 := Lib.hid (HR1.out.below ht.below (Nat.le_refl _))
        have hlt := HR1.out.lt
        have hle := HB1.out.size
        clear ht
        have r0 := HR2.out.c0
        have r1 := HR2.out.c1
        have r2 := HR2.out.c2
        have z0 := HR2.out.fz 0
        have z1 := HR2.out.fz 1
        have z2 := HR2.out.fz 2
        go_wp2_with fail
        have HX := HR2.out.set (.slice (some ⟨kb, 0, none⟩) nn cp) (.slice (some ⟨lb, 0, none⟩) nn cl) (.int .i64 (wnr (ks.set p (k, true)) : Nat))
        have k0 := HX.c0
        have k1 := HX.c1
        have k2 := HX.c2
        refine bodyPost_ret (v := .tuple #[.agg #[.slice (some ⟨kb, 0, none⟩) nn cp, .slice (some ⟨lb, 0, none⟩) nn cl, .int .i64 (wnr (ks.set p (k, true)) : Nat)], .int .i64 (g1 : Nat), .int .i64 0]) (by simp [results, Try.f24, go_sem, k0, k1, k2]) rfl ?_
        have hc : Chg (fun k => k = w.heap.size + 1 + 1) w7 _ := ((chg_set (w.heap.size + 1 + 1) 0 (.slice (some ⟨kb, 0, none⟩) nn cp)).trans (chg_set (w.heap.size + 1 + 1) 1 (.slice (some ⟨lb, 0, none⟩) nn cl))).trans (chg_set (w.heap.size + 1 + 1) 2 (.int .i64 (wnr (ks.set p (k, true)) : Nat)))
        have ht := HT.out
        have hnw := ht.new
        have hs2 := ht.below.size
        exact ⟨kb, lb, cp, cl, by rw [HG1.out], ht.keys.chg hc (by omega), ht.lose.chg hc (by omega), ht.ne, ⟨by omega, by omega⟩, (eb_of HB1.out ht.below (Nat.le_refl _)).trans (hc.below (fun k hk => by omega) (by omega))⟩
      · have HG1 : Hid (gg = (g1 + 1) + Lo.gm (m / 2)) := Lib.hid (by rw [HE.out, Lo.gm_pos (by omega)]; omega)
        have hm3 : (m : Int) / 2 = ((m / 2 : Nat) : Int) := by omega
        obtain ⟨mm, hmm⟩ : ∃ mm, m / 2 = mm := ⟨_, rfl⟩
        have hm4 : (m : Int).tdiv 2 = (mm : Int) := by rw [Int.tdiv_eq_ediv_of_nonneg (by omega)]; omega
        have hm5 : IntKind.i64.wrap (mm : Int) = (mm : Int) := by rw [IntKind.wrap_i64]; omega
        have hm6 : (m : Int) / 2 = (mm : Int) := by omega
        have hm7 : 2 * mm ≤ m := by omega
        have hm8 : (1 : Int) ≤ (m : Int) := by omega
        rw [hmm] at HG1
        have HM0 := Lib.hid hm0
        clear hm3 hmm hm0
        go_wp2_with fail
        clear hm4 hm5 hm6
        go_roundw
        case rel => exact ⟨mm, g1 + 1, by first | rfl | go_num, by go_num, by omega, by have := HM0.out; omega, HBw.out, HG1⟩
        case measure => have := HM0.out; simp [intOf]; omega
  · go_enter Try.func24, Try.ntmps24
    go_wp2_with fail
    refine J.out.mono ?_
    rintro e w1 ⟨rfl, hb⟩
    obtain ⟨x0, x1, x2, x3, x4⟩ := HX.out _ hb
    have HB1 := Lib.hid x4
    have HR := Lib.hid x3
    have HR0 := Lib.hid x0
    have t0 := x0.c0
    have t2 := x0.c2
    have g0 := (x4.cell (p := ⟨bb, off + p * 2, none⟩) hbl).trans g0
    clear hb x0 x3 x4
    go_wp2_with fail
    go_quiet (fail)
    obtain ⟨wd, hwd⟩ : ∃ wd, wd = w1.drewN nq := ⟨_, rfl⟩
    have HD : Hid (Below w1.heap.size w1 wd) := Lib.hid (hwd ▸ below_drewN' nq)
    have x1 := (HD.out.cell (p := ⟨w.heap.size + 1, 0, none⟩) (cell_lt x1)).trans x1
    have x2 := (HD.out.cell (p := ⟨w.heap.size + 1, 1, none⟩) (cell_lt x2)).trans x2
    rw [← hwd]
    clear hwd t0 t2 g0
    have t0 := (HR0.out.below HD.out (Nat.le_refl _)).c0
    have t2 := (HR0.out.below HD.out (Nat.le_refl _)).c2
    have HBd := Lib.hid (eb_of HB1.out HD.out (Nat.le_refl _))
    have HRd := Lib.hid (HR.out.below HD.out (Nat.le_refl _))
    have HR0d := Lib.hid (HR0.out.below HD.out (Nat.le_refl _))
    have hlt0 := HR0d.out.lt
    have hlt1 := cell_lt x1
    have hmade : (wd.alloc (.cells #[] 39)).ownsRow wd.heap.size 39 2 (.slice (some ⟨wd.heap.size, 0, none⟩) 0 0) 0 [] := World.ownsRow_made wd #[] 0 (Nat.le_refl _) (Nat.zero_le _) rfl
    clear HR HR0 HD HB1
    go_wp2_with (at_builtin; refine wpList_append_own _ rfl (.tmp 47) (.tmp 49) 22 rfl wd.heap.size 39 i0 (.agg #[.string ⟨#[]⟩, .bool false]) 2 24 Try.underlying22 hi hz0 hz1 hz2 rfl (by decide) _ 0 [] rfl hmade ⟨bb, off, none⟩ nn c (keysV ks) rfl HKL.out (fun j u hj => by rw [add_at']; exact Lib.cell?_alloc_some _ (((HBd.out.cell (p := ⟨bb, off + j, none⟩) hbl)).trans (HC.out j u hj))) (keysV_one _) (by unfold maxLen; omega) (by omega) (by simp) ?_; intro v' w5 hown hgr _; have hb1 : Below wd.heap.size wd w5 := ((Below.refl wd.heap.size wd).alloc (Nat.le_refl _) _).grown hgr (by simp) (fun k hk => (hmade.lt k hk).1); have HB5 := Lib.hid hb1; rw [Nat.zero_add, List.nil_append] at hown; obtain ⟨g, cap, rfl⟩ : ∃ g cap, v' = .slice (some ⟨g, 0, none⟩) nn cap := (by rcases hown.2 with ⟨_, h0⟩ | ⟨g, cap, cur, hv, _⟩; exact absurd h0 (by omega); exact ⟨g, cap, hv⟩); have HG := Lib.hid (hown.lt g rfl).1; have HCF := Lib.hid (CR.of_own hown (hown.lt g rfl).2); have t0 := (hb1.cell (p := ⟨w.heap.size, 0, none⟩) (cell_lt t0)).trans t0; have t2 := (hb1.cell (p := ⟨w.heap.size, 2, none⟩) (cell_lt t2)).trans t2; have y1 := (hb1.cell (p := ⟨w.heap.size + 1, 0, none⟩) (cell_lt x1)).trans x1; have y2 := (hb1.cell (p := ⟨w.heap.size + 1, 1, none⟩) (cell_lt x2)).trans x2; have e0 := HCF.out.cell (p * 2) (by rw [HKL.out]; omega); have e1 := HCF.out.cell (p * 2 + 1) (by rw [HKL.out]; omega); have f0 := HCF.out.frz (p * 2) (by rw [HKL.out]; omega); have f1 := HCF.out.frz (p * 2 + 1) (by rw [HKL.out]; omega); have hgl := HG.out; have hbl5 := HBd.out.size; clear hown hgr hb1)
    have hk0 : p < ks.length := by have := HNN.out; omega
    obtain ⟨wf, hwf⟩ : ∃ wf, wf = (w5.setCell ⟨g, p * 2, none⟩ (.string k)).setCell ⟨g, p * 2 + 1, none⟩ (.bool false) := ⟨_, rfl⟩
    have c3 : Chg (fun k => k = g) w5 wf := hwf ▸ (chg_set (w := w5) g (p * 2) (.string k)).trans (chg_set g (p * 2 + 1) (.bool false))
    have HCK : Hid (CR wf g (keysV (ks.set p (k, false)))) := Lib.hid (hwf ▸ HCF.out.key hk0 k false)
    have HB6 := Lib.hid (eb_of HBd.out HB5.out (Nat.le_refl _))
    have HBf : Hid (Below w.heap.size w wf) := Lib.hid (HB6.out.trans (c3.below (fun k hk => by omega) HB6.out.size))
    have HRf : Hid (Row3 wf (w.heap.size + 1 + 1) 27 (.slice none 0 0) (.slice none 0 0) (.int .i64 0)) := Lib.hid ((HRd.out.below HB5.out (Nat.le_refl _)).chg c3 (by have := HRd.out.lt; omega))
    have t0 := c3.cell t0 (by omega)
    have t2 := c3.cell t2 (by omega)
    rw [← hwf]
    clear hwf c3 y1 y2 e0 e1 f0 f1 hgl hlt0 hlt1 hbl5 HCF HB5 HB6 HBd HRd HR0d HX HC x1 x2 hmade
    go_loopw [9, 10] (fun gv iv wr => ∃ m g1 : Nat, iv = .int .i64 m ∧ gv = .int .i64 g1 ∧ m < nn ∧ g1 + m ≤ nn ∧ Below wf.heap.size wf wr ∧ Hid (gg = g1 + Lo.gm m)) (fun _ iv _ => (intOf iv).toNat)
    case atStart => exact ⟨m0, 0, by first | rfl | go_num, rfl, hm2, by omega, Below.refl _ _, Lib.hid (by rw [Nat.zero_add]; exact HGG.out.symm)⟩
    case round =>
      obtain ⟨m, g1, rfl, rfl, hmn, hgm, hb, HE⟩ := hrel
      have HBw := Lib.hid hb
      clear hb hm1
      by_cases hm0 : m = 0
      · have HG1 : Hid (gg = g1) := Lib.hid (by rw [HE.out, hm0, Lo.gm_zero, Nat.add_zero])
        have hkr := Lib.hid (HCK.out.below HBw.out HCK.out.lt).ks
        have JX := Lib.hid (JT.out _ cap wr hkr.out)
        have HR1 := Lib.hid (HRf.out.below HBw.out (Nat.le_refl _))
        have HB1 := Lib.hid (eb_of HBf.out HBw.out (Nat.le_refl _))
        subst hm0
        rw [HG1.out]
        clear HE t0 t2
        go_wp2_with fail
        refine JX.out.mono ?_
        rintro e w7 ⟨kb, lb, cp, cl, rfl, ht⟩
        have HT := Lib.hid ht
        have HR2 := Lib.hid (HR1.out.below ht.below (Nat.le_refl _))
        have hlt := HR1.out.lt
        have hle := HB1.out.size
        clear ht
        have r0 := HR2.out.c0
        have r1 := HR2.out.c1
        have r2 := HR2.out.c2
        have z0 := HR2.out.fz 0
        have z1 := HR2.out.fz 1
        have z2 := HR2.out.fz 2
        go_wp2_with fail
        have HX := HR2.out.set (.slice (some ⟨kb, 0, none⟩) nn cp) (.slice (some ⟨lb, 0, none⟩) nn cl) (.int .i64 (wnr (ks.set p (k, false)) : Nat))
        have k0 := HX.c0
        have k1 := HX.c1
        have k2 := HX.c2
        refine bodyPost_ret (v := .tuple #[.agg #[.slice (some ⟨kb, 0, none⟩) nn cp, .slice (some ⟨lb, 0, none⟩) nn cl, .int .i64 (wnr (ks.set p (k, false)) : Nat)], .int .i64 (g1 : Nat), .int .i64 0]) (by simp [results, Try.f24, go_sem, k0, k1, k2]) rfl ?_
        have hc : Chg (fun k => k = w.heap.size + 1 + 1) w7 _ := ((chg_set (w.heap.size + 1 + 1) 0 (.slice (some ⟨kb, 0, none⟩) nn cp)).trans (chg_set (w.heap.size + 1 + 1) 1 (.slice (some ⟨lb, 0, none⟩) nn cl))).trans (chg_set (w.heap.size + 1 + 1) 2 (.int .i64 (wnr (ks.set p (k, false)) : Nat)))
        have ht := HT.out
        have hnw := ht.new
        have hs2 := ht.below.size
        exact ⟨kb, lb, cp, cl, by rw [HG1.out], ht.keys.chg hc (by omega), ht.lose.chg hc (by omega), ht.ne, ⟨by omega, by omega⟩, (eb_of HB1.out ht.below (Nat.le_refl _)).trans (hc.below (fun k hk => by omega) (by omega))⟩
      · have HG1 : Hid (gg = (g1 + 1) + Lo.gm (m / 2)) := Lib.hid (by rw [HE.out, Lo.gm_pos (by omega)]; omega)
        have hm3 : (m : Int) / 2 = ((m / 2 : Nat) : Int) := by omega
        obtain ⟨mm, hmm⟩ : ∃ mm, m / 2 = mm := ⟨_, rfl⟩
        have hm4 : (m : Int).tdiv 2 = (mm : Int) := by rw [Int.tdiv_eq_ediv_of_nonneg (by omega)]; omega
        have hm5 : IntKind.i64.wrap (mm : Int) = (mm : Int) := by rw [IntKind.wrap_i64]; omega
        have hm6 : (m : Int) / 2 = (mm : Int) := by omega
        have hm7 : 2 * mm ≤ m := by omega
        have hm8 : (1 : Int) ≤ (m : Int) := by omega
        rw [hmm] at HG1
        have HM0 := Lib.hid hm0
        clear hm3 hmm hm0
        go_wp2_with fail
        clear hm4 hm5 hm6
        go_roundw
        case rel => exact ⟨mm, g1 + 1, by first | rfl | go_num, by go_num, by omega, by have := HM0.out; omega, HBw.out, HG1⟩
        case measure => have := HM0.out; simp [intOf]; omega
end Go.Proofs.Ythmipjlmmgdpmaa.KK
