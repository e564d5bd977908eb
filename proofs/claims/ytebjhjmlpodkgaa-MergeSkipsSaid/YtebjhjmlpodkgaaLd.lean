/-
  Trees of losers: a climb.
-/
import Derived.Test.YtebjhjmlpodkgaaLc
namespace Go.Proofs.Ytebjhjmlpodkgaa.KK
open Go.ChangeShapes Go.WideShapes Go.ChangeAt Go.RowKit Go.Proofs

theorem chooser_out (A : Option Addr) (n c : Nat) (w : World) : Calls Try.prog 113 #[.slice A n c] w fun e w' => ∃ cb kb,
    e = .returned (.func (.func 118) #[] #[.pointer (some ⟨cb, 0, none⟩)]) ∧ w.heap.size ≤ cb ∧ w.heap.size ≤ kb ∧
      w'.cell? ⟨cb, 0, none⟩ = some (.func (.func 120) #[] #[.pointer (some ⟨kb, 0, none⟩)]) ∧ w'.cell? ⟨kb, 0, none⟩ = some (.slice A n c) ∧ Below w.heap.size w w' := by
  refine (chooser_any A n c w).mono ?_
  rintro e w1 ⟨rfl, rfl⟩
  refine ⟨_, _, rfl, by omega, Nat.le_refl _, cellN (by simp) rfl, ?_, ((Below.refl _ _).alloc (Nat.le_refl _) _).alloc (by simp) _⟩
  refine (World.cell?_of_block (w := w.alloc (.cells #[.slice A n c] 26)) (a := ⟨w.heap.size, 0, none⟩) ?_).trans (cellN (vs := #[.slice A n c]) rfl rfl)
  exact heap_alloc_old _ _ (by simp)
def oW (o : Option Nat) (win : Int) : Int := match o with | some q => (q : Int) | none => win
theorem in_set {L : List Int} {n i : Nat} {v : Int} (h : ∀ x ∈ L, -1 ≤ x ∧ x < n) (hv : -1 ≤ v ∧ v < n) : ∀ x ∈ L.set i v, -1 ≤ x ∧ x < n := fun x hx => by
  rcases List.mem_or_eq_of_mem_set hx with h' | h'
  · exact h x h'
  · rw [h']; exact hv
theorem climbF_root {W : Nat → Nat → Bool} {L : List Int} {p g : Nat} : Lo.climbF W L p 0 g = (L, some p, g) := by rw [Lo.climbF, dif_pos rfl]
theorem climbF_put {W : Nat → Nat → Bool} {L : List Int} {p m g : Nat} (h : m ≠ 0) (e : L.getD m 0 = -1) : Lo.climbF W L p m g = (L.set m p, none, g) := by
  rw [Lo.climbF, dif_neg h, if_pos e]
theorem climbF_win {W : Nat → Nat → Bool} {L : List Int} {p m g q : Nat} (h : m ≠ 0) (e : L.getD m 0 = (q : Int)) (hw : W p q = true) : Lo.climbF W L p m g = Lo.climbF W (L.set m q) p (m / 2) (g + 1) := by
  rw [Lo.climbF, dif_neg h, if_neg (by rw [e]; omega), e, Int.toNat_natCast, if_pos hw]
theorem climbF_lose {W : Nat → Nat → Bool} {L : List Int} {p m g q : Nat} (h : m ≠ 0) (e : L.getD m 0 = (q : Int)) (hw : W p q = false) : Lo.climbF W L p m g = Lo.climbF W (L.set m p) q (m / 2) (g + 1) := by
  rw [Lo.climbF, dif_neg h, if_neg (by rw [e]; omega), e, Int.toNat_natCast, if_neg (by rw [hw]; simp)]
theorem CR.int {w : World} {b i : Nat} {L : List Int} (h : CR w b (intsV L)) (hi : i < L.length) : w.cell? ⟨b, i, none⟩ = some (.int .i64 (L.getD i 0)) ∧ w.frozen? ⟨b, i, none⟩ = false := by
  refine ⟨(h.cell i (by rw [intsV_len]; exact hi)).trans ?_, h.frz i (by rw [intsV_len]; exact hi)⟩
  simp [intsV, hi]
theorem CR.put {w : World} {b i : Nat} {L : List Int} (h : CR w b (intsV L)) (hi : i < L.length) (v : Int) : CR (w.setCell ⟨b, i, none⟩ (.int .i64 v)) b (intsV (L.set i v)) := by
  rw [← intsV_set]; exact h.set (by rw [intsV_len]; exact hi) _

set_option maxRecDepth 100000 in
set_option maxHeartbeats 4000000 in
theorem climb_any (tb lb : Nat) (A : Option Addr) (c d : Nat) (ks : List LK) (n : Nat) (hks : ks.length = n) (L : List Int) (p : Nat) (win : Int) (w : World)
    (ht : Row3 w tb 28 (.slice A n c) (.slice (some ⟨lb, 0, none⟩) n d) (.int .i64 win))
    (hL : CR w lb (intsV L)) (hll : L.length = n) (hin : ∀ x ∈ L, -1 ≤ x ∧ x < n) (hf : KsAt w A ks) (hA : ∀ a, A = some a → a.block ≠ tb ∧ a.block ≠ lb) (htl : tb ≠ lb) (hp : p < n) (hn : n ≤ 4294967295) :
    Calls Try.prog 106 #[.pointer (some ⟨tb, 0, none⟩), .int .i64 p] w fun e w' => ∃ R, Lo.climbF (wn ks) L p ((n + p) / 2) 0 = R ∧ e = .returned (.int .i64 ((R.2.2 : Nat) : Int)) ∧
      CR w' lb (intsV R.1) ∧ Row3 w' tb 28 (.slice A n c) (.slice (some ⟨lb, 0, none⟩) n d) (.int .i64 (oW R.2.1 win)) ∧ Chg (fun k => k = tb ∨ k = lb) w w' := by
  have JC := Lib.hid (fun w => chooser_out A n c w)
  have HT := Lib.hid ht
  have HL := Lib.hid hL
  have HF := Lib.hid hf
  have HI := Lib.hid hin
  have HKS := Lib.hid hks
  have HLL := Lib.hid hll
  obtain ⟨m0, hm0⟩ : ∃ m0, (n + p) / 2 = m0 := ⟨_, rfl⟩
  have hm1 : ((n : Int) + (p : Int)) / 2 = (m0 : Int) := by omega
  have hm2 : m0 < n := by omega
  rw [hm0]
  have t0 := ht.c0
  have t1 := ht.c1
  have HA := Lib.hid hA
  have HTL := Lib.hid htl
  clear ht hL hf hin hks hll hm0 hA htl
  go_enter Try.func106, Try.ntmps106
  go_wp2_with fail
  go_step3
  go_wp2_with fail
  refine (JC.out _).mono ?_
  rintro e w1 ⟨cb, kb, rfl, hcb, hkb, ccb, ckb, hb⟩
  have HT1 := Lib.hid (HT.out.below hb (Nat.le_refl _))
  have HL1 := Lib.hid (HL.out.below hb (HL.out.lt))
  have HF1 := Lib.hid (HF.out.below hb (Nat.le_refl _))
  have HB1 := Lib.hid hb
  have HC1 := Lib.hid ccb
  have HK1 := Lib.hid ckb
  have HQ : Hid (cb < w1.heap.size ∧ kb < w1.heap.size ∧ tb ≠ cb ∧ tb ≠ kb ∧ lb ≠ cb ∧ lb ≠ kb) := Lib.hid (by
    have := HT.out.lt; have := HL.out.lt
    exact ⟨cell_lt ccb, cell_lt ckb, by omega, by omega, by omega, by omega⟩)
  clear hb ccb ckb t0 t1
  have t0 := HT1.out.c0
  have t1 := HT1.out.c1
  go_wp2_with fail
  go_step3
  go_wp2_with fail
  go_loopw [1, 4, 6] (fun pv gv nv wr => ∃ (L1 : List Int) (p1 g1 m : Nat), pv = .int .i64 p1 ∧ gv = .int .i64 g1 ∧ nv = .int .i64 m ∧ Hid (Lo.climbF (wn ks) L p m0 0 = Lo.climbF (wn ks) L1 p1 m g1) ∧ p1 < n ∧ m < n ∧ g1 + m ≤ n ∧
      Hid (L1.length = n ∧ (∀ x ∈ L1, -1 ≤ x ∧ x < n) ∧ CR wr lb (intsV L1) ∧ Row3 wr tb 28 (.slice A n c) (.slice (some ⟨lb, 0, none⟩) n d) (.int .i64 win) ∧ Chg (fun k => k = tb ∨ k = lb) w1 wr)) (fun _ _ nv _ => (intOf nv).toNat)
  case atStart => exact ⟨L, p, 0, m0, rfl, by first | rfl | go_num, by first | rfl | go_num, Lib.hid rfl, hp, hm2, by omega, Lib.hid ⟨HLL.out, HI.out, HL1.out, HT1.out, Chg.refl _⟩⟩
  case round =>
    clear hm1
    obtain ⟨L1, p1, g1, m, rfl, rfl, rfl, HE, hp1, hm, hg, HS⟩ := hrel
    obtain ⟨hl1, hi1, hr1, hrt, hch⟩ := HS.out
    have t0 := hrt.c0
    have t1 := hrt.c1
    have t2 := hrt.c2
    have tf := hrt.fz
    have HM : Hid (L1.length = n) := Lib.hid hl1
    have HIN := Lib.hid hi1
    have HR := Lib.hid hr1
    have HRT := Lib.hid hrt
    have HCH := Lib.hid hch
    clear hl1 hi1 hr1 hrt hch HS
    by_cases hm0 : m = 0
    · have hR : Hid (Lo.climbF (wn ks) L p m0 0 = (L1, some p1, g1)) := Lib.hid (HE.out.trans (by rw [hm0]; exact climbF_root))
      rw [hm0]
      clear hm0 HE
      go_wp2_with fail
      rw [Exit.noGoto_ret]
      go_ret
      refine ⟨_, hR.out, rfl, HR.out.chg (chg_set tb 2 _) (fun e => HTL.out e.symm), HRT.out.set2 _, ?_⟩
      exact (Chg.of_below HB1.out).trans (((HCH.out.trans ((chg_set tb 2 _).mono (fun k hk => .inl hk)))))
    · have hmz : ((m : Int) == 0) = false := by rw [beq_eq_false_iff_ne]; omega
      obtain ⟨lc, lf⟩ := HR.out.int (i := m) (by rw [HM.out]; exact hm)
      by_cases hv : L1.getD m 0 = -1
      · have hR : Hid (Lo.climbF (wn ks) L p m0 0 = (L1.set m p1, none, g1)) := Lib.hid (HE.out.trans (climbF_put hm0 hv))
        rw [hv] at lc
        clear hm0 HE hv
        go_wp2_with fail
        rw [Exit.noGoto_ret]
        go_ret
        refine ⟨_, hR.out, rfl, HR.out.put (by rw [HM.out]; exact hm) _, HRT.out.chg (chg_set lb m _) HTL.out, ?_⟩
        exact (Chg.of_below HB1.out).trans (((HCH.out.trans ((chg_set lb m _).mono (fun k hk => .inr hk)))))
      · have hx := HIN.out (L1.getD m 0) (by have h' : m < L1.length := by rw [HM.out]; exact hm
                                             simp [h'])
        obtain ⟨q, hq⟩ : ∃ q : Nat, L1.getD m 0 = (q : Int) := ⟨(L1.getD m 0).toNat, by omega⟩
        rw [hq] at lc
        have hqn : q < n := by omega
        have hv1 : ((q : Int) == -1) = false := by rw [beq_eq_false_iff_ne]; omega
        have hm3 : (m : Int) / 2 = ((m / 2 : Nat) : Int) := by omega
        have HQE := Lib.hid hq
        have HM0 := Lib.hid hm0
        clear hm0 hv hx hq
        have JJ : Hid (∀ w', Below wr.heap.size wr w' → Calls Try.prog 118 #[.int .i64 p1, .int .i64 q, .pointer (some ⟨cb, 0, none⟩)] w' fun e w'' =>
            e = .returned (.tuple #[.int .i64 ((if wn ks p1 q then p1 else q : Nat) : Int), .int .i64 ((if wn ks p1 q then q else p1 : Nat) : Int)]) ∧ Below w'.heap.size w' w'') := Lib.hid (fun w' hb => by
          have hC := HCH.out
          have c1 := (hC.cell HC1.out (fun h => by have := HQ.out; omega))
          have c2 := (hC.cell HK1.out (fun h => by have := HQ.out; omega))
          have c1' := (hb.cell (p := ⟨cb, 0, none⟩) (cell_lt c1)).trans c1
          have c2' := (hb.cell (p := ⟨kb, 0, none⟩) (cell_lt c2)).trans c2
          have hks := HKS.out
          rw [← hks] at c2'
          exact choose_any cb kb A c ks p1 q (by omega) (by omega) w' c1' c2' ((HF1.out.chg hC (fun a ha h => by have := HA.out a ha; omega)).below hb (Nat.le_refl _)) (by omega))
        obtain ⟨x1, hx1⟩ : ∃ x1 : Nat, (if wn ks p1 q then p1 else q) = x1 := ⟨_, rfl⟩
        obtain ⟨x2, hx2⟩ : ∃ x2 : Nat, (if wn ks p1 q then q else p1) = x2 := ⟨_, rfl⟩
        rw [hx1, hx2] at JJ
        have HX : Hid (Lo.climbF (wn ks) L p m0 0 = Lo.climbF (wn ks) (L1.set m x2) x1 (m / 2) (g1 + 1) ∧ x1 < n ∧ x2 < n) := Lib.hid (by
          cases hw : wn ks p1 q with
          | true => rw [hw] at hx1 hx2; simp at hx1 hx2; subst hx1 hx2; exact ⟨HE.out.trans (climbF_win HM0.out HQE.out hw), hp1, hqn⟩
          | false => rw [hw] at hx1 hx2; simp at hx1 hx2; subst hx1 hx2; exact ⟨HE.out.trans (climbF_lose HM0.out HQE.out hw), hqn, hp1⟩)
        clear hx1 hx2
        have HFF := Lib.hid (Below.refl wr.heap.size wr)
        have hlt1 := HRT.out.lt
        have hlt2 := HR.out.lt
        have HKP : Hid (∀ w', Chg (fun k => k = lb) wr w' → Chg (fun k => k = lb) wr w' ∧ w'.cell? ⟨tb, 1, none⟩ = some (.slice (some ⟨lb, 0, none⟩) n d)) := Lib.hid (fun w' h => ⟨h, h.cell t1 HTL.out⟩)
        have HG : Hid (∀ w', Below wr.heap.size wr w' → w'.cell? ⟨lb, m, none⟩ = some (.int .i64 q) ∧ w'.frozen? ⟨lb, m, none⟩ = false) := Lib.hid (fun w' h =>
          ⟨(h.cell (p := ⟨lb, m, none⟩) hlt2).trans lc, (h.frozen (p := ⟨lb, m, none⟩) hlt2).trans lf⟩)
        obtain ⟨mm, hmm⟩ : ∃ mm, m / 2 = mm := ⟨_, rfl⟩
        have hm4 : (m : Int).tdiv 2 = (mm : Int) := by rw [Int.tdiv_eq_ediv_of_nonneg (by omega)]; omega
        have hm5 : IntKind.i64.wrap (mm : Int) = (mm : Int) := by rw [IntKind.wrap_i64]; omega
        have hm6 : (m : Int) / 2 = (mm : Int) := by omega
        have hm7 : 2 * mm ≤ m := by omega
        rw [hmm] at HX
        clear hm3 hmm
        go_wp2_with fail
        go_region_with (go_at_call 118; refine (JJ.out _ (by first | assumption | exact HFF.out | exact below_drewN' 1)).mono ?_; rintro e w5 ⟨rfl, hb5⟩; have hb6 := eb_of (by first | assumption | exact HFF.out | exact below_drewN' 1) hb5 (Nat.le_refl _); clear hb5; have z1 := (hb6.cell (p := ⟨tb, 1, none⟩) hlt1).trans t1; obtain ⟨z2, z3⟩ := HG.out _ hb6)
        all_goals
          have HB6 := Lib.hid (by assumption : Below wr.heap.size wr _)
          clear hb6
          go_wp2_with fail
          clear hm4 hm5 hm6
          go_roundw
          case rel =>
            exact ⟨L1.set m x2, x1, g1 + 1, mm, rfl, by go_num, by first | rfl | go_num, Lib.hid HX.out.1, HX.out.2.1, by omega, by have := HM0.out; omega, Lib.hid ⟨by simp [HM.out], in_set HIN.out (by have := HX.out.2.2; omega),
              (HR.out.below HB6.out HR.out.lt).put (by rw [HM.out]; exact hm) _, (HRT.out.below HB6.out (Nat.le_refl _)).chg (chg_set lb m _) HTL.out, (HCH.out.trans (Chg.of_below HB6.out)).trans ((chg_set lb m _).mono (fun k hk => .inr hk))⟩⟩
          case measure => have := HM0.out; simp [intOf]; omega
end Go.Proofs.Ytebjhjmlpodkgaa.KK
