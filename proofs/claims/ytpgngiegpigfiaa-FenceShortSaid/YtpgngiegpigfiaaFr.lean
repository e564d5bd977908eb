/-
  Fences: Make of the reference; Same.
-/
import Derived.Test.YtpgngiegpigfiaaFq
namespace Go.Proofs.Ytpgngiegpigfiaa.KK
open Go.ChangeShapes Go.WideShapes Go.ChangeAt Go.RowKit Go.Proofs

theorem mk_more {n st k : Nat} (h1 : 1 ≤ st) (hk : k ≤ mk n st) (h : ¬ (k + 1) * st < n) : k = mk n st := by
  rcases Nat.lt_or_ge k (mk n st) with g | g
  · exact absurd (mk_idx h1 g) h
  · omega
theorem mk_less {n st k : Nat} (h1 : 1 ≤ st) (h : (k + 1) * st < n) : k < mk n st := by
  unfold mk; rw [if_neg (by omega)]
  have := (Nat.le_div_iff_mul_le (show 0 < st by omega)).2 (show (k + 1) * st ≤ n - 1 by omega)
  omega
set_option maxRecDepth 100000 in
set_option maxHeartbeats 4000000 in
theorem rMake7_any (A : Option Addr) (c : Nat) (xs : List El.En) (s : Int) (w : World) (hf : EsAt w A xs) (hn : xs.length ≤ 4294967295) (hs : Sized xs) (hcap : xs.length ≤ c) :
    Calls Try.prog 14 #[.slice A xs.length c, .int .i64 s] w (MakeOut s xs w) := by
  have hb0 := alloc_below w (.cells #[.int .i64 0, .slice none 0 0] 25)
  have HR := Row2.new w 25 (.int .i64 0) (.slice none 0 0)
  have J := Lib.hid (fun (w' : World) (hb : Below w.heap.size w w') => fList_any A c xs w' (hf.below hb (Nat.le_refl _)) hn hs)
  by_cases hl : (listE xs).2 = 0
  rotate_left
  · have HL := Lib.hid (mkEr_list (s := s) hl)
    obtain ⟨b1, b2⟩ := ne_b hl
    clear hf hs
    generalize (listE xs).1 = r0' at *
    generalize (listE xs).2 = r at *
    go_enter Try.func14, Try.ntmps14
    go_wp2_with fail
    refine (J.out _ hb0).mono ?_
    rintro e w1 ⟨rfl, hb⟩
    have HB1 := Lib.hid (eb_of hb0 hb (Nat.le_refl _))
    have HR2 := HR.below hb (Nat.le_refl _)
    clear hb hb0 HR
    have r0 := HR2.c0
    have r1 := HR2.c1
    have z0 := HR2.fz 0
    have z1 := HR2.fz 1
    go_wp2_with fail
    have HX := HR2.set (.int .i64 0) (.slice none 0 0)
    have k0 := HX.c0
    have k1 := HX.c1
    refine bodyPost_ret (v := .tuple #[.agg #[.int .i64 0, .slice none 0 0], .int .i64 r]) (by simp [results, Try.f14, go_sem, k0, k1]) rfl ?_
    exact MakeOut.err HL.out (by first | assumption | decide) rfl (set2_below HB1.out (Nat.le_refl _) _ _)
  cases hst : stepB s with
  | false =>
    have hst' : ¬ (1 ≤ s ∧ s ≤ 64) := by simp [stepB] at hst; omega
    by_cases hs1 : s < 1
    · clear hst'
      have HL := Lib.hid (mkEr_step hl hst)
      rw [hl] at J
      clear hf hs hl hst
      generalize (listE xs).1 = r0' at *
      go_enter Try.func14, Try.ntmps14
      go_wp2_with fail
      refine (J.out _ hb0).mono ?_
      rintro e w1 ⟨rfl, hb⟩
      have HB1 := Lib.hid (eb_of hb0 hb (Nat.le_refl _))
      have HR2 := HR.below hb (Nat.le_refl _)
      clear hb hb0 HR
      have r0 := HR2.c0
      have r1 := HR2.c1
      have z0 := HR2.fz 0
      have z1 := HR2.fz 1
      go_wp2_with fail
      have HX := HR2.set (.int .i64 0) (.slice none 0 0)
      have k0 := HX.c0
      have k1 := HX.c1
      refine bodyPost_ret (v := .tuple #[.agg #[.int .i64 0, .slice none 0 0], .int .i64 7]) (by simp [results, Try.f14, go_sem, k0, k1]) rfl ?_
      exact MakeOut.err HL.out (by first | assumption | decide) rfl (set2_below HB1.out (Nat.le_refl _) _ _)
    · have hs2 : 64 < s := by omega
      clear hst'
      have HL := Lib.hid (mkEr_step hl hst)
      rw [hl] at J
      clear hf hs hl hst
      generalize (listE xs).1 = r0' at *
      go_enter Try.func14, Try.ntmps14
      go_wp2_with fail
      refine (J.out _ hb0).mono ?_
      rintro e w1 ⟨rfl, hb⟩
      have HB1 := Lib.hid (eb_of hb0 hb (Nat.le_refl _))
      have HR2 := HR.below hb (Nat.le_refl _)
      clear hb hb0 HR
      have r0 := HR2.c0
      have r1 := HR2.c1
      have z0 := HR2.fz 0
      have z1 := HR2.fz 1
      go_wp2_with fail
      have HX := HR2.set (.int .i64 0) (.slice none 0 0)
      have k0 := HX.c0
      have k1 := HX.c1
      refine bodyPost_ret (v := .tuple #[.agg #[.int .i64 0, .slice none 0 0], .int .i64 7]) (by simp [results, Try.f14, go_sem, k0, k1]) rfl ?_
      exact MakeOut.err HL.out (by first | assumption | decide) rfl (set2_below HB1.out (Nat.le_refl _) _ _)
  | true =>
    have HL := Lib.hid (mkEr_ok hl hst)
    obtain ⟨st, rfl⟩ : ∃ st : Nat, s = (st : Int) := ⟨s.toNat, by simp [stepB] at hst; omega⟩
    have hst2 : 1 ≤ st ∧ st ≤ 64 := by simp [stepB] at hst; omega
    obtain ⟨hl5, hchk, hasc⟩ := list_ok hl
    have e1 : ¬ ((st : Int) < 1) := by omega
    have e2 : ¬ (64 < (st : Int)) := by omega
    rw [hl] at J
    clear hl hst
    generalize (listE xs).1 = r0' at *
    go_enter Try.func14, Try.ntmps14
    go_wp2_with fail
    refine (J.out _ hb0).mono ?_
    rintro e w1 ⟨rfl, hb⟩
    have HB1 := Lib.hid (eb_of hb0 hb (Nat.le_refl _))
    have HR2 := HR.below hb (Nat.le_refl _)
    clear hb hb0 HR
    go_wp2_with fail
    have hF : w.heap.size < w1.heap.size := HR2.lt
    have hF1 : w.heap.size ≤ w1.heap.size + 1 := by omega
    have HRF := Row2.new w1 25 (.int .i64 (st : Int)) (.slice none 0 0)
    have HR3 := HR2.below (alloc_below w1 (.cells #[.int .i64 (st : Int), .slice none 0 0] 25)) (Nat.le_refl _)
    have HB3 := Lib.hid (HB1.out.alloc HB1.out.size (.cells #[.int .i64 (st : Int), .slice none 0 0] 25))
    obtain ⟨i0, hi, hz0, hz1, hz2⟩ := info_parts infoSt
    have HG := Lib.hid hf
    have hmk5 : mk xs.length st ≤ xs.length := mk_le
    clear HR2 hf
    go_loopw [9] (fun i wr => ∃ (k : Nat) (v : Value), k ≤ mk xs.length st ∧ i = .int .i64 ((k + 1) * st : Nat) ∧ Row2 wr w.heap.size 25 (.int .i64 0) (.slice none 0 0) ∧ Row2 wr w1.heap.size 25 (.int .i64 (st : Int)) v ∧ wr.ownsRow (w1.heap.size + 1) 9 1 v k (strs ((makeM st xs).take k)) ∧ Below w.heap.size w wr) (fun i _ => xs.length + 64 - (intOf i).toNat)
    case atStart => exact ⟨0, .slice none 0 0, Nat.zero_le _, by simp, HR3, HRF, World.ownsRow_nil _ _ _ _, HB3.out⟩
    case round =>
      obtain ⟨k, v, hk, rfl, HR4, HRF, hown, hb⟩ := hrel
      have HB := Lib.hid hb
      clear hb HR3
      by_cases hix : (k + 1) * st < xs.length
      · have hlt := mk_less hst2.1 hix
        have hord := makeM_ok hst2.1 hasc hlt
        have J2 := Lib.hid (fun w => rbtw_call (keyAt xs ((k + 1) * st - 1)) (keyAt xs ((k + 1) * st)) w hord (keyAt_size (fun x hx => (El.chk_of (hchk x hx)).1) (by omega)) (keyAt_size (fun x hx => (El.chk_of (hchk x hx)).1) hix))
        have HT := Lib.hid (make_take hlt)
        obtain ⟨b', off', rfl, hbl', hc'⟩ := (HG.out.below HB.out (Nat.le_refl _)).key (by omega)
        have c1 := hc' ((k + 1) * st - 1) (by omega)
        have c2 := hc' ((k + 1) * st) hix
        have hnext : (k + 1 + 1) * st = (k + 1) * st + st := by rw [Nat.add_mul (k + 1) 1, Nat.one_mul]
        have HNX : Hid ((k + 1 + 1) * st = (k + 1) * st + st) := Lib.hid hnext
        have hpos : 1 ≤ (k + 1) * st := Nat.le_trans hst2.1 (Nat.le_mul_of_pos_left _ (by omega))
        clear hord hc' hnext
        generalize btwK (keyAt xs ((k + 1) * st - 1)) (keyAt xs ((k + 1) * st)) = m at *
        generalize keyAt xs ((k + 1) * st - 1) = a1 at *
        generalize keyAt xs ((k + 1) * st) = a2 at *
        obtain ⟨q, hq⟩ : ∃ q, (k + 1) * st = q + 1 := ⟨(k + 1) * st - 1, by omega⟩
        rw [hq] at c1 c2 hix HNX ⊢
        rw [show q + 1 - 1 = q by omega] at c1
        have hqb : (q : Int) < (xs.length : Int) := by omega
        have hqb1 : (q : Int) + 1 < (xs.length : Int) := by omega
        have hqw : IntKind.i64.wrap (q : Int) = (q : Int) := by rw [IntKind.wrap_i64]; omega
        clear hpos hq
        have c1 := abv_cell hbl' c1
        have c2 := abv_cell hbl' c2
        go_wp2_with fail
        refine wp_region_abv (by first | assumption | kernel_rfl) (by kernel_rfl) ?_
        repeat (first | go_big_quiet_step (exact callAbv (J2.out _)) | quiet_step (exact callAbv (J2.out _)))
        refine wpQuiet_nil ?_
        intro w4 hw4
        obtain ⟨p, hp⟩ := hw4
        have hb : Below wr.heap.size wr w4 := by rw [hp]; exact p.h
        have HB4 := Lib.hid (eb_of HB.out hb (Nat.le_refl _))
        have hown := own_bel hown hb
        have HRF := HRF.below hb (Nat.le_refl _)
        have HR4 := HR4.below hb (Nat.le_refl _)
        have f0 := HRF.c0
        have f1 := HRF.c1
        have N2 := Lib.hid (cell_one_str w4 (.string m))
        have hsz4 := HB4.out.size
        have hF4 := HRF.lt
        clear hb hp p c1 c2
        go_wp2_with (at_builtin; go_loud (refine wpList_append_own _ rfl (.tmp 57) (.tmp 59) 23 rfl (w1.heap.size + 1) 9 i0 (.string ⟨#[]⟩) 1 16 Try.underlying23 hi hz0 hz1 hz2 rfl (by decide) _ k _ rfl (hown.alloc _) ⟨w4.heap.size, 0, none⟩ 1 1 [.string m] rfl rfl N2.out (by simp [Value.oneCell']) (by unfold maxLen; omega) (by omega) (by simp; omega) ?_; intro v5 w5 hown5 hg5 _; obtain ⟨A5, c5, hv5⟩ := own_slice hown5; subst hv5; have hne : ∀ g, v.ownBlock = some g → w1.heap.size + 1 ≤ g := (fun g hg => (hown.lt g hg).1); have hb5 := (HB4.out.alloc HB4.out.size (.cells #[.string m] 9)).grown hg5 (by simp; omega) (fun g hg => Nat.le_trans hF1 (hne g hg)); have HB5 := Lib.hid hb5; have HRF5 := (HRF.below (alloc_below w4 (.cells #[.string m] 9)) (Nat.le_refl _)).chg (Chg.of_grown hg5) (fun e => absurd (hne _ e.symm) (by omega)); have HR5 := (HR4.below (alloc_below w4 (.cells #[.string m] 9)) (Nat.le_refl _)).chg (Chg.of_grown hg5) (fun e => absurd (hne _ e.symm) (by omega)); have p0 := HRF5.c0; have p1 := HRF5.c1; have z1 := HRF5.fz 1; have HO5 := Lib.hid hown5; clear hg5 hb5 hown5))
        go_roundw
        case rel => exact ⟨k + 1, .slice A5 (k + 1) c5, by omega, by rw [HNX.out]; go_num, HR5.chg (chg_set w1.heap.size 1 _) (by omega), HRF5.set1 _, by rw [HT.out, strs_snoc]; exact (chg_set w1.heap.size 1 _).own HO5.out (fun g hg e => by have := (HO5.out.lt g hg).1; omega), HB5.out.setCell (p := ⟨w1.heap.size, 1, none⟩) (by simp; omega) _⟩
        case measure => simp [intOf]; omega
      · have hke : k = mk xs.length st := mk_more hst2.1 hk hix
        have hmm : (mk xs.length st + 1) * st ≤ xs.length + 64 := by
          rw [Nat.add_mul, Nat.one_mul]
          have := mk_mul (n := xs.length) hst2.1 (Nat.le_refl (mk xs.length st)); omega
        have hix2 : ¬ (((k + 1) * st : Nat) : Int) < (xs.length : Int) := by omega
        obtain ⟨A2, c2, rfl⟩ := own_slice hown
        rw [show (makeM st xs).take k = makeM st xs from List.take_of_length_le (by rw [makeM_len]; omega)] at hown
        subst hke
        obtain ⟨hss, hge⟩ := SsAt.of_own (makeM_len st xs).symm hown
        have HSS := Lib.hid hss
        have HGE := Lib.hid hge
        have f0 := HRF.c0
        have f1 := HRF.c1
        have r0 := HR4.c0
        have r1 := HR4.c1
        have z0 := HR4.fz 0
        have z1 := HR4.fz 1
        clear hown hss hge
        go_wp2_with fail
        have HX := HR4.set (.int .i64 (st : Int)) (.slice A2 (mk xs.length st) c2)
        have k0 := HX.c0
        have k1 := HX.c1
        refine bodyPost_ret (v := .tuple #[.agg #[.int .i64 (st : Int), .slice A2 (mk xs.length st) c2], .int .i64 0]) (by simp [results, Try.f14, go_sem, k0, k1]) rfl ?_
        exact MakeOut.ok HL.out rfl ((HSS.out.chg (chg_set w.heap.size 0 _) (fun a h e => by have := HGE.out a h; omega)).chg (chg_set w.heap.size 1 _) (fun a h e => by have := HGE.out a h; omega)) (set2_below HB.out (Nat.le_refl _) _ _)
end Go.Proofs.Ytpgngiegpigfiaa.KK
