/-
  Merges: the walk of MergeSkips.
-/
import Derived.Test.YtebjhjmlpodkgaaTb
import Derived.Test.YtebjhjmlpodkgaaHg
namespace Go.Proofs.Ytebjhjmlpodkgaa.KK
open Go.ChangeShapes Go.WideShapes Go.ChangeAt Go.RowKit Go.Proofs

theorem skN_lt {S : List St} {key : ByteArray} {j : Nat} (h : j < skN S key) : ∃ h' : j < S.length, lessK key S[j] = true := by
  unfold skN at h
  have hp : (S.takeWhile (lessK key)) <+: S := List.takeWhile_prefix _
  have hl := hp.length_le
  refine ⟨by omega, ?_⟩
  have e : (S.takeWhile (lessK key))[j] = S[j] := hp.getElem h
  rw [← e]
  exact List.all_eq_true.1 (List.all_takeWhile (p := lessK key) (l := S)) _ (List.getElem_mem h)
theorem skN_le (S : List St) (key : ByteArray) : skN S key ≤ S.length := (List.takeWhile_prefix _).length_le
theorem skN_stop : ∀ {S : List St} {key : ByteArray} (h : skN S key < S.length), lessK key S[skN S key] = false
  | [], _, h => by simp at h
  | x :: S, key, h => by
    cases hx : lessK key x with
    | false =>
      have : skN (x :: S) key = 0 := by unfold skN; rw [List.takeWhile_cons_of_neg (by rw [hx]; simp)]; rfl
      simp only [this, List.getElem_cons_zero, hx]
    | true =>
      have e : skN (x :: S) key = skN S key + 1 := by unfold skN; rw [List.takeWhile_cons_of_pos hx]; rfl
      have h' : skN S key < S.length := by rw [e] at h; simpa using h
      have := skN_stop h'
      simp only [e, List.getElem_cons_succ, this]
theorem left_zeros : ∀ (xss : List (List El.En)), left xss (List.replicate xss.length 0) = (xss.map List.length).sum
  | [] => rfl
  | l :: t => by
    simp only [List.length_cons, List.replicate_succ, left, List.map_cons, List.sum_cons, left_zeros t]; omega
theorem same_good (R A K L R' A' K' L' : Option Addr) (cr ca ck cl cr' ca' ck' cl' n : Nat) (rs : List Rn) (a : List Int) (w : World) (hn : rs.length = n) (hg : Gd (ess rs) a) (hr : RdOk w A K L R rs a) (hr' : RdOk w A' K' L' R' rs a) (hs : SizedR rs) :
    Calls Try.prog 19 #[.agg #[.slice R n cr, .slice A n ca, .slice K n ck, .slice L n cl, .int .i64 (winA (ess rs) a : Nat)], .agg #[.slice R' n cr', .slice A' n ca', .slice K' n ck', .slice L' n cl', .int .i64 (winA (ess rs) a : Nat)]] w fun e w' => e = .returned (.bool true) ∧ Below w.heap.size w w' := by
  have K := same11_eq R R' A A' K K' L L' cr cr' ca ca' ck ck' cl cl' rs rs a (nks (ess rs) a) (loL (nks (ess rs) a)) (winA (ess rs) a : Nat) w rfl (st_of hr) (st_of hr') (fit_of hg hs)
  rw [loL_len, hg.len, ess_len, show a.length = n by rw [hg.at_.1, ess_len, hn], hn] at K
  exact K
theorem skip_sb {rs : List Rn} {n : Nat} {z : List Int} (H : Rs11 rs n z) {key : ByteArray} {w : World} {O : Nat → Prop} {gr ga gk gl c1 c2 c3 c4 : Nat} (hO : ∀ j, O j → j < w.heap.size)
    (hr : RdN O w (some ⟨ga, 0, none⟩) (some ⟨gk, 0, none⟩) (some ⟨gl, 0, none⟩) (some ⟨gr, 0, none⟩) rs z) :
    Calls Try.prog 30 #[.agg #[.slice (some ⟨gr, 0, none⟩) n c1, .slice (some ⟨ga, 0, none⟩) n c2, .slice (some ⟨gk, 0, none⟩) n c3, .slice (some ⟨gl, 0, none⟩) n c4, .int .i64 (winA (ess rs) z : Nat)], .string key] w fun e w' =>
      ∃ hr ha hk hl d1 d2 d3 d4 : Nat, e = .returned (.tuple #[.agg #[.slice (some ⟨hr, 0, none⟩) n d1, .slice (some ⟨ha, 0, none⟩) n d2, .slice (some ⟨hk, 0, none⟩) n d3, .slice (some ⟨hl, 0, none⟩) n d4, .int .i64 (winA (ess rs) (pN (ess rs) z (skN (mS (ess rs) z) key)) : Nat)], .int .i64 0]) ∧
        RdN O w' (some ⟨ha, 0, none⟩) (some ⟨hk, 0, none⟩) (some ⟨hl, 0, none⟩) (some ⟨hr, 0, none⟩) rs (pN (ess rs) z (skN (mS (ess rs) z) key)) ∧ w.heap.size ≤ ha ∧ Below w.heap.size w w' := by
  refine (skip_good _ _ _ _ c1 c2 c3 c4 n rs z key w H.n H.gd H.inv hr.ok H.sized H.cap).mono ?_
  rintro e w' ⟨g1, g2, g3, g4, d1, d2, d3, d4, he, hst⟩
  exact ⟨g1, g2, g3, g4, d1, d2, d3, d4, he, hst.rdn H.clip hr.ok.runs.each hO hr.ns, by have := hst.ord; omega, hst.below⟩
def sumT (xss : List (List El.En)) (k : Nat) : Nat := ((xss.take k).map List.length).sum
theorem sumT_succ {xss : List (List El.En)} {k : Nat} (h : k < xss.length) : sumT xss (k + 1) = sumT xss k + xss[k].length := by
  unfold sumT
  rw [List.take_succ_eq_append_getElem h, List.map_append, List.sum_append]; simp
theorem sumT_all (xss : List (List El.En)) : sumT xss xss.length = (xss.map List.length).sum := by unfold sumT; rw [List.take_length]
set_option maxRecDepth 100000 in
set_option maxHeartbeats 8000000 in
theorem Skips_any (A : Option Addr) (c : Nat) (rs0 : List Rn) (key : ByteArray) (w : World) (hf : RsAt w A rs0) (hn : rs0.length ≤ 9223372036854775807) (hs : SizedM rs0) (hcp : CapR rs0) (hkz : key.size ≤ 9223372036854775807) :
    Calls Try.prog 7 #[.slice A rs0.length c, .string key] w fun e w' => e = .returned (.bool true) ∧ Below w.heap.size w w' := by
  have JF := Lib.hid (far11_any A c rs0 w hf hn hs)
  obtain ⟨n, hnn⟩ : ∃ n, rs0.length = n := ⟨_, rfl⟩
  rw [hnn] at JF ⊢
  have HN := Lib.hid hnn
  have HF := Lib.hid hf
  have HS := Lib.hid hs
  have HCP := Lib.hid hcp
  clear hnn hf hs hn hcp
  go_enter Try.func7, Try.ntmps7
  go_wp2_with fail
  refine JF.out.mono ?_
  rintro e w1 ⟨b, rfl, hnear, hb⟩
  have HBW := Lib.hid hb
  cases b with
  | true =>
    clear hnear hb
    go_wp2_with fail
    refine (awake11_any _).mono ?_
    rintro e w9 ⟨rfl, hb9⟩
    have HB9 := Lib.hid (eb_of HBW.out hb9 (Nat.le_refl _))
    clear hb9
    go_wp2_with fail
    go_ret
    exact ⟨rfl, HB9.out⟩
  | false =>
  have hnr := hnear rfl
  have hsr := hnr.sized HS.out
  have hf1 := HF.out.below hb (Nat.le_refl _)
  clear hnear hb JF
  by_cases hk2 : 200 < key.size
  · have hkd : decide ((200 : Int) < (key.size : Int)) = true := by rw [decide_eq_true_eq]; omega
    clear hnr hsr hf1
    go_wp2_with fail
    refine (awake11_any _).mono ?_
    rintro e w9 ⟨rfl, hb9⟩
    have HB9 := Lib.hid (eb_of HBW.out hb9 (Nat.le_refl _))
    clear hb9
    go_wp2_with fail
    go_ret
    exact ⟨rfl, HB9.out⟩
  have hkd : decide ((200 : Int) < (key.size : Int)) = false := by rw [decide_eq_false_iff_not]; omega
  by_cases hk : (runsE (ess rs0)).2 = 0
  rotate_left
  · have J2 := Lib.hid (begin_bad A c rs0 w1 hf1 (by have := hnr.1; omega) hsr hk)
    rw [HN.out] at J2
    obtain ⟨b1, b2⟩ := ne_b hk
    clear hk hnr hsr hf1
    generalize (runsE (ess rs0)).2 = r2 at *
    generalize (runsE (ess rs0)).1 = r1 at *
    have HB1 := HBW
    clear HBW
    go_wp2_with fail
    refine J2.out.mono ?_
    rintro e w3 ⟨rfl, hb3⟩
    have HBW := Lib.hid (bA (eb_of HB1.out hb3 (Nat.le_refl _)) (.cells #[.slice none 0 0, .slice none 0 0, .slice none 0 0, .slice none 0 0, .int .i64 0] 30))
    clear hb3
    go_wp2_with fail
    refine (awake11_any _).mono ?_
    rintro e w9 ⟨rfl, hb9⟩
    have HB9 := Lib.hid (eb_of HBW.out hb9 (Nat.le_refl _))
    clear hb9
    go_wp2_with fail
    go_ret
    exact ⟨rfl, HB9.out⟩
  have J2 := Lib.hid (begin_sb A c n rs0 (rs0.map clipR) (zerosA n) w1 HN.out rfl rfl hf1 hsr HCP.out hk)
  have hg := Gd.zeros hk
  have h1 := hg.len1
  have HR : Hid (Rs11 (rs0.map clipR) rs0.length (zerosA rs0.length)) := Lib.hid ⟨by simp, clip_clip rs0, sizedR_clip hsr, capR_clip HCP.out, by rw [ess_clip]; exact hg, by rw [ess_clip]; exact inv_zeros _⟩
  have HF1 := Lib.hid hf1
  have HSUM : Hid (left (ess (rs0.map clipR)) (zerosA n) = ((ess rs0).map List.length).sum) := Lib.hid (by
    have := left_zeros (ess rs0)
    rw [ess_len, HN.out] at this
    rw [ess_clip]; exact this)
  have HNEAR := Lib.hid hnr
  rw [HN.out] at HR h1
  obtain ⟨z, hz⟩ : ∃ z, zerosA n = z := ⟨_, rfl⟩
  rw [hz] at J2 HR HSUM
  clear hk hnr hsr hf1 hg hz
  obtain ⟨rs, hrs⟩ : ∃ rs, rs0.map clipR = rs := ⟨_, rfl⟩
  rw [hrs] at J2 HR HSUM
  clear hrs
  have HLF := Lib.hid HR.out.gd.mS_len
  obtain ⟨m, hm⟩ : ∃ m, skN (mS (ess rs) z) key = m := ⟨_, rfl⟩
  have HM := Lib.hid hm
  have HB1 := HBW
  clear HBW hm
  go_wp2_with fail
  refine J2.out.mono ?_
  rintro e w2 ⟨sr, sa, sk, sl', d1, d2, d3, d4, rfl, hrd2, hb2⟩
  obtain ⟨p, hp⟩ : ∃ p, winA (ess rs) z = p := ⟨_, rfl⟩
  have HP := Lib.hid hp
  rw [hp]
  obtain ⟨w3, hw3⟩ : ∃ w3, w2.alloc (.cells #[.slice (some ⟨sr, 0, none⟩) n d1, .slice (some ⟨sa, 0, none⟩) n d2, .slice (some ⟨sk, 0, none⟩) n d3, .slice (some ⟨sl', 0, none⟩) n d4, .int .i64 (p : Int)] 30) = w3 := ⟨_, rfl⟩
  have hb23 : Below w2.heap.size w2 w3 := hw3 ▸ alloc_below _ _
  have HROW3 : Hid (Rw5 w3 w2.heap.size 30 (.slice (some ⟨sr, 0, none⟩) n d1) (.slice (some ⟨sa, 0, none⟩) n d2) (.slice (some ⟨sk, 0, none⟩) n d3) (.slice (some ⟨sl', 0, none⟩) n d4) (.int .i64 (p : Int))) := Lib.hid (hw3 ▸ heap_alloc_new w2 _)
  have HRD3 := Lib.hid (hrd2.below hb23 (Nat.le_refl _))
  have HB3 := Lib.hid (eb_of (eb_of HB1.out hb2 (Nat.le_refl _)) hb23 (Nat.le_refl _))
  have HB13 := Lib.hid (eb_of hb2 hb23 (Nat.le_refl _))
  have HW12 : Hid (w1.heap.size ≤ w2.heap.size) := Lib.hid hb2.size
  have JK := Lib.hid (skip_sb (key := key) (c1 := d1) (c2 := d2) (c3 := d3) (c4 := d4) HR.out (O := (fun j => j = w2.heap.size)) (by intro j e; have := HROW3.out.lt; omega) (HRD3.out.sub (fun j e => by omega)))
  rw [HM.out, hp] at JK
  have y0 := HROW3.out.c0
  have y1 := HROW3.out.c1
  have y2 := HROW3.out.c2
  have y3 := HROW3.out.c3
  have y4 := HROW3.out.c4
  clear hrd2 hb2 hb23 hp
  go_wp2_with fail
  refine JK.out.mono ?_
  rintro e w4 ⟨g1, g2, g3, g4, f1, f2, f3, f4, rfl, hrd4, hg2, hb4⟩
  obtain ⟨pm, hpm⟩ : ∃ pm, winA (ess rs) (pN (ess rs) z m) = pm := ⟨_, rfl⟩
  have HPM := Lib.hid hpm
  rw [hpm]
  obtain ⟨w5, hw5⟩ : ∃ w5, w4.alloc (.cells #[.slice (some ⟨g1, 0, none⟩) n f1, .slice (some ⟨g2, 0, none⟩) n f2, .slice (some ⟨g3, 0, none⟩) n f3, .slice (some ⟨g4, 0, none⟩) n f4, .int .i64 (pm : Int)] 30) = w5 := ⟨_, rfl⟩
  have hb45 : Below w4.heap.size w4 w5 := hw5 ▸ alloc_below _ _
  have hb35 := eb_of hb4 hb45 (Nat.le_refl _)
  have HW4 : Hid (w2.heap.size < w4.heap.size) := Lib.hid (Nat.lt_of_lt_of_le HROW3.out.lt hb4.size)
  have HS5 : Hid (SB w5 w2.heap.size (fun j => j = w2.heap.size) n rs (pN (ess rs) z 0)) := Lib.hid ⟨sr, sa, sk, sl', d1, d2, d3, d4, by show Rw5 _ _ _ _ _ _ _ (.int .i64 (winA (ess rs) z : Nat)); rw [HP.out]; exact HROW3.out.below hb35 (Nat.le_refl _), (HRD3.out.sub (fun j e => by omega)).below hb35 (Nat.le_refl _)⟩
  have HWANT : Hid (Rw5 w5 w4.heap.size 30 (.slice (some ⟨g1, 0, none⟩) n f1) (.slice (some ⟨g2, 0, none⟩) n f2) (.slice (some ⟨g3, 0, none⟩) n f3) (.slice (some ⟨g4, 0, none⟩) n f4) (.int .i64 (pm : Int))) := Lib.hid (hw5 ▸ heap_alloc_new w4 _)
  have HRW : Hid (RdN (fun j => j = w2.heap.size) w5 (some ⟨g2, 0, none⟩) (some ⟨g3, 0, none⟩) (some ⟨g4, 0, none⟩) (some ⟨g1, 0, none⟩) rs (pN (ess rs) z m)) := Lib.hid (hrd4.below hb45 (Nat.le_refl _))
  have HB5 := Lib.hid (eb_of HB3.out hb35 (Nat.le_refl _))
  have HB15 := Lib.hid (eb_of HB13.out hb35 (Nat.le_refl _))
  clear hrd4 hg2 hb4 hb45 hb35 hpm y0 y1 y2 y3 y4 hw3 HROW3 HRD3
  go_wp2_with fail
  clear hw5
  have HRN := Lib.hid (HF1.out.below HB15.out (Nat.le_refl _))
  have hn34 : n ≤ 34 := by have := HNEAR.out.1; rw [HN.out] at this; exact this
  go_loopw [10, 11] (fun y i wr => ∃ k : Nat, k ≤ n ∧ i = .int .i64 k ∧ y = .int .i64 (sumT (ess rs0) k : Nat) ∧ sumT (ess rs0) k ≤ k * 5005 ∧ w5 = wr) (fun _ i _ => n - (intOf i).toNat)
  case atStart => exact ⟨0, Nat.zero_le _, rfl, rfl, Nat.le_refl _, rfl⟩
  case round =>
    obtain ⟨k, hk, rfl, rfl, hsm, rfl⟩ := hrel
    by_cases hlt : k < n
    · have hkr : k < rs0.length := by rw [HN.out]; exact hlt
      rcases HRN.out with h0 | ⟨rb, ro, rfl, hrb, hrc⟩
      · rw [h0] at hkr; simp at hkr
      obtain ⟨r1, _⟩ := hrc k hkr
      have hlen := HNEAR.out.2 _ (List.getElem_mem hkr)
      have hst : sumT (ess rs0) (k + 1) = sumT (ess rs0) k + rs0[k].2.2.length := by rw [sumT_succ (by rw [ess_len]; exact hkr), ess_get hkr]
      have HST := Lib.hid hst
      obtain ⟨q, hq⟩ : ∃ q, sumT (ess rs0) k = q := ⟨_, rfl⟩
      have HQ := Lib.hid hq
      rw [hq] at hsm HST ⊢
      generalize rs0[k].2.2.length = m1 at *
      generalize rs0[k].1 = A1 at *
      generalize rs0[k].2.1 = d1' at *
      clear hrc hst hq
      have hk5 : k * 5005 ≤ 34 * 5005 := Nat.mul_le_mul_right _ (by omega)
      have hwq : IntKind.i64.wrap ((q : Int) + (m1 : Int)) = (q : Int) + (m1 : Int) := IntWalk.i64_in _ (by omega)
      have hki : (k : Int) < (n : Int) := by omega
      go_wp2_with fail
      go_roundw
      case rel => exact ⟨k + 1, by omega, by go_num, by rw [HST.out]; go_num, by rw [HST.out]; omega, trivial⟩
      case measure => simp [intOf]; omega
    obtain rfl : k = n := by omega
    have hall : sumT (ess rs0) k = left (ess rs) z := by
      rw [HSUM.out, ← sumT_all, ess_len, HN.out]
    obtain ⟨q, hq⟩ : ∃ q, sumT (ess rs0) k = q := ⟨_, rfl⟩
    rw [hq] at hall hsm ⊢
    have HQL := Lib.hid hall
    have hml : m ≤ q := by rw [hall, ← HM.out, ← HLF.out]; exact skN_le _ _
    have hk5 : k * 5005 ≤ 34 * 5005 := Nat.mul_le_mul_right _ (by omega)
    have hwq : IntKind.i64.wrap ((q : Int) + 1) = (q : Int) + 1 := IntWalk.i64_in _ (by omega)
    clear hq hall
    generalize hnk : k = n at *
    clear hnk
    go_wp2_with fail
    go_loopw [12, 13, 14, 15, 16, 17, 18] (fun i _ _ _ _ _ _ wr => ∃ j : Nat, j ≤ m ∧ i = .int .i64 j ∧ Hid (SB wr w2.heap.size (fun j => j = w2.heap.size) n rs (pN (ess rs) z j) ∧ Chg (fun j => j = w2.heap.size) w5 wr)) (fun i _ _ _ _ _ _ _ => m + 1 - (intOf i).toNat)
    case atStart => exact ⟨0, Nat.zero_le _, rfl, Lib.hid ⟨HS5.out, Chg.refl _⟩⟩
    case round =>
      obtain ⟨j, hj, rfl, HH⟩ := hrel
      have hjl : j ≤ left (ess rs) z := by rw [← HQL.out]; omega
      have hwj : IntKind.i64.wrap ((j : Int) + 1) = (j : Int) + 1 := IntWalk.i64_in _ (by omega)
      have hjd : decide ((q : Int) + 1 < (j : Int)) = false := by rw [decide_eq_false_iff_not]; omega
      obtain ⟨gr, ga, gk, gl, e1, e2, e3, e4, hrow, hrd⟩ := HH.out.1
      have hO5 : w2.heap.size < wr.heap.size := hrow.lt
      have JP := Lib.hid (peek_good _ _ _ _ e1 e2 e3 e4 n rs (pN (ess rs) z j) wr HR.out.n (HR.out.at_ hjl).1 (HR.out.at_ hjl).2 hrd.ok HR.out.sized HR.out.cap)
      have JN := Lib.hid (fun w' (hb : Below wr.heap.size wr w') => next_sb (c1 := e1) (c2 := e2) (c3 := e3) (c4 := e4) HR.out (k := j) hjl (O := (fun j => j = w2.heap.size)) (by intro i hi; have := hb.size; omega) (hrd.below hb (Nat.le_refl _)))
      obtain ⟨pw, hpw⟩ : ∃ pw, winA (ess rs) (pN (ess rs) z j) = pw := ⟨_, rfl⟩
      have HPW := Lib.hid hpw
      rw [hpw] at JP JN hrow
      have HROW := Lib.hid hrow
      have HRDJ := Lib.hid hrd
      have HCH := Lib.hid HH.out.2
      clear hrow hrd hpw
      have y0 := HROW.out.c0
      have y1 := HROW.out.c1
      have y2 := HROW.out.c2
      have y3 := HROW.out.c3
      have y4 := HROW.out.c4
      by_cases hjm : j < m
      · obtain ⟨hjs, hless⟩ := skN_lt (S := mS (ess rs) z) (key := key) (j := j) (by rw [HM.out]; exact hjm)
        rw [HR.out.gd.mS_get hjs] at hless
        have hdn : doneB (ess rs) (pN (ess rs) z j) = false := HR.out.gd.pN_done (by rw [← HQL.out]; omega)
        have hbl : Op.bytesLess (entA (ess rs) (pN (ess rs) z j)).1.toList key.toList = true := by rw [less_L]; exact hless
        unfold PeekOut at JP
        rw [hdn] at JP
        have HXE : Hid (∀ x, x = entA (ess rs) (pN (ess rs) z j) → x = entA (ess rs) (pN (ess rs) z j)) := Lib.hid (fun _ h => h)
        clear hless hdn hjs
        go_wp2_with fail
        refine JP.out.mono ?_
        rintro e w6 (⟨h, _⟩ | ⟨_, rfl, hb⟩)
        · cases h
        obtain ⟨x, hx⟩ : ∃ x, entA (ess rs) (pN (ess rs) z j) = x := ⟨_, rfl⟩
        rw [hx] at hbl ⊢
        clear hx HXE
        obtain ⟨w7, hw7⟩ : ∃ w7, w6.alloc (.cells #[.string x.1, .string x.2.1, .bool x.2.2.1, .int .i64 x.2.2.2] 45) = w7 := ⟨_, rfl⟩
        have hb67 : Below w6.heap.size w6 w7 := hw7 ▸ alloc_below _ _
        have hb57 := eb_of hb hb67 (Nat.le_refl _)
        have HB57 := Lib.hid hb57
        have HX7 : Hid (Rw4 w7 w6.heap.size 45 (.string x.1) (.string x.2.1) (.bool x.2.2.1) (.int .i64 x.2.2.2)) := Lib.hid (hw7 ▸ heap_alloc_new w6 _)
        have HK7 := Lib.hid (HROW.out.below hb57 (Nat.le_refl _))
        clear hb hb67 hb57 y0 y1 y2 y3 y4 JP
        have y0 := HK7.out.c0
        have y1 := HK7.out.c1
        have y2 := HK7.out.c2
        have y3 := HK7.out.c3
        have y4 := HK7.out.c4
        have xx0 := HX7.out.c0
        go_wp2_with fail
        refine (JN.out _ HB57.out).mono ?_
        rintro e w8 (⟨h, _⟩ | ⟨_, x', r', h1, h2, h3, h4, i1, i2, i3, i4, hxe, hre, rfl, hrd, hb⟩)
        · exact absurd h (by rw [← HQL.out]; omega)
        clear hxe hre
        obtain ⟨pz, hpz⟩ : ∃ pz, winA (ess rs) (pN (ess rs) z (j + 1)) = pz := ⟨_, rfl⟩
        have HPZ := Lib.hid hpz
        rw [hpz]
        obtain ⟨w9, hw9⟩ : ∃ w9, (w8.alloc (.cells #[.string x'.1, .string x'.2.1, .bool x'.2.2.1, .int .i64 x'.2.2.2] 45)).alloc (.cells #[.slice (some ⟨h1, 0, none⟩) n i1, .slice (some ⟨h2, 0, none⟩) n i2, .slice (some ⟨h3, 0, none⟩) n i3, .slice (some ⟨h4, 0, none⟩) n i4, .int .i64 (pz : Int)] 30) = w9 := ⟨_, rfl⟩
        have hb89 : Below w8.heap.size w8 w9 := hw9 ▸ alloc2_below _ _ _
        have HT9 : Hid (Rw5 w9 (w8.heap.size + 1) 30 (.slice (some ⟨h1, 0, none⟩) n i1) (.slice (some ⟨h2, 0, none⟩) n i2) (.slice (some ⟨h3, 0, none⟩) n i3) (.slice (some ⟨h4, 0, none⟩) n i4) (.int .i64 (pz : Int))) := Lib.hid (hw9 ▸ hp3 w8 _ _ rfl)
        have hb79 := eb_of hb hb89 (Nat.le_refl _)
        have HK9 := Lib.hid (HK7.out.below hb79 (Nat.le_refl _))
        have HRD9 := Lib.hid (hrd.below hb89 (Nat.le_refl _))
        have HC9 : Hid (Chg (fun j => j = w2.heap.size) w5 w9) := Lib.hid (HCH.out.trans (.of_below (eb_of HB57.out hb79 (Nat.le_refl _))))
        have HEND : Hid (SB (((((w9.setCell ⟨w2.heap.size, 0, none⟩ (.slice (some ⟨h1, 0, none⟩) n i1)).setCell ⟨w2.heap.size, 1, none⟩ (.slice (some ⟨h2, 0, none⟩) n i2)).setCell ⟨w2.heap.size, 2, none⟩ (.slice (some ⟨h3, 0, none⟩) n i3)).setCell ⟨w2.heap.size, 3, none⟩ (.slice (some ⟨h4, 0, none⟩) n i4)).setCell ⟨w2.heap.size, 4, none⟩ (.int .i64 (pz : Int))) w2.heap.size (fun j => j = w2.heap.size) n rs (pN (ess rs) z (j + 1)) ∧ Chg (fun j => j = w2.heap.size) w5 (((((w9.setCell ⟨w2.heap.size, 0, none⟩ (.slice (some ⟨h1, 0, none⟩) n i1)).setCell ⟨w2.heap.size, 1, none⟩ (.slice (some ⟨h2, 0, none⟩) n i2)).setCell ⟨w2.heap.size, 2, none⟩ (.slice (some ⟨h3, 0, none⟩) n i3)).setCell ⟨w2.heap.size, 3, none⟩ (.slice (some ⟨h4, 0, none⟩) n i4)).setCell ⟨w2.heap.size, 4, none⟩ (.int .i64 (pz : Int)))) := Lib.hid (by
          have c1 := set5C w9 w2.heap.size (.slice (some ⟨h1, 0, none⟩) n i1) (.slice (some ⟨h2, 0, none⟩) n i2) (.slice (some ⟨h3, 0, none⟩) n i3) (.slice (some ⟨h4, 0, none⟩) n i4) (.int .i64 (pz : Int))
          exact ⟨⟨h1, h2, h3, h4, i1, i2, i3, i4, by rw [HPZ.out]; exact HK9.out.set _ _ _ _ _, HRD9.out.chg c1 (fun i e => e)⟩, HC9.out.trans c1⟩)
        clear hb hrd hb89 hb79 hpz y0 y1 y2 y3 y4 xx0 JN hw7 HK7 HX7
        have t0 := HT9.out.c0
        have t1 := HT9.out.c1
        have t2 := HT9.out.c2
        have t3 := HT9.out.c3
        have t4 := HT9.out.c4
        have qq0 := HK9.out.c0
        have qq1 := HK9.out.c1
        have qq2 := HK9.out.c2
        have qq3 := HK9.out.c3
        have qq4 := HK9.out.c4
        have zz0 := HK9.out.fz 0
        have zz1 := HK9.out.fz 1
        have zz2 := HK9.out.fz 2
        have zz3 := HK9.out.fz 3
        have zz4 := HK9.out.fz 4
        go_wp2_with fail
        clear hw9
        go_roundw
        case rel => exact ⟨j + 1, by omega, by go_num, HEND⟩
        case measure => simp [intOf]; omega
      · have hjeq : j = m := by omega
        subst hjeq
        have hpp : pm = pw := HPM.out.symm.trans HPW.out
        subst hpp
        go_wp2_with fail
        refine JP.out.mono ?_
        rintro e w6 (⟨hd, rfl, hb⟩ | ⟨hd, rfl, hb⟩)
        · have hb58 := eb_of hb (alloc_below w6 (.cells #[.string ⟨#[]⟩, .string ⟨#[]⟩, .bool false, .int .i64 0] 45)) (Nat.le_refl _)
          have HK8 := Lib.hid (HROW.out.below hb58 (Nat.le_refl _))
          have HRD8 := Lib.hid (HRDJ.out.below hb58 (Nat.le_refl _))
          have hcw : Chg (fun j => j = w2.heap.size) w5 (w6.alloc (.cells #[.string ⟨#[]⟩, .string ⟨#[]⟩, .bool false, .int .i64 0] 45)) := HCH.out.trans (.of_below hb58)
          have HW8 := Lib.hid (HWANT.out.chg hcw (by have := HW4.out; omega))
          have HRW8 := Lib.hid (HRW.out.chg hcw (fun j e => e))
          have HB8 := Lib.hid (HB5.out.trans (hcw.below (fun j e => by have := HB13.out.size; have := HW12.out; have := HB1.out.size; omega) HB5.out.size))
          have JC := Lib.hid (chk_good _ _ _ _ f1 f2 f3 f4 n rs (pN (ess rs) z j) (w6.alloc (.cells #[.string ⟨#[]⟩, .string ⟨#[]⟩, .bool false, .int .i64 0] 45)) HR.out.n (HR.out.at_ hjl).1 (HR.out.at_ hjl).2 HRW8.out.ok HR.out.sized (w6.alloc (.cells #[.string ⟨#[]⟩, .string ⟨#[]⟩, .bool false, .int .i64 0] 45)) (Below.refl _ _))
          rw [HPM.out] at JC
          have HV6 := Lib.hid (HWANT.out.chg (HCH.out.trans (.of_below hb)) (by have := HW4.out; omega))
          have hlt6 : w4.heap.size < w6.heap.size := HV6.out.lt
          clear hb hb58 hcw y0 y1 y2 y3 y4 JP JN hd
          have v0 := HV6.out.c0
          have v1 := HV6.out.c1
          have v2 := HV6.out.c2
          have v3 := HV6.out.c3
          have v4 := HV6.out.c4
          go_wp2_with fail
          refine JC.out.mono ?_
          rintro e w9 ⟨rfl, hb⟩
          have HK9 := Lib.hid (HK8.out.below hb (Nat.le_refl _))
          have HW9 := Lib.hid (HW8.out.below hb (Nat.le_refl _))
          have HB9 := Lib.hid (eb_of HB8.out hb (Nat.le_refl _))
          have JS := Lib.hid (same_good _ _ _ _ _ _ _ _ e1 e2 e3 e4 f1 f2 f3 f4 n rs (pN (ess rs) z j) w9 HR.out.n (HR.out.at_ hjl).1 (HRD8.out.ok.below hb (Nat.le_refl _)) (HRW8.out.ok.below hb (Nat.le_refl _)) HR.out.sized)
          rw [HPM.out] at JS
          clear hb JC v0 v1 v2 v3 v4
          have v0 := HW9.out.c0
          have v1 := HW9.out.c1
          have v2 := HW9.out.c2
          have v3 := HW9.out.c3
          have v4 := HW9.out.c4
          have u0 := HK9.out.c0
          have u1 := HK9.out.c1
          have u2 := HK9.out.c2
          have u3 := HK9.out.c3
          have u4 := HK9.out.c4
          go_wp2_with fail
          refine JS.out.mono ?_
          rintro e w10 ⟨rfl, hb⟩
          have HBW := Lib.hid (eb_of HB9.out hb (Nat.le_refl _))
          clear hb JS v0 v1 v2 v3 v4 u0 u1 u2 u3 u4
          go_wp2_with fail
          refine (awake11_any _).mono ?_
          rintro e w11 ⟨rfl, hb11⟩
          have HB11 := Lib.hid (eb_of HBW.out hb11 (Nat.le_refl _))
          clear hb11
          go_wp2_with fail
          go_ret
          exact ⟨rfl, HB11.out⟩
        · have hjs : j < (mS (ess rs) z).length := by
            rw [HLF.out]
            rcases Nat.lt_or_ge j (left (ess rs) z) with h | h
            · exact h
            · have e : j = left (ess rs) z := by omega
              rw [(HR.out.at_ hjl).1.done_iff, (HR.out.gd.pN hjl).2, e] at hd; simp at hd
          have hnl : Op.bytesLess (entA (ess rs) (pN (ess rs) z j)).1.toList key.toList = false := by
            have h := skN_stop (S := mS (ess rs) z) (key := key) (by rw [HM.out]; exact hjs)
            simp only [HM.out] at h
            rw [HR.out.gd.mS_get hjs] at h
            rw [less_L]; exact h
          obtain ⟨x, hx⟩ : ∃ x, entA (ess rs) (pN (ess rs) z j) = x := ⟨_, rfl⟩
          rw [hx] at hnl ⊢
          clear hx hd hjs
          obtain ⟨w8, hw8⟩ : ∃ w8, w6.alloc (.cells #[.string x.1, .string x.2.1, .bool x.2.2.1, .int .i64 x.2.2.2] 45) = w8 := ⟨_, rfl⟩
          have hb58 := eb_of hb (hw8 ▸ alloc_below w6 (.cells #[.string x.1, .string x.2.1, .bool x.2.2.1, .int .i64 x.2.2.2] 45) : Below w6.heap.size w6 w8) (Nat.le_refl _)
          have xx0 : w8.cell? ⟨w6.heap.size, 0, none⟩ = some (.string x.1) := Rw4.c0 (t := 45) (hw8 ▸ heap_alloc_new w6 _)
          have HK8 := Lib.hid (HROW.out.below hb58 (Nat.le_refl _))
          have HRD8 := Lib.hid (HRDJ.out.below hb58 (Nat.le_refl _))
          have hcw : Chg (fun j => j = w2.heap.size) w5 w8 := HCH.out.trans (.of_below hb58)
          have HW8 := Lib.hid (HWANT.out.chg hcw (by have := HW4.out; omega))
          have HRW8 := Lib.hid (HRW.out.chg hcw (fun j e => e))
          have HB8 := Lib.hid (HB5.out.trans (hcw.below (fun j e => by have := HB13.out.size; have := HW12.out; have := HB1.out.size; omega) HB5.out.size))
          have JC := Lib.hid (chk_good _ _ _ _ f1 f2 f3 f4 n rs (pN (ess rs) z j) w8 HR.out.n (HR.out.at_ hjl).1 (HR.out.at_ hjl).2 HRW8.out.ok HR.out.sized w8 (Below.refl _ _))
          rw [HPM.out] at JC
          clear hb hb58 hcw y0 y1 y2 y3 y4 JP JN
          have v0 := HW8.out.c0
          have v1 := HW8.out.c1
          have v2 := HW8.out.c2
          have v3 := HW8.out.c3
          have v4 := HW8.out.c4
          go_wp2_with fail
          refine JC.out.mono ?_
          rintro e w9 ⟨rfl, hb⟩
          have HK9 := Lib.hid (HK8.out.below hb (Nat.le_refl _))
          have HW9 := Lib.hid (HW8.out.below hb (Nat.le_refl _))
          have HB9 := Lib.hid (eb_of HB8.out hb (Nat.le_refl _))
          have JS := Lib.hid (same_good _ _ _ _ _ _ _ _ e1 e2 e3 e4 f1 f2 f3 f4 n rs (pN (ess rs) z j) w9 HR.out.n (HR.out.at_ hjl).1 (HRD8.out.ok.below hb (Nat.le_refl _)) (HRW8.out.ok.below hb (Nat.le_refl _)) HR.out.sized)
          rw [HPM.out] at JS
          clear hb JC v0 v1 v2 v3 v4
          have v0 := HW9.out.c0
          have v1 := HW9.out.c1
          have v2 := HW9.out.c2
          have v3 := HW9.out.c3
          have v4 := HW9.out.c4
          have u0 := HK9.out.c0
          have u1 := HK9.out.c1
          have u2 := HK9.out.c2
          have u3 := HK9.out.c3
          have u4 := HK9.out.c4
          go_wp2_with fail
          refine JS.out.mono ?_
          rintro e w10 ⟨rfl, hb⟩
          have HBW := Lib.hid (eb_of HB9.out hb (Nat.le_refl _))
          clear hb JS v0 v1 v2 v3 v4 u0 u1 u2 u3 u4
          go_wp2_with fail
          refine (awake11_any _).mono ?_
          rintro e w11 ⟨rfl, hb11⟩
          have HB11 := Lib.hid (eb_of HBW.out hb11 (Nat.le_refl _))
          clear hb11
          go_wp2_with fail
          go_ret
          exact ⟨rfl, HB11.out⟩
end Go.Proofs.Ytebjhjmlpodkgaa.KK
