/-
  Trees of losers: Build and Check.
-/
import Derived.Test.YtebjhjmlpodkgaaLf
namespace Go.Proofs.Ytebjhjmlpodkgaa.KK
open Go.ChangeShapes Go.WideShapes Go.ChangeAt Go.RowKit Go.Proofs

set_option maxRecDepth 100000 in
set_option maxHeartbeats 2000000 in
theorem build_no (A : Option Addr) (c : Nat) (ks : List LK) (w : World) (hf : KsAt w A ks) (hn : ks.length ≤ 4294967295) (h : keysE ks ≠ 0) :
    Calls Try.prog 71 #[.slice A ks.length c] w fun e w' => e = .returned (.tuple #[.agg #[.slice none 0 0, .slice none 0 0, .int .i64 0], .int .i64 (keysE ks)]) ∧ Below w.heap.size w w' := by
  have J := Lib.hid (fun w' (hb : Below w.heap.size w w') => pKeys_any A c ks w' (hf.below hb (Nat.le_refl _)) hn)
  obtain ⟨b1, b2⟩ := ne_b h
  clear hf h
  generalize keysE ks = r at *
  generalize ks.length = n at *
  go_enter Try.func71, Try.ntmps71
  go_wp2_with fail
  refine (J.out _ (alloc_below _ _)).mono ?_
  rintro e w1 ⟨rfl, hb⟩
  have HR0 : Hid (Row3 w1 w.heap.size 28 (.slice none 0 0) (.slice none 0 0) (.int .i64 0)) := Lib.hid ((hb.block _ (by simp)).trans (heap_alloc_new w _))
  have HB1 := Lib.hid ((alloc_below w _).trans (hb.mono (by simp)))
  clear hb
  have r0 := HR0.out.c0
  have r1 := HR0.out.c1
  have r2 := HR0.out.c2
  have z0 := HR0.out.fz 0
  have z1 := HR0.out.fz 1
  have z2 := HR0.out.fz 2
  go_wp2_with fail
  have HX := HR0.out.set (.slice none 0 0) (.slice none 0 0) (.int .i64 0)
  have k0 := HX.c0
  have k1 := HX.c1
  have k2 := HX.c2
  refine bodyPost_ret (v := .tuple #[.agg #[.slice none 0 0, .slice none 0 0, .int .i64 0], .int .i64 r]) (by simp [results, Try.f71, go_sem, k0, k1, k2]) rfl ?_
  have hc : Chg (fun k => k = w.heap.size) w1 _ := ((chg_set w.heap.size 0 (.slice none 0 0)).trans (chg_set w.heap.size 1 (.slice none 0 0))).trans (chg_set w.heap.size 2 (.int .i64 0))
  exact ⟨rfl, HB1.out.trans (hc.below (fun k hk => by omega) HB1.out.size)⟩
set_option maxRecDepth 100000 in
set_option maxHeartbeats 2000000 in
theorem build_ok (A : Option Addr) (c : Nat) (ks : List LK) (w : World) (hf : KsAt w A ks) (h : keysE ks = 0) :
    Calls Try.prog 71 #[.slice A ks.length c] w fun e w' => ∃ kb lb cp cl, e = .returned (.tuple #[.agg #[.slice (some ⟨kb, 0, none⟩) ks.length cp, .slice (some ⟨lb, 0, none⟩) ks.length cl, .int .i64 (wnr ks : Nat)], .int .i64 0]) ∧ Tree w w' kb lb ks (loL ks) := by
  obtain ⟨h1, h32, _⟩ := keysE_ok h
  have J := Lib.hid (fun w' (hb : Below w.heap.size w w') => by have K := pKeys_any A c ks w' (hf.below hb (Nat.le_refl _)) (by omega); rw [h] at K; exact K)
  have JP := Lib.hid (fun w' (hb : Below w.heap.size w w') => play_any A c ks w' (hf.below hb (Nat.le_refl _)) h1 (by omega))
  clear hf h h1 h32
  generalize wnr ks = ww at *
  generalize loL ks = LL at *
  generalize ks.length = n at *
  go_enter Try.func71, Try.ntmps71
  go_wp2_with fail
  refine (J.out _ (alloc_below _ _)).mono ?_
  rintro e w1 ⟨rfl, hb⟩
  have HR0 : Hid (Row3 w1 w.heap.size 28 (.slice none 0 0) (.slice none 0 0) (.int .i64 0)) := Lib.hid ((hb.block _ (by simp)).trans (heap_alloc_new w _))
  have HB1 := Lib.hid ((alloc_below w _).trans (hb.mono (by simp)))
  clear hb
  go_wp2_with fail
  refine (JP.out _ HB1.out).mono ?_
  rintro e w2 ⟨kb, lb, cp, cl, rfl, ht⟩
  have HT := Lib.hid ht
  have HR2 := Lib.hid (HR0.out.below ht.below (Nat.le_refl _))
  have hlt := HR0.out.lt
  clear ht HR0
  have r0 := HR2.out.c0
  have r1 := HR2.out.c1
  have r2 := HR2.out.c2
  have z0 := HR2.out.fz 0
  have z1 := HR2.out.fz 1
  have z2 := HR2.out.fz 2
  go_wp2_with fail
  have HX := HR2.out.set (.slice (some ⟨kb, 0, none⟩) n cp) (.slice (some ⟨lb, 0, none⟩) n cl) (.int .i64 (ww : Int))
  have k0 := HX.c0
  have k1 := HX.c1
  have k2 := HX.c2
  refine bodyPost_ret (v := .tuple #[.agg #[.slice (some ⟨kb, 0, none⟩) n cp, .slice (some ⟨lb, 0, none⟩) n cl, .int .i64 (ww : Int)], .int .i64 0]) (by simp [results, Try.f71, go_sem, k0, k1, k2]) rfl ?_
  have hc : Chg (fun k => k = w.heap.size) w2 _ := ((chg_set w.heap.size 0 (.slice (some ⟨kb, 0, none⟩) n cp)).trans (chg_set w.heap.size 1 (.slice (some ⟨lb, 0, none⟩) n cl))).trans (chg_set w.heap.size 2 (.int .i64 (ww : Int)))
  have ht := HT.out
  have hnw := ht.new
  have hs := HB1.out.size
  have hs2 := ht.below.size
  exact ⟨kb, lb, cp, cl, rfl, ht.keys.chg hc (by omega), ht.lose.chg hc (by omega), ht.ne, ⟨by omega, by omega⟩, (eb_of HB1.out ht.below (Nat.le_refl _)).trans (hc.below (fun k hk => by omega) (by omega))⟩

/-- where two lists differ first -/
def scanI : Nat → List Int → List Int → Option Nat
  | i, x :: xs, y :: ys => if x = y then scanI (i + 1) xs ys else some i
  | _, _, _ => none
/-- what Check answers -/
def chkT (ks : List LK) (ls : List Int) (win : Int) : Int × Int :=
  if keysE ks ≠ 0 then (0, keysE ks) else if ls.length ≠ ks.length then (0, 6)
  else match scanI 0 ls (loL ks) with
    | some i => ((i : Int), 6)
    | none => if win ≠ (wnr ks : Int) then (0, 6) else (0, 0)
theorem scanI_ok {i : Nat} {xs ys : List Int} (h : i < xs.length) (g : i < ys.length) (e : xs[i] = ys[i]) : scanI i (xs.drop i) (ys.drop i) = scanI (i + 1) (xs.drop (i + 1)) (ys.drop (i + 1)) := by
  rw [List.drop_eq_getElem_cons h, List.drop_eq_getElem_cons g]; exact if_pos e
theorem scanI_no {i : Nat} {xs ys : List Int} (h : i < xs.length) (g : i < ys.length) (e : xs[i] ≠ ys[i]) : scanI i (xs.drop i) (ys.drop i) = some i := by
  rw [List.drop_eq_getElem_cons h, List.drop_eq_getElem_cons g]; exact if_neg e
theorem scanI_end {i : Nat} {xs ys : List Int} (h : ¬ i < xs.length) : scanI i (xs.drop i) (ys.drop i) = none := by
  rw [List.drop_eq_nil_of_le (by omega)]; unfold scanI; rfl
theorem scanI_none : ∀ {i : Nat} {xs ys : List Int}, xs.length = ys.length → scanI i xs ys = none → xs = ys
  | _, [], [], _, _ => rfl
  | i, x :: xs, y :: ys, hl, h => by
    unfold scanI at h
    split at h
    · rename_i e
      rw [e, scanI_none (by simpa using hl) h]
    · cases h
theorem scanI_self : ∀ {i : Nat} {xs : List Int}, scanI i xs xs = none
  | _, [] => by unfold scanI; rfl
  | i, x :: xs => by unfold scanI; rw [if_pos rfl]; exact scanI_self
theorem chkT_self {ks : List LK} (h : keysE ks = 0) : chkT ks (loL ks) (wnr ks) = (0, 0) := by
  unfold chkT; rw [if_neg (by simp [h]), if_neg (by simp [loL_len]), scanI_self]; simp
theorem chkT_good {ks : List LK} {ls : List Int} {win : Int} (h : (chkT ks ls win).2 = 0) : keysE ks = 0 ∧ ls = loL ks ∧ win = (wnr ks : Int) ∧ chkT ks ls win = (0, 0) := by
  unfold chkT at h ⊢
  by_cases h1 : keysE ks = 0
  · rw [if_neg (by simp [h1])] at h ⊢
    by_cases h2 : ls.length = ks.length
    · rw [if_neg (by simp [h2])] at h ⊢
      cases h3 : scanI 0 ls (loL ks) with
      | some i => rw [h3] at h; cases h
      | none =>
        rw [h3] at h
        simp only at h ⊢
        by_cases h4 : win = (wnr ks : Int)
        · rw [if_neg (by simp [h4])]
          exact ⟨h1, scanI_none (by rw [loL_len]; exact h2) h3, h4, rfl⟩
        · rw [if_pos h4] at h; cases h
    · rw [if_pos h2] at h; cases h
  · rw [if_pos h1] at h; exact absurd h h1
theorem boxT (A B : Option Addr) (n c m d : Nat) (win : Int) (w : World) : Hid (∀ w', Below (w.alloc (.cells #[.slice A n c, .slice B m d, .int .i64 win] 28)).heap.size (w.alloc (.cells #[.slice A n c, .slice B m d, .int .i64 win] 28)) w' →
    w'.cell? ⟨w.heap.size, 0, none⟩ = some (.slice A n c) ∧ w'.cell? ⟨w.heap.size, 1, none⟩ = some (.slice B m d) ∧ w'.cell? ⟨w.heap.size, 2, none⟩ = some (.int .i64 win) ∧ w.heap.size < w'.heap.size ∧ Below w.heap.size w w') := Lib.hid fun w' h => by
  have hr : Row3 w' w.heap.size 28 (.slice A n c) (.slice B m d) (.int .i64 win) := (h.block _ (by simp)).trans (heap_alloc_new w _)
  exact ⟨hr.c0, hr.c1, hr.c2, hr.lt, ((Below.refl w.heap.size w).alloc (Nat.le_refl _) _).trans (h.mono (by simp))⟩
set_option maxRecDepth 100000 in
set_option maxHeartbeats 4000000 in
theorem check_any (A B : Option Addr) (c d : Nat) (ks : List LK) (ls : List Int) (win : Int) (w : World) (hf : KsAt w A ks) (hg : IsAt w B ls) (hn : ks.length ≤ 4294967295) (hm : ls.length ≤ 4294967295) :
    Calls Try.prog 84 #[.agg #[.slice A ks.length c, .slice B ls.length d, .int .i64 win]] w fun e w' => e = .returned (.tuple #[.int .i64 (chkT ks ls win).1, .int .i64 (chkT ks ls win).2]) ∧ Below w.heap.size w w' := by
  have HX := boxT A B ks.length c ls.length d win w
  obtain ⟨x0, x1, x2, x3, x4⟩ := HX.out _ (Below.refl _ _)
  have HB := Lib.hid x4
  clear x3 x4
  by_cases hk : keysE ks = 0
  rotate_left
  · have HL : Hid (chkT ks ls win = (0, keysE ks)) := Lib.hid (if_pos hk)
    have J := Lib.hid (build_no A c ks _ (hf.below HB.out (Nat.le_refl _)) hn hk)
    obtain ⟨b1, b2⟩ := ne_b hk
    clear hf hg hk HX
    generalize keysE ks = r at *
    generalize ks.length = n at *
    generalize ls.length = m at *
    go_enter Try.func84, Try.ntmps84
    go_wp2_with fail
    refine J.out.mono ?_
    rintro e w1 ⟨rfl, hb⟩
    have HB1 := Lib.hid (eb_of HB.out hb (by simp))
    clear hb
    go_wp2_with fail
    go_ret2
    exact ⟨retZ HL.out, (eb_of HB1.out (alloc_below _ _) (Nat.le_refl _))⟩
  have J := Lib.hid (build_ok A c ks _ (hf.below HB.out (Nat.le_refl _)) hk)
  obtain ⟨h1, h32, _⟩ := keysE_ok hk
  by_cases hlen : ls.length = ks.length
  rotate_left
  · have HL : Hid (chkT ks ls win = (0, 6)) := Lib.hid (by unfold chkT; rw [if_neg (by simp [hk]), if_pos hlen])
    have hb1 : ((ls.length : Int) == (ks.length : Int)) = false := by rw [beq_eq_false_iff_ne]; omega
    have hb2 : ((ls.length : Int) != (ks.length : Int)) = true := by rw [bne_iff_ne]; omega
    clear hf hg hk hlen
    generalize wnr ks = ww at *
    generalize loL ks = LL at *
    generalize ks.length = n at *
    generalize ls.length = m at *
    go_enter Try.func84, Try.ntmps84
    go_wp2_with fail
    refine J.out.mono ?_
    rintro e w1 ⟨kb, lb, cp, cl, rfl, ht⟩
    obtain ⟨x0, x1, x2, x3, x4⟩ := HX.out _ ht.below
    have HB1 := Lib.hid x4
    clear ht x4
    go_wp2_with fail
    go_ret2
    exact ⟨retZ HL.out, (eb_of HB1.out (alloc_below _ _) (Nat.le_refl _))⟩
  have HL : Hid (chkT ks ls win = match scanI 0 ls (loL ks) with
    | some i => ((i : Int), 6)
    | none => if win ≠ (wnr ks : Int) then (0, 6) else (0, 0)) := Lib.hid (by unfold chkT; rw [if_neg (by simp [hk]), if_neg (by simp [hlen])])
  have HLN : Hid (ls.length = ks.length) := Lib.hid hlen
  have HLL : Hid ((loL ks).length = ks.length) := Lib.hid (loL_len ks)
  have HG := Lib.hid hg
  rw [hlen] at x1 HX HB J ⊢
  clear hf hg hk hlen hm
  generalize wnr ks = ww at *
  generalize loL ks = LL at *
  generalize ks.length = n at *
  go_enter Try.func84, Try.ntmps84
  go_wp2_with fail
  refine J.out.mono ?_
  rintro e w1 ⟨kb, lb, cp, cl, rfl, ht⟩
  obtain ⟨x0, x1, x2, x3, x4⟩ := HX.out _ ht.below
  have HB1 := Lib.hid x4
  have HT := Lib.hid ht
  clear ht x4
  have HG1 := Lib.hid (HG.out.below HB1.out (Nat.le_refl _))
  have HBB := Lib.hid (Below.refl w1.heap.size w1)
  obtain ⟨w2, hw2⟩ : ∃ w2, w2 = w1.alloc (.cells #[.slice (some ⟨kb, 0, none⟩) n cp, .slice (some ⟨lb, 0, none⟩) n cl, .int .i64 (ww : Int)] 28) := ⟨_, rfl⟩
  have HB2 : Hid (Below w1.heap.size w1 w2) := Lib.hid (hw2 ▸ alloc_below _ _)
  have HR2 : Hid (Row3 w2 w1.heap.size 28 (.slice (some ⟨kb, 0, none⟩) n cp) (.slice (some ⟨lb, 0, none⟩) n cl) (.int .i64 (ww : Int))) := Lib.hid (hw2 ▸ heap_alloc_new w1 _)
  go_wp2_with fail
  rw [← hw2]
  have HC0 : Hid (Below w.heap.size w w2) := Lib.hid (eb_of HB1.out HB2.out (Nat.le_refl _))
  have HY : Hid (∀ w', Below w2.heap.size w2 w' → w'.cell? ⟨w.heap.size, 1, none⟩ = some (.slice B n d) ∧ w'.cell? ⟨w.heap.size, 2, none⟩ = some (.int .i64 win) ∧ w'.cell? ⟨w1.heap.size, 1, none⟩ = some (.slice (some ⟨lb, 0, none⟩) n cl) ∧ w'.cell? ⟨w1.heap.size, 2, none⟩ = some (.int .i64 (ww : Int)) ∧ IsAt w' B ls ∧ CR w' lb (intsV LL)) := Lib.hid (fun w' h => by
    have h2 := eb_of HB2.out h (Nat.le_refl _)
    have hr := HR2.out.below h (Nat.le_refl _)
    exact ⟨(h2.cell (p := ⟨w.heap.size, 1, none⟩) (by omega)).trans x1, (h2.cell (p := ⟨w.heap.size, 2, none⟩) (by omega)).trans x2, hr.c1, hr.c2, HG1.out.below h2 (Nat.le_refl _), HT.out.lose.below h2 HT.out.lose.lt⟩)
  clear hw2 HG1 HBB HT HR2 HB2 HB1 HG x0 x1 x2 HX
  go_loopw [5, 6, 26] (fun _ _ iv wr => ∃ k : Nat, k ≤ n ∧ iv = .int .i64 k ∧ Below w2.heap.size w2 wr ∧ scanI 0 ls LL = scanI k (ls.drop k) (LL.drop k)) (fun _ _ iv _ => n - (intOf iv).toNat)
  case atStart => exact ⟨0, Nat.zero_le _, rfl, Below.refl _ _, rfl⟩
  case round =>
    obtain ⟨k, hkn, rfl, hb, hs⟩ := hrel
    have HS := Lib.hid hs
    have HBk := Lib.hid hb
    obtain ⟨y0, y1, y2, y3, y4, y5⟩ := HY.out _ hb
    clear hs hb
    by_cases hlt : k < n
    · have hla : k < ls.length := by have := HLN.out; omega
      have hlb : k < LL.length := by have := HLL.out; omega
      obtain ⟨l1, l2⟩ := y5.int (i := k) hlb
      rw [show LL.getD k 0 = LL[k] by simp [hlb]] at l1
      rcases y4 with h0 | ⟨b, off, rfl, hbl, hc⟩
      · subst h0; simp at hla
      have m1 := hc k hla
      clear hc y5 l2
      by_cases he : ls[k] = LL[k]
      · have HE := Lib.hid (scanI_ok hla hlb he)
        rw [he] at m1
        clear he
        generalize LL[k] = v at *
        go_wp2_with fail
        go_roundw
        case rel => exact ⟨k + 1, by omega, by go_num, HBk.out, HS.out.trans HE.out⟩
        case measure => simp [intOf]; omega
      · have HE := Lib.hid (HS.out.trans (scanI_no hla hlb he))
        have e1 : (ls[k] == LL[k]) = false := by rw [beq_eq_false_iff_ne]; exact he
        have e2 : (ls[k] != LL[k]) = true := by rw [bne_iff_ne]; exact he
        clear he
        generalize LL[k] = v at *
        generalize ls[k] = u at *
        go_wp2_with fail
        go_ret2
        exact ⟨retZ (by rw [HL.out, HE.out]), HC0.out.trans (HBk.out.mono HC0.out.size)⟩
    · have HE := Lib.hid (HS.out.trans (scanI_end (ys := LL) (by have := HLN.out; omega)))
      clear y4 y5
      by_cases hv : win = (ww : Int)
      · have HV := Lib.hid (show chkT ks ls win = (0, 0) by rw [HL.out, HE.out]; simp [hv])
        subst hv
        go_wp2_with fail
        go_ret2
        exact ⟨retZ HV.out, HC0.out.trans (HBk.out.mono HC0.out.size)⟩
      · have HV := Lib.hid (show chkT ks ls win = (0, 6) by rw [HL.out, HE.out]; simp [hv])
        have e1 : (win == (ww : Int)) = false := by rw [beq_eq_false_iff_ne]; exact hv
        have e2 : (win != (ww : Int)) = true := by rw [bne_iff_ne]; exact hv
        clear hv
        go_wp2_with fail
        go_ret2
        exact ⟨retZ HV.out, HC0.out.trans (HBk.out.mono HC0.out.size)⟩
end Go.Proofs.Ytebjhjmlpodkgaa.KK
