/-
  Merges: Left.
-/
import Derived.Test.YtebjhjmlpodkgaaPn
namespace Go.Proofs.Ytebjhjmlpodkgaa.KK
open Go.ChangeShapes Go.WideShapes Go.ChangeAt Go.RowKit Go.Proofs

theorem ordE_zero {xss : List (List El.En)} {a : List Int} (h : (ordE xss a).2 = 0) : ordE xss a = (0, 0) := by
  unfold ordE at h ⊢
  split
  · rfl
  · rename_i h0
    rw [if_neg h0] at h
    split
    · rename_i h1; rw [if_pos h1] at h; cases h
    · rfl
/-- a state that nothing is wrong with -/
theorem chkS_ok {rs : List Rn} {a : List Int} {ks : List LK} {ls : List Int} {win : Int} (h : (chkS (ess rs) a ks ls win).2 = 0) :
    Gd (ess rs) a ∧ ks = nks (ess rs) a ∧ ls = loL (nks (ess rs) a) ∧ win = (winA (ess rs) a : Nat) ∧ chkS (ess rs) a ks ls win = (0, 0) := by
  unfold chkS at h ⊢
  by_cases e1 : (runsE (ess rs)).2 = 0
  · rw [if_neg (by rw [e1]; simp)] at h ⊢
    by_cases e2 : (atE11 (ess rs) a).2 = 0
    · rw [if_neg (by rw [e2]; simp)] at h ⊢
      cases e3 : nxB (ess rs) a ks ls win with
      | false => rw [e3, if_pos rfl] at h; cases h
      | true =>
        rw [e3, if_neg (by simp)] at h
        have e3' := e3
        unfold nxB at e3'
        simp only [Bool.and_eq_true, decide_eq_true_eq] at e3'
        obtain ⟨hk, hc⟩ := e3'
        obtain ⟨_, hl, hwn, _⟩ := chkT_good hc
        rw [hk] at hl hwn
        exact ⟨⟨e1, (atE_ok e2).2⟩, hk, hl, hwn, by rw [if_neg (by simp)]; exact ordE_zero h⟩
    · rw [if_pos e2] at h; exact absurd h e2
  · rw [if_pos e1] at h; exact absurd h e1
theorem left_cons {l : List El.En} {t : List (List El.En)} {b : Int} {u : List Int} : left (l :: t) (b :: u) = (l.length - b.toNat) + left t u := rfl
theorem left_drop {rs : List Rn} {a : List Int} {k : Nat} (h : k < rs.length) (h2 : k < a.length) : left ((ess rs).drop k) (a.drop k) = (rs[k].2.2.length - a[k].toNat) + left ((ess rs).drop (k + 1)) (a.drop (k + 1)) := by
  rw [List.drop_eq_getElem_cons (by rw [ess_len]; exact h), List.drop_eq_getElem_cons h2, ess_get h]; rfl
theorem left_le {rs : List Rn} (h : ∀ r ∈ rs, r.2.2.length ≤ 5000) (a : List Int) : left (ess rs) a ≤ rs.length * 5000 := by
  induction rs generalizing a with
  | nil => cases a <;> simp [ess, left]
  | cons r t ih =>
    cases a with
    | nil => simp [ess, left]
    | cons b u =>
      have := ih (fun x hx => h x (by simp [hx])) u
      have h1 := h r (by simp)
      simp only [ess, List.map_cons, left_cons, List.length_cons] at this ⊢
      omega
theorem acc_cast {acc m u : Nat} (h : u ≤ m) : Value.int .i64 ((acc : Int) + ((m : Int) - (u : Int))) = .int .i64 ((acc + (m - u) : Nat) : Int) := by congr 1; omega
set_option maxRecDepth 100000 in
set_option maxHeartbeats 4000000 in
theorem left11_any (R A K L : Option Addr) (cr ca ck cl : Nat) (rs : List Rn) (a : List Int) (ks : List LK) (ls : List Int) (win : Int) (w : World) (hst : StAt w R A K L rs a ks ls) (hft : StFit rs a ks ls) :
    Calls Try.prog 28 #[.agg #[.slice R rs.length cr, .slice A a.length ca, .slice K ks.length ck, .slice L ls.length cl, .int .i64 win]] w fun e w' => e = .returned (.tuple #[.int .i64 (if (chkS (ess rs) a ks ls win).2 = 0 then (left (ess rs) a : Int) else 0), .int .i64 (chkS (ess rs) a ks ls win).2]) ∧ Below w.heap.size w w' := by
  obtain ⟨W, hW⟩ : ∃ W, W = w.alloc (.cells #[.slice R rs.length cr, .slice A a.length ca, .slice K ks.length ck, .slice L ls.length cl, .int .i64 win] 30) := ⟨_, rfl⟩
  have hbW : Below w.heap.size w W := hW ▸ alloc_below _ _
  have HR0 : Hid (Rw5 W w.heap.size 30 (.slice R rs.length cr) (.slice A a.length ca) (.slice K ks.length ck) (.slice L ls.length cl) (.int .i64 win)) := Lib.hid (hW ▸ heap_alloc_new w _)
  have HST := Lib.hid (hst.below hbW (Nat.le_refl _))
  have HBW := Lib.hid hbW
  have J := Lib.hid (check11_any R A K L cr ca ck cl rs a ks ls win W HST.out hft)
  have y0 := HR0.out.c0
  have y1 := HR0.out.c1
  have y2 := HR0.out.c2
  have y3 := HR0.out.c3
  have y4 := HR0.out.c4
  rw [hW] at y0 y1 y2 y3 y4
  clear hst hbW
  by_cases e1 : (chkS (ess rs) a ks ls win).2 = 0
  rotate_left
  · rw [if_neg e1]
    obtain ⟨b1, b2⟩ := ne_b e1
    clear e1 HST hft
    generalize (chkS (ess rs) a ks ls win).1 = r1 at *
    generalize (chkS (ess rs) a ks ls win).2 = r2 at *
    generalize rs.length = n1 at *
    generalize a.length = n2 at *
    generalize ks.length = n3 at *
    generalize ls.length = n4 at *
    go_enter Try.func28, Try.ntmps28
    go_wp2_with fail
    rw [← hW]
    clear hW y0 y1 y2 y3 y4
    refine J.out.mono ?_
    rintro e w1 ⟨rfl, hb⟩
    have HB1 := Lib.hid (eb_of HBW.out hb (Nat.le_refl _))
    clear hb
    go_wp2_with fail
    go_ret2
    exact ⟨rfl, HB1.out⟩
  rw [if_pos e1, e1]
  obtain ⟨hg, hq1, hq2, hq3, hc0⟩ := chkS_ok e1
  clear hq1 hq2 hq3
  rw [hc0] at J
  have hal : a.length = rs.length := by rw [hg.at_.1, ess_len]
  have h1 := hg.len1
  have h5 : ∀ r ∈ rs, r.2.2.length ≤ 5000 := fun r hr => (list_ok ((runsE_ok hg.ok).2.2.1 r.2.2 (by simp only [ess, List.mem_map]; exact ⟨r, hr, rfl⟩))).1
  have HSM := Lib.hid (left_le h5 a)
  have HG := Lib.hid hg
  have H5 := Lib.hid h5
  rw [hal] at HR0 y1 hW ⊢
  obtain ⟨n, hn⟩ : ∃ n, rs.length = n := ⟨_, rfl⟩
  rw [hn] at HR0 y0 y1 hW h1 HSM J ⊢
  rw [show a.length = n by omega] at J
  have HN := Lib.hid hn
  have HAL : Hid (a.length = n) := Lib.hid (by omega)
  clear e1 hg hc0 hft h5 hn hal
  generalize ks.length = n3 at *
  generalize ls.length = n4 at *
  have hlt0 := HSM.out
  obtain ⟨T, hT⟩ : ∃ T, left (ess rs) a = T := ⟨_, rfl⟩
  have HT : Hid (left ((ess rs).drop 0) (a.drop 0) = T) := Lib.hid hT
  rw [hT] at hlt0 ⊢
  clear hT HSM
  go_enter Try.func28, Try.ntmps28
  go_wp2_with fail
  rw [← hW]
  clear hW y0 y1 y2 y3 y4
  refine J.out.mono ?_
  rintro e w1 ⟨rfl, hb⟩
  have HR1 := Lib.hid (HR0.out.below hb (Nat.le_refl _))
  have HS1 := Lib.hid (HST.out.below hb (Nat.le_refl _))
  have HB1 := Lib.hid (eb_of HBW.out hb (Nat.le_refl _))
  have y0 := HR1.out.c0
  clear hb J HR0 HST
  go_wp2_with fail
  go_loopw [6, 20] (fun v iv wr => ∃ k acc : Nat, k ≤ n ∧ iv = .int .i64 k ∧ v = .int .i64 acc ∧ acc ≤ T ∧ Below w1.heap.size w1 wr ∧ Hid (acc + left ((ess rs).drop k) (a.drop k) = T)) (fun _ iv _ => n - (intOf iv).toNat)
  case atStart => exact ⟨0, 0, Nat.zero_le _, rfl, rfl, Nat.zero_le _, Below.refl _ _, Lib.hid (by rw [Nat.zero_add]; exact HT.out)⟩
  case round =>
    obtain ⟨k, acc, hk, rfl, rfl, hac, hb, HA⟩ := hrel
    have HB := Lib.hid hb
    have hR := HR1.out.below hb (Nat.le_refl _)
    have hS := HS1.out.below hb (Nat.le_refl _)
    clear hb y0
    by_cases hlt : k < n
    · have hkr : k < rs.length := by rw [HN.out]; exact hlt
      have hka : k < a.length := by rw [HAL.out]; exact hlt
      have hat := HG.out.at_.2 k (by rw [ess_len]; exact hkr) hka
      rw [ess_get hkr] at hat
      have hsm := H5.out _ (List.getElem_mem hkr)
      have hld := left_drop (rs := rs) (a := a) hkr hka
      have HX := Lib.hid (show (acc + (rs[k].2.2.length - a[k].toNat)) + left ((ess rs).drop (k + 1)) (a.drop (k + 1)) = T by rw [← HA.out, hld]; omega)
      rcases hS.ats with h0 | ⟨b1, o1, rfl, hbl1, hc1⟩
      · rw [h0] at hka; simp at hka
      rcases hS.runs with h0 | ⟨b2, o2, rfl, hbl2, hc2⟩
      · rw [h0] at hkr; simp at hkr
      have a1 := hc1 k hka
      have a2 := (hc2 k hkr).1
      have y1 := hR.c1
      have l1 : (k : Int) < (n : Int) := by omega
      have hnext : acc + (rs[k].2.2.length - a[k].toNat) ≤ T := by rw [← HX.out]; exact Nat.le_add_right _ _
      clear hc1 hc2 hR hS hld
      generalize rs[k].1 = A1 at *
      generalize rs[k].2.1 = d1 at *
      generalize rs[k].2.2.length = m1 at *
      generalize a[k] = v at *
      obtain ⟨u, rfl⟩ : ∃ u : Nat, v = u := ⟨v.toNat, by omega⟩
      rw [Int.toNat_natCast] at HX hnext
      obtain ⟨h0, h9⟩ := hat
      go_wp2_with fail
      go_roundw
      case rel => exact ⟨k + 1, acc + (m1 - u), by omega, by go_num, acc_cast (by omega), hnext, HB.out, HX⟩
      case measure => simp [intOf]; omega
    · obtain rfl : k = n := by omega
      have HE : Hid (acc = T) := Lib.hid (by have := HA.out; rw [List.drop_eq_nil_of_le (by rw [ess_len, HN.out]; exact Nat.le_refl _)] at this; simpa [left] using this)
      have HBF := Lib.hid (eb_of HB1.out HB.out (Nat.le_refl _))
      clear hR hS
      go_wp2_with fail
      go_ret2
      exact ⟨by rw [← HE.out]; rfl, HBF.out⟩
end Go.Proofs.Ytebjhjmlpodkgaa.KK
