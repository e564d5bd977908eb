/-
  Merges: numbers of entries that were read; what comes after; equal keys.
-/
import Derived.Test.YtebjhjmlpodkgaaPe
import Derived.WalkLawsBesides
namespace Go.Proofs.Ytebjhjmlpodkgaa.KK
open Go.ChangeShapes Go.WideShapes Go.ChangeAt Go.RowKit Go.Proofs

/-- the first number that is wrong -/
def firstA : Nat → List (List El.En) → List Int → Int × Int
  | i, l :: t, a :: u => if a < 0 ∨ (l.length : Int) < a then ((i : Int), 6) else firstA (i + 1) t u
  | _, _, _ => (0, 0)
def atE11 (xss : List (List El.En)) (at_ : List Int) : Int × Int := if at_.length ≠ xss.length then (-1, 6) else firstA 0 xss at_
theorem firstA_ok {rs : List Rn} {at_ : List Int} {k : Nat} (h : k < rs.length) (h2 : k < at_.length) (g : ¬ (at_[k] < 0 ∨ (rs[k].2.2.length : Int) < at_[k])) : firstA k ((ess rs).drop k) (at_.drop k) = firstA (k + 1) ((ess rs).drop (k + 1)) (at_.drop (k + 1)) := by
  rw [List.drop_eq_getElem_cons (by rw [ess_len]; exact h), List.drop_eq_getElem_cons h2, ess_get h]; exact if_neg g
theorem firstA_no {rs : List Rn} {at_ : List Int} {k : Nat} (h : k < rs.length) (h2 : k < at_.length) (g : at_[k] < 0 ∨ (rs[k].2.2.length : Int) < at_[k]) : firstA k ((ess rs).drop k) (at_.drop k) = ((k : Int), 6) := by
  rw [List.drop_eq_getElem_cons (by rw [ess_len]; exact h), List.drop_eq_getElem_cons h2, ess_get h]; exact if_pos g
theorem firstA_end {rs : List Rn} {at_ : List Int} {k : Nat} (h : ¬ k < rs.length) : firstA k ((ess rs).drop k) (at_.drop k) = (0, 0) := by
  rw [List.drop_eq_nil_of_le (by rw [ess_len]; omega)]; rfl
theorem firstA_zero : ∀ {xss : List (List El.En)} {at_ : List Int} {i : Nat}, (firstA i xss at_).2 = 0 → (firstA i xss at_ = (0, 0)) ∧ ∀ (j : Nat) (h : j < xss.length) (h' : j < at_.length), 0 ≤ at_[j] ∧ at_[j] ≤ xss[j].length
  | [], _, _, _ => ⟨rfl, fun j h => absurd h (Nat.not_lt_zero _)⟩
  | _ :: _, [], _, _ => ⟨rfl, fun j _ h => absurd h (Nat.not_lt_zero _)⟩
  | l :: t, a :: u, i, h => by
    by_cases g : a < 0 ∨ (l.length : Int) < a
    · rw [firstA, if_pos g] at h; cases h
    · rw [firstA, if_neg g] at h
      obtain ⟨h1, h2⟩ := firstA_zero h
      refine ⟨by rw [firstA, if_neg g]; exact h1, fun j hj hj' => ?_⟩
      cases j with
      | zero => simp only [List.getElem_cons_zero]; omega
      | succ j => simpa using h2 j (by simpa using hj) (by simpa using hj')
theorem atE_ok {xss : List (List El.En)} {at_ : List Int} (h : (atE11 xss at_).2 = 0) : atE11 xss at_ = (0, 0) ∧ AtOk xss at_ := by
  unfold atE11 at h ⊢
  by_cases g : at_.length ≠ xss.length
  · rw [if_pos g] at h; cases h
  · rw [if_neg g] at h ⊢
    obtain ⟨h1, h2⟩ := firstA_zero h
    exact ⟨h1, by omega, h2⟩
set_option maxHeartbeats 2000000 in
theorem checkAt_any (A B : Option Addr) (c d : Nat) (rs : List Rn) (at_ : List Int) (w : World) (hf : RsAt w A rs) (hg : IsAt w B at_) (hn : rs.length ≤ 5000) (hm : at_.length ≤ 4294967295) (hl : ∀ r ∈ rs, r.2.2.length ≤ 5000) (hi : ∀ x ∈ at_, -9223372036854775808 ≤ x ∧ x ≤ 9223372036854775807) :
    Calls Try.prog 52 #[.slice A rs.length c, .slice B at_.length d] w fun e w' => e = .returned (.tuple #[.int .i64 (atE11 (ess rs) at_).1, .int .i64 (atE11 (ess rs) at_).2]) ∧ Below w.heap.size w w' := by
  by_cases h0 : at_.length = rs.length
  rotate_left
  · have H : Hid (atE11 (ess rs) at_ = (-1, 6)) := Lib.hid (by unfold atE11; rw [ess_len, if_pos h0])
    have hz : ((at_.length : Int) == (rs.length : Int)) = false := by rw [beq_eq_false_iff_ne]; omega
    have hz2 : ((at_.length : Int) != (rs.length : Int)) = true := by rw [bne_iff_ne]; omega
    clear hf hg hl hi h0
    generalize rs.length = n at *
    generalize at_.length = m at *
    go_enter Try.func52, Try.ntmps52
    go_wp2_with fail
    go_ret2
    exact ⟨retP H.out rfl rfl, Below.refl _ _⟩
  have HAL : Hid (atE11 (ess rs) at_ = firstA 0 ((ess rs).drop 0) (at_.drop 0)) := Lib.hid (by unfold atE11; rw [ess_len, if_neg (by omega)]; rfl)
  have HF := Lib.hid hf
  have HG := Lib.hid hg
  have HL := Lib.hid hl
  obtain ⟨n, hnn⟩ : ∃ n, rs.length = n := ⟨_, rfl⟩
  have hmm : at_.length = n := by omega
  rw [hnn] at hn ⊢
  rw [hmm] at hm ⊢
  have HN := Lib.hid hnn
  have HM := Lib.hid hmm
  clear hf hg hl hi hnn hmm h0
  go_enter Try.func52, Try.ntmps52
  go_wp2_with fail
  go_loopw [15] (fun i wr => ∃ k : Nat, k ≤ n ∧ i = .int .i64 k ∧ Below w.heap.size w wr ∧ Hid (firstA 0 ((ess rs).drop 0) (at_.drop 0) = firstA k ((ess rs).drop k) (at_.drop k))) (fun i _ => n - (intOf i).toNat)
  case atStart => exact ⟨0, Nat.zero_le _, rfl, Below.refl _ _, Lib.hid rfl⟩
  case round =>
    obtain ⟨k, hk, rfl, hb, HA⟩ := hrel
    have hsz := hb.size
    have HB := Lib.hid hb
    have hf' := HF.out.below hb (Nat.le_refl _)
    have hg' := HG.out.below hb (Nat.le_refl _)
    clear hb
    by_cases hlt : k < n
    · have hl' : k < rs.length := by rw [HN.out]; exact hlt
      have hl2 : k < at_.length := by rw [HM.out]; exact hlt
      rcases hf' with h0 | ⟨b, off, rfl, hbl, hc⟩
      · subst h0; simp at hl'
      rcases hg' with h0 | ⟨b2, off2, rfl, hbl2, hc2⟩
      · subst h0; simp at hl2
      obtain ⟨g0, g1⟩ := hc k hl'
      have g2 := hc2 k hl2
      have l1 : (k : Int) < (n : Int) := by omega
      have hsm := HL.out _ (List.getElem_mem hl')
      by_cases h1 : at_[k] < 0
      · have HX := Lib.hid (firstA_no hl' hl2 (.inl h1))
        have d1 : decide (at_[k] < 0) = true := by simpa using h1
        clear hc hc2 g1
        generalize rs[k].1 = A1 at *
        generalize rs[k].2.1 = c1 at *
        generalize rs[k].2.2.length = n1 at *
        generalize at_[k] = a at *
        go_wp2_with fail
        go_ret2
        exact ⟨retP (HAL.out.trans (HA.out.trans HX.out)) rfl rfl, HB.out⟩
      · by_cases h2 : (rs[k].2.2.length : Int) < at_[k]
        · have HX := Lib.hid (firstA_no hl' hl2 (.inr h2))
          have d1 : decide (at_[k] < 0) = false := by simpa using h1
          have d2 : decide ((rs[k].2.2.length : Int) < at_[k]) = true := by simpa using h2
          clear hc hc2 g1
          generalize rs[k].1 = A1 at *
          generalize rs[k].2.1 = c1 at *
          generalize rs[k].2.2.length = n1 at *
          generalize at_[k] = a at *
          go_wp2_with fail
          go_ret2
          exact ⟨retP (HAL.out.trans (HA.out.trans HX.out)) rfl rfl, HB.out⟩
        · have HX := Lib.hid (firstA_ok hl' hl2 (by omega))
          have d1 : decide (at_[k] < 0) = false := by simpa using h1
          have d2 : decide ((rs[k].2.2.length : Int) < at_[k]) = false := by simpa using h2
          clear hc hc2 g1
          generalize rs[k].1 = A1 at *
          generalize rs[k].2.1 = c1 at *
          generalize rs[k].2.2.length = n1 at *
          generalize at_[k] = a at *
          go_wp2_with fail
          go_roundw
          case rel => exact ⟨k + 1, by omega, by go_num, HB.out, Lib.hid (HA.out.trans HX.out)⟩
          case measure => simp [intOf]; omega
    · have HX := Lib.hid (firstA_end (rs := rs) (at_ := at_) (k := k) (by rw [HN.out]; omega))
      clear hf' hg'
      go_wp2_with fail
      go_ret2
      exact ⟨retP (HAL.out.trans (HA.out.trans HX.out)) rfl rfl, HB.out⟩
/-- does an entry come after another one? -/
def caB (k1 : ByteArray) (r1 : Int) (k2 : ByteArray) (r2 : Int) : Bool := if k1 = k2 then decide (r2 < r1) else Kl.lt (Kl.L k2) (Kl.L k1)
set_option maxHeartbeats 1000000 in
theorem comesAfter_any (k1 : ByteArray) (r1 : Int) (k2 : ByteArray) (r2 : Int) (w : World) :
    Calls Try.prog 86 #[.string k1, .int .i64 r1, .string k2, .int .i64 r2] w fun e w' => e = .returned (.bool (caB k1 r1 k2 r2)) ∧ Below w.heap.size w w' := by
  by_cases e : k1 = k2
  · have H : Hid (caB k1 r1 k2 r2 = decide (r2 < r1)) := Lib.hid (if_pos e)
    rw [H.out]
    subst e
    go_enter Try.func86, Try.ntmps86
    go_wp2_with fail
    go_ret
    exact ⟨rfl, Below.refl _ _⟩
  · have H : Hid (caB k1 r1 k2 r2 = !Op.bytesLess k1.toList k2.toList) := Lib.hid (by
      unfold caB
      rw [if_neg e, less_L]
      cases h : Kl.lt (Kl.L k1) (Kl.L k2) with
      | true => rw [Kl.lt_asymm h]; rfl
      | false =>
        cases g : Kl.lt (Kl.L k2) (Kl.L k1) with
        | true => rfl
        | false => exact absurd (L_inj' (Kl.lt_total h g)) e)
    rw [H.out]
    have h1 := str_beq_ne e
    have h2 := str_ne e
    clear e H
    go_enter Try.func86, Try.ntmps86
    go_wp2_with fail
    go_ret
    exact ⟨rfl, Below.refl _ _⟩
set_option maxRecDepth 100000 in
set_option maxHeartbeats 4000000 in
theorem equalK_any (A B : Option Addr) (c d : Nat) (xs ys : List LK) (w : World) (hf : KsAt w A xs) (hg : KsAt w B ys) (hn : xs.length ≤ 4294967295) (hm : ys.length ≤ 4294967295) :
    Calls Try.prog 83 #[.slice A xs.length c, .slice B ys.length d] w fun e w' => e = .returned (.bool (decide (xs = ys))) ∧ Below w.heap.size w w' := by
  by_cases h0 : xs.length = ys.length
  rotate_left
  · have H : Hid (decide (xs = ys) = false) := Lib.hid (by rw [decide_eq_false_iff_not]; intro e; rw [e] at h0; exact h0 rfl)
    rw [H.out]
    have hz : ((xs.length : Int) == (ys.length : Int)) = false := by rw [beq_eq_false_iff_ne]; omega
    have hz2 : ((xs.length : Int) != (ys.length : Int)) = true := by rw [bne_iff_ne]; omega
    clear hf hg h0 H
    generalize xs.length = n at *
    generalize ys.length = m at *
    go_enter Try.func83, Try.ntmps83
    go_wp2_with fail
    go_ret
    exact ⟨rfl, Below.refl _ _⟩
  have HF := Lib.hid hf
  have HG := Lib.hid hg
  obtain ⟨n, hnn⟩ : ∃ n, xs.length = n := ⟨_, rfl⟩
  have hmm : ys.length = n := by omega
  rw [hnn] at hn ⊢
  rw [hmm] at hm ⊢
  have HN := Lib.hid hnn
  have HM := Lib.hid hmm
  obtain ⟨r, hr⟩ : ∃ r, decide (xs = ys) = r := ⟨_, rfl⟩
  have HR := Lib.hid hr
  rw [hr]
  clear hf hg hnn hmm h0 hr
  go_enter Try.func83, Try.ntmps83
  go_wp2_with fail
  go_loopw [5, 13] (fun _ i wr => ∃ k : Nat, k ≤ n ∧ i = .int .i64 k ∧ Below w.heap.size w wr ∧ Hid (xs.take k = ys.take k)) (fun _ i _ => n - (intOf i).toNat)
  case atStart => exact ⟨0, Nat.zero_le _, rfl, Below.refl _ _, Lib.hid rfl⟩
  case round =>
    obtain ⟨k, hk, rfl, hb, HA⟩ := hrel
    have hsz := hb.size
    have HB := Lib.hid hb
    have hf' := HF.out.below hb (Nat.le_refl _)
    have hg' := HG.out.below hb (Nat.le_refl _)
    clear hb
    by_cases hlt : k < n
    · have hl' : k < xs.length := by rw [HN.out]; exact hlt
      have hl2 : k < ys.length := by rw [HM.out]; exact hlt
      rcases hf' with h0 | ⟨b, off, rfl, hbl, hc⟩
      · subst h0; simp at hl'
      rcases hg' with h0 | ⟨b2, off2, rfl, hbl2, hc2⟩
      · subst h0; simp at hl2
      obtain ⟨g0, g1⟩ := hc k hl'
      obtain ⟨g2, g3⟩ := hc2 k hl2
      have l1 : (k : Int) < (n : Int) := by omega
      have l0 : (0 : Int) ≤ (k : Int) := by omega
      have HNX : Hid (xs[k] = ys[k] → xs.take (k + 1) = ys.take (k + 1)) := Lib.hid (fun e => by rw [List.take_succ_eq_append_getElem hl', List.take_succ_eq_append_getElem hl2, HA.out, e])
      have HNE : Hid (xs[k] ≠ ys[k] → r = false) := Lib.hid (fun e => by rw [← HR.out, decide_eq_false_iff_not]; intro g; subst g; exact e rfl)
      have v0 := abv_cell hbl g0
      have v1 := abv_cell hbl g1
      have v2 := abv_cell hbl2 g2
      have v3 := abv_cell hbl2 g3
      clear hc hc2 g0 g1 g2 g3
      obtain ⟨⟨x, xd⟩, hx⟩ : ∃ x, xs[k] = x := ⟨_, rfl⟩
      obtain ⟨⟨y, yd⟩, hy⟩ : ∃ y, ys[k] = y := ⟨_, rfl⟩
      rw [hx, hy] at HNX HNE
      rw [hx] at v0 v1
      rw [hy] at v2 v3
      clear hx hy
      simp only at v0 v1 v2 v3
      have hcs : (x = y ∧ xd = yd) ∨ (x = y ∧ xd ≠ yd) ∨ x ≠ y := by by_cases h1 : x = y <;> by_cases h2 : xd = yd <;> simp [h1, h2]
      rcases hcs with ⟨rfl, rfl⟩ | ⟨rfl, hne⟩ | hne
      · have HT := Lib.hid (HNX.out rfl)
        clear HNX HNE
        go_wp2_with fail
        refine wp_region_abv (by first | assumption | kernel_rfl) (by kernel_rfl) ?_
        repeat (first | go_big_quiet_step (fail) | quiet_step (fail))
        refine wpQuiet_nil ?_
        intro w9 hw9
        obtain ⟨p1, rfl⟩ := hw9
        go_wp2_with fail
        go_roundw
        case rel => exact ⟨k + 1, by omega, by go_num, eb_of HB.out p1.h (Nat.le_refl _), HT⟩
        case measure => simp [intOf]; omega
      · have HT := Lib.hid (HNE.out (fun e => hne (Prod.mk.inj e).2))
        have hd : (xd == yd) = false := by simpa using hne
        clear HNX HNE
        go_wp2_with fail
        refine wp_region_abv (by first | assumption | kernel_rfl) (by kernel_rfl) ?_
        repeat (first | go_big_quiet_step (fail) | quiet_step (fail))
        refine wpQuiet_nil ?_
        intro w9 hw9
        obtain ⟨p1, rfl⟩ := hw9
        go_wp2_with fail
        go_ret
        exact ⟨by rw [HT.out]; first | rfl | (cases xd <;> cases yd <;> first | rfl | exact absurd rfl hne), eb_of HB.out p1.h (Nat.le_refl _)⟩
      · have HT := Lib.hid (HNE.out (fun e => hne (Prod.mk.inj e).1))
        have h1 := str_beq_ne hne
        have h2 := str_ne hne
        clear HNX HNE hne
        go_wp2_with fail
        refine wp_region_abv (by first | assumption | kernel_rfl) (by kernel_rfl) ?_
        repeat (first | go_big_quiet_step (fail) | quiet_step (fail))
        refine wpQuiet_nil ?_
        intro w9 hw9
        obtain ⟨p1, rfl⟩ := hw9
        go_wp2_with fail
        go_ret
        exact ⟨by rw [HT.out]; rfl, eb_of HB.out p1.h (Nat.le_refl _)⟩
    · obtain rfl : k = n := by omega
      have HT : Hid (r = true) := Lib.hid (by
        rw [← HR.out, decide_eq_true_iff]
        have := HA.out
        rw [List.take_of_length_le (by rw [HN.out]; exact Nat.le_refl _), List.take_of_length_le (by rw [HM.out]; exact Nat.le_refl _)] at this
        exact this)
      clear hf' hg'
      go_wp2_with fail
      go_ret
      exact ⟨by rw [HT.out]; rfl, HB.out⟩
end Go.Proofs.Ytebjhjmlpodkgaa.KK
