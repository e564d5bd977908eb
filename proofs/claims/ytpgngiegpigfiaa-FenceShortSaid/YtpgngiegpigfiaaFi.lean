/-
  Fences: what fits, in the reference.
-/
import Derived.Test.YtpgngiegpigfiaaFh
namespace Go.Proofs.Ytpgngiegpigfiaa.KK
open Go.ChangeShapes Go.WideShapes Go.ChangeAt Go.RowKit Go.Proofs

theorem EsAt.key {w : World} {A : Option Addr} {xs : List El.En} (h : EsAt w A xs) (hne : 0 < xs.length) : ∃ b off, A = some ⟨b, off, none⟩ ∧ b < w.heap.size ∧ ∀ i, i < xs.length → w.cell? ⟨b, off + i * 4, none⟩ = some (.string (keyAt xs i)) := by
  rcases h with h | ⟨b, off, hA, hlt, hc⟩
  · subst h; simp at hne
  · exact ⟨b, off, hA, hlt, fun i hi => by rw [keyAt_eq hi]; exact (hc i hi).1⟩
set_option maxRecDepth 100000 in
set_option maxHeartbeats 4000000 in
theorem rfits_any (A : Option Addr) (c : Nat) (ms : List ByteArray) (B : Option Addr) (d : Nat) (xs : List El.En) (st : Nat) (w : World) (hf : SsAt w A ms) (hg : EsAt w B xs) (hm : ms.length ≤ 5000) (hkm : ∀ m ∈ ms, m.size ≤ 32) (hn : xs.length ≤ 5000) (hkx : ∀ x ∈ xs, x.1.size ≤ 32) (hcap : xs.length ≤ d) (h64 : st ≤ 64) (h1 : 1 ≤ st) :
    Calls Try.prog 44 #[.agg #[.int .i64 st, .slice A ms.length c], .slice B xs.length d] w fun e w' => e = .returned (.bool (fitsF st ms xs)) ∧ Below w.heap.size w w' := by
  have HX := boxF st A ms.length c w
  have JM := Lib.hid (fun w => blocks_any xs.length st w (by omega) h1 h64)
  have hmk := blN_mk xs.length st
  have hbl : blN xs.length st ≤ 10001 := by unfold blN; have := Nat.div_le_self (xs.length - 1) st; split <;> omega
  obtain ⟨x0, x1, x2, x3⟩ := HX.out _ (Below.refl _ _)
  have y0 := abv_cell x2 x0
  have y1 := abv_cell x2 x1
  have HB := Lib.hid x3
  clear x0 x1 x2 x3
  by_cases hlen : ms.length = mk xs.length st
  rotate_left
  · have HL := Lib.hid (fitsF_no hlen)
    obtain ⟨n1, n2⟩ := num_ne hlen
    clear hf hg hkm hkx hlen
    generalize mk xs.length st = q at *
    generalize blN xs.length st = bq at *
    go_enter Try.func44, Try.ntmps44
    go_wp2_with fail
    refine wp_region_abv (by first | assumption | kernel_rfl) (by kernel_rfl) ?_
    repeat (first | go_big_quiet_step (exact callAbv0 (JM.out _)) | quiet_step (exact callAbv0 (JM.out _)))
    refine wpQuiet_nil ?_
    intro w2 hw2
    obtain ⟨p, rfl⟩ := hw2
    go_wp2_with fail
    go_ret
    exact ⟨retB (by rw [HL.out]), eb_of HB.out p.h (by simp)⟩
  have HL := Lib.hid (fitsF_yes hlen)
  rw [← hlen] at hmk
  have HIX : Hid (∀ k, k < ms.length → (k + 1) * st < xs.length) := Lib.hid (fun k hk => mk_idx h1 (by rw [← hlen]; exact hk))
  have HZ : Hid (∀ i, i < xs.length → (keyAt xs i).size ≤ 32) := Lib.hid (fun i hi => keyAt_size hkx hi)
  have HF := Lib.hid hf
  have HG := Lib.hid hg
  clear hg hkx hlen hf
  generalize blN xs.length st = bq at *
  go_enter Try.func44, Try.ntmps44
  go_wp2_with fail
  refine wp_region_abv (by first | assumption | kernel_rfl) (by kernel_rfl) ?_
  repeat (first | go_big_quiet_step (exact callAbv0 (JM.out _)) | quiet_step (exact callAbv0 (JM.out _)))
  refine wpQuiet_nil ?_
  intro w2 hw2
  obtain ⟨p, rfl⟩ := hw2
  obtain ⟨x0, x1, x2, x3⟩ := HX.out _ p.h
  have HP := Lib.hid p.h
  clear x2 x3 y0 y1 hmk
  go_wp2_with fail
  go_loopw [5] (fun i wr => ∃ k : Nat, k ≤ ms.length ∧ i = .int .i64 k ∧ Below (w.alloc (.cells #[.int .i64 st, .slice A ms.length c] 25)).heap.size (w.alloc (.cells #[.int .i64 st, .slice A ms.length c] 25)) wr ∧ fitsAt st xs 0 ms = fitsAt st xs k (ms.drop k)) (fun i _ => ms.length - (intOf i).toNat)
  case atStart => exact ⟨0, Nat.zero_le _, rfl, HP.out, rfl⟩
  case round =>
    obtain ⟨k, hk, rfl, hb, ha⟩ := hrel
    obtain ⟨v0, v1, v2, v3⟩ := HX.out _ hb
    have HC := Lib.hid hb
    have HW := Lib.hid v3
    have HA := Lib.hid ha
    clear v3 hb ha x0 x1
    by_cases hlt : k < ms.length
    rotate_left
    · have HE := Lib.hid (fitsAt_end (st := st) (xs := xs) hlt)
      go_wp2_with fail
      go_ret
      exact ⟨retB (by rw [HL.out, HA.out, HE.out]), HW.out⟩
    have hix := HIX.out k hlt
    obtain ⟨b', off', rfl, hbl', hc'⟩ := (HG.out.below HW.out (Nat.le_refl _)).key (by omega)
    rcases HF.out.below HW.out (Nat.le_refl _) with h0 | ⟨b, off, rfl, hbl, hc⟩
    · subst h0; simp at hlt
    have g0 := abv_cell hbl (hc k hlt)
    clear hc
    have hz1 := HZ.out ((k + 1) * st - 1) (by omega)
    have hz2 := HZ.out ((k + 1) * st) hix
    have hzm := hkm ms[k] (List.getElem_mem hlt)
    have z0 := abv_cell v2 v0
    have z1 := abv_cell v2 v1
    have s1 : (keyAt xs ((k + 1) * st - 1)).size ≤ 9223372036854775807 := by omega
    have s2 : (keyAt xs ((k + 1) * st)).size ≤ 9223372036854775807 := by omega
    have s3 : ms[k].size ≤ 9223372036854775807 := by omega
    obtain ⟨o1, ho1⟩ : ∃ o, ltK (keyAt xs ((k + 1) * st - 1)) ms[k] = o := ⟨_, rfl⟩
    obtain ⟨o2, ho2⟩ : ∃ o, ltK (keyAt xs ((k + 1) * st)) ms[k] = o := ⟨_, rfl⟩
    have d1 : decide (Kl.ord (Kl.L ms[k]) (Kl.L (keyAt xs ((k + 1) * st - 1))) ≤ 0) = !o1 := by
      rw [← ho1]; unfold ltK
      cases h : Kl.lt (Kl.L (keyAt xs ((k + 1) * st - 1))) (Kl.L ms[k])
      · rw [Bool.not_false, decide_eq_true_eq, Kl.ord_nonpos]; exact h
      · rw [Bool.not_true, decide_eq_false_iff_not, Kl.ord_nonpos, h]; simp
    have d2 : decide (0 < Kl.ord (Kl.L ms[k]) (Kl.L (keyAt xs ((k + 1) * st)))) = o2 := by
      rw [← ho2]; unfold ltK
      cases h : Kl.lt (Kl.L (keyAt xs ((k + 1) * st))) (Kl.L ms[k])
      · rw [decide_eq_false_iff_not, Kl.ord_pos, h]; simp
      · rw [decide_eq_true_eq, Kl.ord_pos]; exact h
    have c1 := hc' ((k + 1) * st - 1) (by omega)
    have c2 := hc' ((k + 1) * st) hix
    have HO : Hid (fitsAt st xs k (ms.drop k) = if (o1 && !o2) = true then fitsAt st xs (k + 1) (ms.drop (k + 1)) else false) := Lib.hid (by
      cases o1
      · rw [fitsAt_no hlt (okM_f1 ho1)]; rfl
      · cases o2
        · rw [fitsAt_yes hlt (okM_t ho1 ho2)]; rfl
        · rw [fitsAt_no hlt (okM_f2 ho2)]; rfl)
    have hpos : 1 ≤ (k + 1) * st := Nat.le_trans h1 (Nat.le_mul_of_pos_left _ (by omega))
    have hmc : ((k : Int) + 1) * (st : Int) = (((k + 1) * st : Nat) : Int) := by simp
    clear hc' ho1 ho2 hz1 hz2 hzm
    generalize ms[k] = mm at *
    generalize keyAt xs ((k + 1) * st - 1) = a1 at *
    generalize keyAt xs ((k + 1) * st) = a2 at *
    obtain ⟨m, hm⟩ : ∃ m, (k + 1) * st = m + 1 := ⟨(k + 1) * st - 1, by omega⟩
    rw [hm] at c1 c2 hix hmc
    rw [show m + 1 - 1 = m by omega] at c1
    have hw : IntKind.i64.wrap (((k : Int) + 1) * (st : Int)) = (m : Int) + 1 := by rw [hmc, IntKind.wrap_i64]; omega
    have hm5 : m + 1 < 5000 := by omega
    have hmb : (m : Int) < (xs.length : Int) := by omega
    have hmb1 : (m : Int) + 1 < (xs.length : Int) := by omega
    clear hm hmc hpos
    have c1 := abv_cell hbl' c1
    have c2 := abv_cell hbl' c2
    cases o1 with
    | false =>
      rw [Bool.not_false] at d1
      clear d2
      go_wp2_with fail
      refine wp_region_abv (by first | assumption | kernel_rfl) (by kernel_rfl) ?_
      repeat (first | go_big_quiet_step (exact callAbv (Order_any _ _ _ (by assumption) (by assumption))) | quiet_step (exact callAbv (Order_any _ _ _ (by assumption) (by assumption))))
      refine wpQuiet_nil ?_
      intro w2 hw2
      obtain ⟨p, rfl⟩ := hw2
      go_wp2_with fail
      go_ret
      exact ⟨retB (by rw [HL.out, HA.out, HO.out]; rfl), eb_of HW.out p.h (Nat.le_refl _)⟩
    | true =>
      rw [Bool.not_true] at d1
      cases o2 with
      | true =>
        go_wp2_with fail
        refine wp_region_abv (by first | assumption | kernel_rfl) (by kernel_rfl) ?_
        repeat (first | go_big_quiet_step (exact callAbv (Order_any _ _ _ (by assumption) (by assumption))) | quiet_step (exact callAbv (Order_any _ _ _ (by assumption) (by assumption))))
        refine wpQuiet_nil ?_
        intro w2 hw2
        obtain ⟨p, rfl⟩ := hw2
        go_wp2_with fail
        go_ret
        exact ⟨retB (by rw [HL.out, HA.out, HO.out]; rfl), eb_of HW.out p.h (Nat.le_refl _)⟩
      | false =>
        go_wp2_with fail
        refine wp_region_abv (by first | assumption | kernel_rfl) (by kernel_rfl) ?_
        repeat (first | go_big_quiet_step (exact callAbv (Order_any _ _ _ (by assumption) (by assumption))) | quiet_step (exact callAbv (Order_any _ _ _ (by assumption) (by assumption))))
        refine wpQuiet_nil ?_
        intro w2 hw2
        obtain ⟨p, rfl⟩ := hw2
        go_wp2_with fail
        go_roundw
        case rel => exact ⟨k + 1, by omega, by go_num, eb_of HC.out p.h (Nat.le_refl _), HA.out.trans HO.out⟩
        case measure => simp [intOf]; omega
end Go.Proofs.Ytpgngiegpigfiaa.KK
