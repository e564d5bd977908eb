/-
  Fences: what fits, on both sides.
-/
import Derived.Test.YtpgngiegpigfiaaFg
import Derived.Test.YtpgngiegpigfiaaFd
namespace Go.Proofs.Ytpgngiegpigfiaa.KK
open Go.ChangeShapes Go.WideShapes Go.ChangeAt Go.RowKit Go.Proofs

theorem keyAt_size {xs : List El.En} (h : ∀ x ∈ xs, x.1.size ≤ 32) {i : Nat} (hi : i < xs.length) : (keyAt xs i).size ≤ 32 := by
  rw [keyAt_eq hi]; exact h _ (List.getElem_mem hi)
theorem fitsF_no {st : Nat} {ms : List ByteArray} {xs : List El.En} (h : ms.length ≠ mk xs.length st) : fitsF st ms xs = false := by
  unfold fitsF; rw [decide_eq_false h, Bool.false_and]
theorem fitsF_yes {st : Nat} {ms : List ByteArray} {xs : List El.En} (h : ms.length = mk xs.length st) : fitsF st ms xs = fitsAt st xs 0 ms := by
  unfold fitsF; rw [decide_eq_true h, Bool.true_and]
theorem okM_f1 {st i : Nat} {xs : List El.En} {m : ByteArray} (h : ltK (keyAt xs ((i + 1) * st - 1)) m = false) : okM st xs i m = false := by unfold okM; rw [h, Bool.false_and]
theorem okM_f2 {st i : Nat} {xs : List El.En} {m : ByteArray} (h : ltK (keyAt xs ((i + 1) * st)) m = true) : okM st xs i m = false := by unfold okM; rw [h, Bool.not_true, Bool.and_false]
theorem okM_t {st i : Nat} {xs : List El.En} {m : ByteArray} (h : ltK (keyAt xs ((i + 1) * st - 1)) m = true) (g : ltK (keyAt xs ((i + 1) * st)) m = false) : okM st xs i m = true := by unfold okM; rw [h, g]; rfl
theorem num_ne {a b : Nat} (h : a ≠ b) : ((a : Int) == (b : Int)) = false ∧ ((a : Int) != (b : Int)) = true := by
  have : (a : Int) ≠ (b : Int) := by omega
  exact ⟨by rw [beq_eq_false_iff_ne]; exact this, by rw [bne_iff_ne]; exact this⟩
set_option maxRecDepth 100000 in
set_option maxHeartbeats 4000000 in
theorem pfits_any (A : Option Addr) (c : Nat) (ms : List ByteArray) (B : Option Addr) (d : Nat) (xs : List El.En) (st : Nat) (w : World) (hf : SsAt w A ms) (hg : EsAt w B xs) (hm : ms.length ≤ 5000) (hkm : ∀ m ∈ ms, m.size ≤ 32) (hn : xs.length ≤ 5000) (hkx : ∀ x ∈ xs, x.1.size ≤ 32) (hcap : xs.length ≤ d) (h64 : st ≤ 64) (h1 : 1 ≤ st) :
    Calls Try.prog 43 #[.agg #[.int .i64 st, .slice A ms.length c], .slice B xs.length d] w fun e w' => e = .returned (.bool (fitsF st ms xs)) ∧ Below w.heap.size w w' := by
  have HX := boxF st A ms.length c w
  have JM := Lib.hid (fun w => marksFor_any xs.length st w (by omega) h1 h64)
  obtain ⟨x0, x1, x2, x3⟩ := HX.out _ (Below.refl _ _)
  have y0 := abv_cell x2 x0
  have y1 := abv_cell x2 x1
  have HB := Lib.hid x3
  clear x0 x1 x2 x3
  by_cases hlen : ms.length = mk xs.length st
  rotate_left
  · have HL := Lib.hid (fitsF_no hlen)
    obtain ⟨n1, n2⟩ := num_ne hlen
    clear hf hg hkm hkx hlen
    generalize mk xs.length st = q at *
    go_enter Try.func43, Try.ntmps43
    go_wp2_with fail
    refine wp_region_abv (by first | assumption | kernel_rfl) (by kernel_rfl) ?_
    repeat (first | go_big_quiet_step (exact callAbv0 (JM.out _)) | quiet_step (exact callAbv0 (JM.out _)))
    refine wpQuiet_nil ?_
    intro w2 hw2
    obtain ⟨p, rfl⟩ := hw2
    go_wp2_with fail
    go_ret
    exact ⟨retB (by rw [HL.out]), eb_of HB.out p.h (by simp)⟩
  have HL := Lib.hid (fitsF_yes hlen)
  rw [← hlen] at JM
  have HIX : Hid (∀ k, k < ms.length → (k + 1) * st < xs.length) := Lib.hid (fun k hk => mk_idx h1 (by rw [← hlen]; exact hk))
  have JB := Lib.hid (fun k (hk : k < ms.length) w1 (hb : Below w.heap.size w w1) => border_any B d xs st k w1 (hg.below hb (Nat.le_refl _)) hn hcap h64 h1 (HIX.out k hk))
  have HZ : Hid (∀ i, i < xs.length → (keyAt xs i).size ≤ 32) := Lib.hid (fun i hi => keyAt_size hkx hi)
  have HF := Lib.hid hf
  clear hg hkx hlen hf
  go_enter Try.func43, Try.ntmps43
  go_wp2_with fail
  refine wp_region_abv (by first | assumption | kernel_rfl) (by kernel_rfl) ?_
  repeat (first | go_big_quiet_step (exact callAbv0 (JM.out _)) | quiet_step (exact callAbv0 (JM.out _)))
  refine wpQuiet_nil ?_
  intro w2 hw2
  obtain ⟨p, rfl⟩ := hw2
  obtain ⟨x0, x1, x2, x3⟩ := HX.out _ p.h
  have HP := Lib.hid p.h
  clear x2 x3 y0 y1
  go_wp2_with fail
  go_loopw [21] (fun i wr => ∃ k : Nat, k ≤ ms.length ∧ i = .int .i64 k ∧ Below (w.alloc (.cells #[.int .i64 st, .slice A ms.length c] 25)).heap.size (w.alloc (.cells #[.int .i64 st, .slice A ms.length c] 25)) wr ∧ fitsAt st xs 0 ms = fitsAt st xs k (ms.drop k)) (fun i _ => ms.length - (intOf i).toNat)
  case atStart => exact ⟨0, Nat.zero_le _, rfl, HP.out, rfl⟩
  case round =>
    obtain ⟨k, hk, rfl, hb, ha⟩ := hrel
    obtain ⟨x0, x1, x2, x3⟩ := HX.out _ hb
    have HC := Lib.hid hb
    have HW := Lib.hid x3
    have HA := Lib.hid ha
    clear x2 x3 hb ha
    by_cases hlt : k < ms.length
    rotate_left
    · have HE := Lib.hid (fitsAt_end (st := st) (xs := xs) hlt)
      go_wp2_with fail
      go_ret
      exact ⟨retB (by rw [HL.out, HA.out, HE.out]), HW.out⟩
    rcases HF.out.below HW.out (Nat.le_refl _) with h0 | ⟨b, off, rfl, hbl, hc⟩
    · subst h0; simp at hlt
    have g0 := hc k hlt
    clear hc
    have hix := HIX.out k hlt
    have hz1 := HZ.out ((k + 1) * st - 1) (by omega)
    have hz2 := HZ.out ((k + 1) * st) hix
    have hzm := hkm ms[k] (List.getElem_mem hlt)
    have J1 := Lib.hid (JB.out k hlt wr HW.out)
    have J2 := Lib.hid (fun w => less_any (keyAt xs ((k + 1) * st - 1)) ms[k] w hz1 hzm)
    have J3 := Lib.hid (fun w => less_any (keyAt xs ((k + 1) * st)) ms[k] w hz2 hzm)
    clear hz1 hz2 hzm hix
    cases o1 : ltK (keyAt xs ((k + 1) * st - 1)) ms[k] with
    | false =>
      have HE := Lib.hid (fitsAt_no hlt (okM_f1 o1))
      rw [o1] at J2
      clear o1 J3
      generalize keyAt xs ((k + 1) * st - 1) = a1 at *
      generalize keyAt xs ((k + 1) * st) = a2 at *
      go_wp2_with fail
      refine J1.out.mono ?_
      rintro e w1 ⟨rfl, hb1⟩
      have HB1 := Lib.hid (eb_of HW.out hb1 (Nat.le_refl _) : Below w.heap.size w w1)
      clear hb1
      go_wp2_with fail
      refine (J2.out _).mono ?_
      rintro e w2 ⟨rfl, hb2⟩
      have HB2 := Lib.hid (eb_of HB1.out hb2 (Nat.le_refl _))
      clear hb2
      go_wp2_with fail
      go_ret
      exact ⟨retB (by rw [HL.out, HA.out, HE.out]), HB2.out⟩
    | true =>
      rw [o1] at J2
      cases o2 : ltK (keyAt xs ((k + 1) * st)) ms[k] with
      | true =>
        have HE := Lib.hid (fitsAt_no hlt (okM_f2 o2))
        rw [o2] at J3
        clear o1 o2
        generalize keyAt xs ((k + 1) * st - 1) = a1 at *
        generalize keyAt xs ((k + 1) * st) = a2 at *
        go_wp2_with fail
        refine J1.out.mono ?_
        rintro e w1 ⟨rfl, hb1⟩
        have HB1 := Lib.hid (eb_of HW.out hb1 (Nat.le_refl _) : Below w.heap.size w w1)
        clear hb1
        go_wp2_with fail
        refine (J2.out _).mono ?_
        rintro e w2 ⟨rfl, hb2⟩
        have HB2 := Lib.hid (eb_of HB1.out hb2 (Nat.le_refl _))
        clear hb2
        go_wp2_with fail
        refine (J3.out _).mono ?_
        rintro e w3 ⟨rfl, hb3⟩
        have HB3 := Lib.hid (eb_of HB2.out hb3 (Nat.le_refl _))
        clear hb3
        go_wp2_with fail
        go_ret
        exact ⟨retB (by rw [HL.out, HA.out, HE.out]), HB3.out⟩
      | false =>
        have HE := Lib.hid (fitsAt_yes hlt (okM_t o1 o2))
        rw [o2] at J3
        clear o1 o2
        generalize keyAt xs ((k + 1) * st - 1) = a1 at *
        generalize keyAt xs ((k + 1) * st) = a2 at *
        go_wp2_with fail
        refine J1.out.mono ?_
        rintro e w1 ⟨rfl, hb1⟩
        have HB1 := Lib.hid (eb_of HC.out hb1 (Nat.le_refl _))
        clear hb1
        go_wp2_with fail
        refine (J2.out _).mono ?_
        rintro e w2 ⟨rfl, hb2⟩
        have HB2 := Lib.hid (eb_of HB1.out hb2 (Nat.le_refl _))
        clear hb2
        go_wp2_with fail
        refine (J3.out _).mono ?_
        rintro e w3 ⟨rfl, hb3⟩
        have HB3 := Lib.hid (eb_of HB2.out hb3 (Nat.le_refl _))
        clear hb3
        go_wp2_with fail
        go_roundw
        case rel => exact ⟨k + 1, by omega, by go_num, HB3.out, HA.out.trans HE.out⟩
        case measure => simp [intOf]; omega
end Go.Proofs.Ytpgngiegpigfiaa.KK
