/-
  What a good list of entries is, plainly; the reference's all.
-/
import Derived.Test.YtmobjpmkenpckaaDoorHa
namespace Go.Proofs.YtmobjpmkenpckaaDoor.KK
open Go.ChangeShapes Go.WideShapes Go.ChangeAt Go.RowKit Go.Proofs Go.Sort

theorem wrong_zero {p : Option El.En} {x : El.En} (h : wrong p x = 0) : El.chk x = 0 ∧ ∀ y, p = some y → kl y x = true := by
  unfold wrong at h
  by_cases hc : El.chk x = 0
  · rw [if_pos hc] at h
    refine ⟨hc, fun y hy => ?_⟩
    subst hy
    by_cases g : 0 ≤ Kl.ord (Kl.L y.1) (Kl.L x.1)
    · simp only at h; rw [if_pos g] at h; cases h
    · exact Kl.ord_neg.1 (by omega)
  · rw [if_neg hc] at h; exact absurd h hc
theorem scan_zero : ∀ {xs : List El.En} {i : Nat} {p : Option El.En}, (scan i p xs).2 = 0 → (∀ x ∈ xs, El.chk x = 0) ∧ SK xs ∧ ∀ y, p = some y → ∀ x ∈ xs, kl y x = true
  | [], _, _, _ => ⟨fun x hx => (by cases hx), List.Pairwise.nil, fun y _ x hx => (by cases hx)⟩
  | x :: t, i, p, h => by
    by_cases g : wrong p x = 0
    · rw [scan, if_pos g] at h
      obtain ⟨a1, a2, a3⟩ := scan_zero h
      obtain ⟨b1, b2⟩ := wrong_zero g
      refine ⟨fun z hz => ?_, List.pairwise_cons.2 ⟨a3 x rfl, a2⟩, fun y hy z hz => ?_⟩
      · rcases List.mem_cons.1 hz with rfl | hz
        · exact b1
        · exact a1 z hz
      · rcases List.mem_cons.1 hz with rfl | hz
        · exact b2 y hy
        · exact kl_trans (b2 y hy) (a3 x rfl z hz)
    · rw [scan, if_neg g] at h; exact absurd h g
/-- a list that CheckList finds nothing wrong with -/
theorem list_ok {xs : List El.En} (h : (listE xs).2 = 0) : xs.length ≤ 5000 ∧ (∀ x ∈ xs, El.chk x = 0) ∧ SK xs := by
  unfold listE at h
  by_cases g : 5000 < xs.length
  · rw [if_pos g] at h; cases h
  · rw [if_neg g] at h
    obtain ⟨a1, a2, _⟩ := scan_zero h
    exact ⟨by omega, a1, a2⟩
set_option maxHeartbeats 1000000 in
theorem fAll_any (A : Option Addr) (c : Nat) (xs : List El.En) (w : World) (hf : EsAt w A xs) (hn : xs.length ≤ 4294967295) (hs : Sized xs) :
    Calls Tryd.prog 28 #[.slice A xs.length c] w fun e w' => e = .returned (.int .i64 (allE xs)) ∧ Below w.heap.size w w' := by
  by_cases h64 : 5000 < xs.length
  · go_enter Tryd.func28, Tryd.ntmps28
    go_wp2_with fail
    go_ret
    exact ⟨retI (by rw [allE, if_pos h64]), Below.refl _ _⟩
  have HAL : Hid (allE xs = firstE xs) := Lib.hid (by rw [allE, if_neg h64])
  go_enter Tryd.func28, Tryd.ntmps28
  go_wp2_with fail
  go_loopw [3] (fun i wr => ∃ k : Nat, k ≤ xs.length ∧ i = .int .i64 k ∧ Below w.heap.size w wr ∧ firstE xs = firstE (xs.drop k)) (fun i _ => xs.length - (intOf i).toNat)
  case atStart => exact ⟨0, Nat.zero_le _, rfl, Below.refl _ _, by simp⟩
  case round =>
    obtain ⟨k, hk, rfl, hb, ha⟩ := hrel
    have hsz := hb.size
    have HA := Lib.hid ha
    have HB := Lib.hid hb
    have hf' := hf.below hb (Nat.le_refl _)
    clear ha hb hf
    by_cases hlt : k < xs.length
    · have hI : (k : Int) < (xs.length : Int) := by omega
      rcases hf' with h0 | ⟨b, off, rfl, hbl, hc⟩
      · subst h0; simp at hlt
      obtain ⟨g0, g1, g2, g3⟩ := hc k hlt
      have J := Lib.hid (fun w => fCheck_any xs[k].1 xs[k].2.1 xs[k].2.2.1 xs[k].2.2.2 w (hs.at hlt).1 (hs.at hlt).2)
      have HS := Lib.hid hs
      clear hc hs
      by_cases hl : El.chk xs[k] = 0
      · have J := Lib.hid (fun w => by have K := J.out w; rw [show El.chk (xs[k].1, xs[k].2.1, xs[k].2.2.1, xs[k].2.2.2) = 0 from hl] at K; exact K)
        have HL := Lib.hid hl
        clear hl
        go_wp2_with fail
        refine (J.out _).mono ?_
        rintro e w1 ⟨rfl, hb1⟩
        have HB1 := Lib.hid (eb_of HB.out hb1 (Nat.le_refl _))
        clear hb1
        go_wp2_with fail
        go_roundw
        case rel => exact ⟨k + 1, by omega, by go_num, HB1.out, by rw [HA.out, firstE_ok hlt HL.out]⟩
        case measure => simp [intOf]; omega
      · have HL := Lib.hid hl
        obtain ⟨b1, b2⟩ := ne_b hl
        have J := Lib.hid (fun w => by have K := J.out w; rw [show El.chk (xs[k].1, xs[k].2.1, xs[k].2.2.1, xs[k].2.2.2) = El.chk xs[k] from rfl] at K; exact K)
        clear hl
        generalize hr : El.chk xs[k] = r at *
        have HR := Lib.hid hr
        clear hr
        go_wp2_with fail
        refine (J.out _).mono ?_
        rintro e w1 ⟨rfl, hb1⟩
        have HB1 := Lib.hid (eb_of HB.out hb1 (Nat.le_refl _))
        clear hb1
        go_wp2_with fail
        go_ret
        exact ⟨retI (by rw [HAL.out, HA.out, firstE_no hlt (by rw [HR.out]; exact HL.out), HR.out]), HB1.out⟩
    · have hI : ¬ (k : Int) < (xs.length : Int) := by omega
      go_wp2_with fail
      go_ret
      exact ⟨retI (by rw [HAL.out, HA.out, firstE_end hlt]), HB.out⟩
end Go.Proofs.YtmobjpmkenpckaaDoor.KK
