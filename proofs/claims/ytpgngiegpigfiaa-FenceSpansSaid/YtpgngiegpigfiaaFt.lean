/-
  The law's own far, wide, example.
-/
import Derived.Test.YtpgngiegpigfiaaFs
namespace Go.Proofs.Ytpgngiegpigfiaa.KK
open Go.ChangeShapes Go.WideShapes Go.ChangeAt Go.RowKit Go.Proofs

def farF (xs : List El.En) : Bool := if 80 < xs.length then (decide (xs.length ≤ 5000) || decide (5010 < xs.length)) else xs.any largeE
def longM (m : ByteArray) : Bool := decide (100 < m.size)
def wideF (ms : List ByteArray) : Bool := if 80 < ms.length then (decide (ms.length < 5000) || decide (5010 < ms.length)) else ms.any longM
theorem anyM_at {xs : List ByteArray} {k : Nat} (h : k < xs.length) {p : ByteArray → Bool} (hp : p xs[k] = true) : xs.any p = true := List.any_eq_true.2 ⟨xs[k], List.getElem_mem h, hp⟩
theorem anyM_next {xs : List ByteArray} {k : Nat} (h : k < xs.length) {p : ByteArray → Bool} (h1 : (xs.take k).any p = false) (h2 : p xs[k] = false) : (xs.take (k + 1)).any p = false := by
  rw [List.take_succ_eq_append_getElem h, List.any_append, h1]; simp [h2]
theorem far_len {xs : List El.En} (h : farF xs = false) : xs.length ≤ 5010 := by
  unfold farF at h
  by_cases g : 80 < xs.length
  · rw [if_pos g] at h; simp at h; omega
  · omega
theorem wide_len {ms : List ByteArray} (h : wideF ms = false) : ms.length ≤ 5010 := by
  unfold wideF at h
  by_cases g : 80 < ms.length
  · rw [if_pos g] at h; simp at h; omega
  · omega
set_option maxRecDepth 100000 in
set_option maxHeartbeats 2000000 in
theorem far7_any (A : Option Addr) (c : Nat) (xs : List El.En) (w : World) (hf : EsAt w A xs) (hn : xs.length ≤ 9223372036854775807) (hs : Sized xs) :
    Calls Try.prog 10 #[.slice A xs.length c] w fun e w' => e = .returned (.bool (farF xs)) ∧ w = w' := by
  by_cases h80 : 80 < xs.length
  · by_cases h5 : xs.length ≤ 5000
    · have H : Hid (farF xs = true) := Lib.hid (by unfold farF; rw [if_pos h80, decide_eq_true h5]; rfl)
      have h5' : (xs.length : Int) ≤ 5000 := by omega
      clear hf hs
      go_enter Try.func10, Try.ntmps10
      go_wp2_with fail
      go_ret
      exact ⟨retB (by rw [H.out]), rfl⟩
    · by_cases h6 : 5010 < xs.length
      · have H : Hid (farF xs = true) := Lib.hid (by unfold farF; rw [if_pos h80, decide_eq_true h6, Bool.or_true])
        have h5' : ¬ (xs.length : Int) ≤ 5000 := by omega
        have h6' : (5010 : Int) < (xs.length : Int) := by omega
        have e5 : decide ((xs.length : Int) ≤ 5000) = false := by simp; omega
        have e6 : decide ((5010 : Int) < (xs.length : Int)) = true := by simp; omega
        clear hf hs
        go_enter Try.func10, Try.ntmps10
        go_wp2_with fail
        go_ret
        exact ⟨retB (by rw [H.out]; try simp; try omega), rfl⟩
      · have H : Hid (farF xs = false) := Lib.hid (by unfold farF; rw [if_pos h80, decide_eq_false h5, decide_eq_false h6]; rfl)
        have h5' : ¬ (xs.length : Int) ≤ 5000 := by omega
        have h6' : ¬ (5010 : Int) < (xs.length : Int) := by omega
        have e5 : decide ((xs.length : Int) ≤ 5000) = false := by simp; omega
        have e6 : decide ((5010 : Int) < (xs.length : Int)) = false := by simp; omega
        clear hf hs
        go_enter Try.func10, Try.ntmps10
        go_wp2_with fail
        go_ret
        exact ⟨retB (by rw [H.out]; try simp; try omega), rfl⟩
  have HAL : Hid (farF xs = xs.any largeE) := Lib.hid (if_neg h80)
  go_enter Try.func10, Try.ntmps10
  go_wp2_with fail
  go_loopw [3] (fun i wr => ∃ k : Nat, k ≤ xs.length ∧ i = .int .i64 k ∧ wr = w ∧ Hid ((xs.take k).any largeE = false)) (fun i _ => xs.length - (intOf i).toNat)
  case atStart => exact ⟨0, Nat.zero_le _, rfl, by first | trivial | rfl, Lib.hid (by simp)⟩
  case round =>
    obtain ⟨k, hk, rfl, rfl, HA⟩ := hrel
    by_cases hlt : k < xs.length
    rotate_left
    · have HE : Hid (xs.any largeE = false) := Lib.hid (by have := HA.out; rwa [List.take_of_length_le (by omega)] at this)
      go_wp2_with fail
      go_ret
      exact ⟨retB (by rw [HAL.out, HE.out]), rfl⟩
    rcases hf with h0 | ⟨b, off, rfl, hbl, hc⟩
    · subst h0; simp at hlt
    obtain ⟨g0, g1, g2, g3⟩ := hc k hlt
    obtain ⟨s0, s1⟩ := hs.at hlt
    by_cases l0 : 100 < xs[k].1.size
    · have HE : Hid (xs.any largeE = true) := Lib.hid (any_at hlt (by unfold largeE; rw [decide_eq_true l0]; rfl))
      have d0 : (100 : Int) < (xs[k].1.size : Int) := by omega
      clear hc hs
      generalize xs[k] = x at *
      go_wp2_with fail
      go_ret
      exact ⟨retB (by rw [HAL.out, HE.out]), rfl⟩
    · by_cases l1 : 100 < xs[k].2.1.size
      · have HE : Hid (xs.any largeE = true) := Lib.hid (any_at hlt (by unfold largeE; rw [decide_eq_true l1, Bool.or_true]))
        have d0 : ¬ (100 : Int) < (xs[k].1.size : Int) := by omega
        have d1 : (100 : Int) < (xs[k].2.1.size : Int) := by omega
        clear hc hs
        generalize xs[k] = x at *
        go_wp2_with fail
        go_ret
        exact ⟨retB (by rw [HAL.out, HE.out]), rfl⟩
      · have HN := Lib.hid (any_next hlt HA.out (by unfold largeE; rw [decide_eq_false l0, decide_eq_false l1]; rfl))
        have d0 : ¬ (100 : Int) < (xs[k].1.size : Int) := by omega
        have d1 : ¬ (100 : Int) < (xs[k].2.1.size : Int) := by omega
        clear hc hs
        generalize xs[k] = x at *
        go_wp2_with fail
        go_roundw
        case rel => exact ⟨k + 1, by omega, by go_num, by first | trivial | rfl, HN⟩
        case measure => simp [intOf]; omega
set_option maxRecDepth 100000 in
set_option maxHeartbeats 2000000 in
theorem wide7_any (s : Int) (A : Option Addr) (c : Nat) (ms : List ByteArray) (w : World) (hf : SsAt w A ms) (hn : ms.length ≤ 9223372036854775807) (hs : SizedS ms) :
    Calls Try.prog 11 #[.agg #[.int .i64 s, .slice A ms.length c]] w fun e w' => e = .returned (.bool (wideF ms)) ∧ Below w.heap.size w w' := by
  have HX := boxF s A ms.length c w
  obtain ⟨x0, x1, x2, x3⟩ := HX.out _ (Below.refl _ _)
  have HB := Lib.hid x3
  clear x3
  by_cases h80 : 80 < ms.length
  · by_cases h5 : ms.length < 5000
    · have H : Hid (wideF ms = true) := Lib.hid (by unfold wideF; rw [if_pos h80, decide_eq_true h5]; rfl)
      have h5' : (ms.length : Int) < 5000 := by omega
      clear hf hs
      go_enter Try.func11, Try.ntmps11
      go_wp2_with fail
      go_ret
      exact ⟨retB (by rw [H.out]), HB.out⟩
    · by_cases h6 : 5010 < ms.length
      · have H : Hid (wideF ms = true) := Lib.hid (by unfold wideF; rw [if_pos h80, decide_eq_true h6, Bool.or_true])
        have h5' : ¬ (ms.length : Int) < 5000 := by omega
        have h6' : (5010 : Int) < (ms.length : Int) := by omega
        have e5 : decide ((ms.length : Int) < 5000) = false := by simp; omega
        have e6 : decide ((5010 : Int) < (ms.length : Int)) = true := by simp; omega
        clear hf hs
        go_enter Try.func11, Try.ntmps11
        go_wp2_with fail
        go_ret
        exact ⟨retB (by rw [H.out]; try simp; try omega), HB.out⟩
      · have H : Hid (wideF ms = false) := Lib.hid (by unfold wideF; rw [if_pos h80, decide_eq_false h5, decide_eq_false h6]; rfl)
        have h5' : ¬ (ms.length : Int) < 5000 := by omega
        have h6' : ¬ (5010 : Int) < (ms.length : Int) := by omega
        have e5 : decide ((ms.length : Int) < 5000) = false := by simp; omega
        have e6 : decide ((5010 : Int) < (ms.length : Int)) = false := by simp; omega
        clear hf hs
        go_enter Try.func11, Try.ntmps11
        go_wp2_with fail
        go_ret
        exact ⟨retB (by rw [H.out]; try simp; try omega), HB.out⟩
  have HAL : Hid (wideF ms = ms.any longM) := Lib.hid (if_neg h80)
  have HF := Lib.hid hf
  clear hf
  go_enter Try.func11, Try.ntmps11
  go_wp2_with fail
  go_loopw [3] (fun i wr => ∃ k : Nat, k ≤ ms.length ∧ i = .int .i64 k ∧ Below (w.alloc (.cells #[.int .i64 s, .slice A ms.length c] 25)).heap.size (w.alloc (.cells #[.int .i64 s, .slice A ms.length c] 25)) wr ∧ Hid ((ms.take k).any longM = false)) (fun i _ => ms.length - (intOf i).toNat)
  case atStart => exact ⟨0, Nat.zero_le _, rfl, Below.refl _ _, Lib.hid (by simp)⟩
  case round =>
    obtain ⟨k, hk, rfl, hb, HA⟩ := hrel
    obtain ⟨v0, v1, v2, v3⟩ := HX.out _ hb
    have HC := Lib.hid hb
    have HW := Lib.hid v3
    clear hb v2 v3 x0 x1
    by_cases hlt : k < ms.length
    rotate_left
    · have HE : Hid (ms.any longM = false) := Lib.hid (by have := HA.out; rwa [List.take_of_length_le (by omega)] at this)
      go_wp2_with fail
      go_ret
      exact ⟨retB (by rw [HAL.out, HE.out]), HW.out⟩
    have s0 := hs.at hlt
    rcases HF.out.below HW.out (Nat.le_refl _) with h0 | ⟨b, off, rfl, hbl, hc⟩
    · subst h0; simp at hlt
    have g0 := hc k hlt
    by_cases l0 : 100 < ms[k].size
    · have HE : Hid (ms.any longM = true) := Lib.hid (anyM_at hlt (decide_eq_true l0))
      have d0 : (100 : Int) < (ms[k].size : Int) := by omega
      clear hc hs
      generalize ms[k] = x at *
      go_wp2_with fail
      go_ret
      exact ⟨retB (by rw [HAL.out, HE.out]), HW.out⟩
    · have HN := Lib.hid (anyM_next hlt HA.out (decide_eq_false l0))
      have d0 : ¬ (100 : Int) < (ms[k].size : Int) := by omega
      clear hc hs
      generalize ms[k] = x at *
      go_wp2_with fail
      go_roundw
      case rel => exact ⟨k + 1, by omega, by go_num, HC.out, HN⟩
      case measure => simp [intOf]; omega
end Go.Proofs.Ytpgngiegpigfiaa.KK
