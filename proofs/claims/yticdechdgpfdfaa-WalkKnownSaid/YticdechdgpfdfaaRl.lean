/-
  Runs: Far, the law's own example.
-/
import Derived.Test.YticdechdgpfdfaaRk
import Derived.Test.YticdechdgpfdfaaQd
namespace Go.Proofs.Yticdechdgpfdfaa.KK
open Go.ChangeShapes Go.WideShapes Go.ChangeAt Go.RowKit Go.Proofs

set_option maxRecDepth 100000 in
set_option maxHeartbeats 2000000 in
theorem far8_any (id : Int) (A : Option Addr) (c : Nat) (xs : List El.En) (w : World) (hf : EsAt w A xs) (hn : xs.length ≤ 9223372036854775807) (hs : Sized xs) :
    Calls Try.prog 11 #[.agg #[.int .i64 id, .slice A xs.length c]] w fun e w' => e = .returned (.bool (farF xs)) ∧ Below w.heap.size w w' := by
  have HX := boxU id A xs.length c w
  obtain ⟨x0, x1, x2, x3⟩ := HX.out _ (Below.refl _ _)
  have HB := Lib.hid x3
  by_cases h80 : 80 < xs.length
  · by_cases h5 : xs.length ≤ 5000
    · have H : Hid (farF xs = true) := Lib.hid (by unfold farF; rw [if_pos h80, decide_eq_true h5]; rfl)
      have h5' : (xs.length : Int) ≤ 5000 := by omega
      clear hf hs x3
      go_enter Try.func11, Try.ntmps11
      go_wp2_with fail
      go_ret
      exact ⟨retB (by rw [H.out]), HB.out⟩
    · by_cases h6 : 5010 < xs.length
      · have H : Hid (farF xs = true) := Lib.hid (by unfold farF; rw [if_pos h80, decide_eq_true h6, Bool.or_true])
        have h5' : ¬ (xs.length : Int) ≤ 5000 := by omega
        have h6' : (5010 : Int) < (xs.length : Int) := by omega
        have e5 : decide ((xs.length : Int) ≤ 5000) = false := by simp; omega
        have e6 : decide ((5010 : Int) < (xs.length : Int)) = true := by simp; omega
        clear hf hs x3
        go_enter Try.func11, Try.ntmps11
        go_wp2_with fail
        go_ret
        exact ⟨retB (by rw [H.out]; try simp; try omega), HB.out⟩
      · have H : Hid (farF xs = false) := Lib.hid (by unfold farF; rw [if_pos h80, decide_eq_false h5, decide_eq_false h6]; rfl)
        have h5' : ¬ (xs.length : Int) ≤ 5000 := by omega
        have h6' : ¬ (5010 : Int) < (xs.length : Int) := by omega
        have e5 : decide ((xs.length : Int) ≤ 5000) = false := by simp; omega
        have e6 : decide ((5010 : Int) < (xs.length : Int)) = false := by simp; omega
        clear hf hs x3
        go_enter Try.func11, Try.ntmps11
        go_wp2_with fail
        go_ret
        exact ⟨retB (by rw [H.out]; try simp; try omega), HB.out⟩
  have HAL : Hid (farF xs = xs.any largeE) := Lib.hid (if_neg h80)
  go_enter Try.func11, Try.ntmps11
  go_wp2_with fail
  go_loopw [3] (fun i wr => ∃ k : Nat, k ≤ xs.length ∧ i = .int .i64 k ∧ wr = w.alloc (.cells #[.int .i64 id, .slice A xs.length c] 24) ∧ Hid ((xs.take k).any largeE = false)) (fun i _ => xs.length - (intOf i).toNat)
  case atStart => exact ⟨0, Nat.zero_le _, rfl, by first | trivial | rfl, Lib.hid (by simp)⟩
  case round =>
    obtain ⟨k, hk, rfl, rfl, HA⟩ := hrel
    by_cases hlt : k < xs.length
    rotate_left
    · have HE : Hid (xs.any largeE = false) := Lib.hid (by have := HA.out; rwa [List.take_of_length_le (by omega)] at this)
      go_wp2_with fail
      go_ret
      exact ⟨retB (by rw [HAL.out, HE.out]), HB.out⟩
    rcases hf.below x3 (Nat.le_refl _) with h0 | ⟨b, off, rfl, hbl, hc⟩
    · subst h0; simp at hlt
    obtain ⟨g0, g1, g2, g3⟩ := hc k hlt
    obtain ⟨s0, s1⟩ := hs.at hlt
    by_cases l0 : 100 < xs[k].1.size
    · have HE : Hid (xs.any largeE = true) := Lib.hid (any_at hlt (by unfold largeE; rw [decide_eq_true l0]; rfl))
      have d0 : (100 : Int) < (xs[k].1.size : Int) := by omega
      clear hc hs hf
      generalize xs[k] = x at *
      go_wp2_with fail
      go_ret
      exact ⟨retB (by rw [HAL.out, HE.out]), HB.out⟩
    · by_cases l1 : 100 < xs[k].2.1.size
      · have HE : Hid (xs.any largeE = true) := Lib.hid (any_at hlt (by unfold largeE; rw [decide_eq_true l1, Bool.or_true]))
        have d0 : ¬ (100 : Int) < (xs[k].1.size : Int) := by omega
        have d1 : (100 : Int) < (xs[k].2.1.size : Int) := by omega
        clear hc hs hf
        generalize xs[k] = x at *
        go_wp2_with fail
        go_ret
        exact ⟨retB (by rw [HAL.out, HE.out]), HB.out⟩
      · have HN := Lib.hid (any_next hlt HA.out (by unfold largeE; rw [decide_eq_false l0, decide_eq_false l1]; rfl))
        have d0 : ¬ (100 : Int) < (xs[k].1.size : Int) := by omega
        have d1 : ¬ (100 : Int) < (xs[k].2.1.size : Int) := by omega
        clear hc hs hf
        generalize xs[k] = x at *
        go_wp2_with fail
        go_roundw
        case rel => exact ⟨k + 1, by omega, by go_num, by first | trivial | rfl, HN⟩
        case measure => simp [intOf]; omega
def rx1 : El.En := (⟨#[97]⟩, ⟨#[49]⟩, false, 1)
def rx2 : El.En := (⟨#[99]⟩, ⟨#[]⟩, true, 2)
def rx3 : El.En := (⟨#[101]⟩, ⟨#[50]⟩, false, 3)
def rxL : List El.En := [rx1, rx2, rx3]
/-- the run of the examples, new -/
def RxOut (w : World) (e : Ending) (w' : World) : Prop := ∃ A, e = .returned (.agg #[.int .i64 7, .slice (some A) 3 3]) ∧ EsAt w' (some A) rxL ∧ Below w.heap.size w w'
end Go.Proofs.Yticdechdgpfdfaa.KK
