/-
  Contracts of Show and of 'awake': the examples that every statement of this layer asks for; 'less'.
-/
import Derived.Test.YtgljgjkoaaibnaaKj
namespace Go.Proofs.Ytgljgjkoaaibnaa.KK
open Go.ChangeShapes Go.WideShapes Go.ChangeAt Go.RowKit Go.Proofs

def showE (l : List UInt8) : Int × List UInt8 := if l.length ≤ 32 then (0, Kl.txt l) else (3, [])
theorem kShow_any (s : ByteArray) (w : World) (hs : s.size ≤ 4294967295) :
    Calls Try.prog 35 #[.string s] w fun e w' => e = .returned (strE (showE (Kl.L s))) ∧ Below w.heap.size w w' := by
  have K1 := fun w => kCheck_any s w (by omega)
  by_cases h : s.size ≤ 32
  · rw [chk1_ok h] at K1
    have J1 := Lib.hid K1
    have J2 := Lib.hid (fun w => textOf_any s w hs)
    have H : Hid (showE (Kl.L s) = (0, Kl.txt (Kl.L s))) := Lib.hid (by unfold showE; rw [Kl.L_length, if_pos h])
    clear K1 h
    go_enter Try.func35, Try.ntmps35
    go_wp2_with fail
    refine (J1.out _).mono ?_
    rintro e w' ⟨rfl, rfl⟩
    go_wp2_with fail
    refine (J2.out _).mono ?_
    rintro e w1 ⟨rfl, hb1⟩
    have HB := Lib.hid hb1
    clear hb1
    go_wp2_with fail
    go_ret2
    exact ⟨by rw [H.out]; rfl, HB.out⟩
  · rw [chk1_no h] at K1
    have J1 := Lib.hid K1
    have H : Hid (showE (Kl.L s) = (3, [])) := Lib.hid (by unfold showE; rw [Kl.L_length, if_neg h])
    clear K1 h
    go_enter Try.func35, Try.ntmps35
    go_wp2_with fail
    refine (J1.out _).mono ?_
    rintro e w' ⟨rfl, rfl⟩
    go_wp2_with fail
    go_ret2
    exact ⟨by rw [H.out]; rfl, Below.refl _ _⟩

theorem ex_cmp (w : World) : Calls Try.prog 13 #[.string ⟨#[97, 98]⟩, .string ⟨#[97, 98, 99]⟩] w fun e w' => e = .returned (.tuple #[.int .i64 (-1), .int .i64 0]) ∧ Below w.heap.size w w' :=
  kCompare_any ⟨#[97, 98]⟩ ⟨#[97, 98, 99]⟩ w (by decide) (by decide)
theorem ex_btw (w : World) : Calls Try.prog 23 #[.string ⟨#[97, 98, 99]⟩, .string ⟨#[97, 98, 120, 121, 122]⟩] w fun e w' => e = .returned (.tuple #[.string ⟨#[97, 98, 100]⟩, .int .i64 0]) ∧ Below w.heap.size w w' := by
  have h := kBetween_any ⟨#[97, 98, 99]⟩ ⟨#[97, 98, 120, 121, 122]⟩ w (by decide) (by decide)
  have e : btwE (Kl.L ⟨#[97, 98, 99]⟩) (Kl.L ⟨#[97, 98, 120, 121, 122]⟩) = (0, [97, 98, 100]) := by decide +kernel
  rw [e] at h; exact h
theorem ex_past (w : World) : Calls Try.prog 21 #[.string ⟨#[97, 255]⟩] w fun e w' => e = .returned (.tuple #[.string ⟨#[98]⟩, .int .i64 0]) ∧ Below w.heap.size w w' := by
  have h := kPast_any ⟨#[97, 255]⟩ w (by decide)
  have e : pastE (Kl.L ⟨#[97, 255]⟩) = (0, [98]) := by decide +kernel
  rw [e] at h; exact h
theorem ex_show (w : World) : Calls Try.prog 35 #[.string ⟨#[195, 169, 195, 92, 10]⟩] w fun e w' => e = .returned (.tuple #[.string ⟨#[195, 169, 92, 120, 99, 51, 92, 92, 92, 120, 48, 97]⟩, .int .i64 0]) ∧ Below w.heap.size w w' := by
  have h := kShow_any ⟨#[195, 169, 195, 92, 10]⟩ w (by decide)
  have e : showE (Kl.L ⟨#[195, 169, 195, 92, 10]⟩) = (0, [195, 169, 92, 120, 99, 51, 92, 92, 92, 120, 48, 97]) := by decide +kernel
  rw [e] at h; exact h
theorem ex_next (w : World) : Calls Try.prog 19 #[.string ⟨#[97, 98]⟩] w fun e w' => e = .returned (.tuple #[.string ⟨#[97, 98, 0]⟩, .int .i64 0]) ∧ Below w.heap.size w w' := by
  have h := kNext_any ⟨#[97, 98]⟩ w (by decide)
  have e : nextE (Kl.L ⟨#[97, 98]⟩) = (0, [97, 98, 0]) := by decide +kernel
  rw [e] at h; exact h

set_option maxRecDepth 100000 in
set_option maxHeartbeats 1000000 in
theorem awake_any (w : World) :
    Calls Try.prog 12 #[] w fun e w' => e = .returned (.bool true) ∧ Below w.heap.size w w' := by
  have HB := Lib.hid (Below.refl w.heap.size w)
  go_enter Try.func12, Try.ntmps12
  go_wp2_with fail
  refine (ex_cmp _).mono ?_
  rintro e w1 ⟨rfl, hb⟩
  have HB := Lib.hid (below_of HB.out hb (Nat.le_refl _))
  clear hb
  go_wp2_with fail
  refine (ex_btw _).mono ?_
  rintro e w2 ⟨rfl, hb⟩
  have HB := Lib.hid (below_of HB.out hb (Nat.le_refl _))
  clear hb
  go_wp2_with fail
  refine (ex_past _).mono ?_
  rintro e w3 ⟨rfl, hb⟩
  have HB := Lib.hid (below_of HB.out hb (Nat.le_refl _))
  clear hb
  go_wp2_with fail
  refine (ex_show _).mono ?_
  rintro e w4 ⟨rfl, hb⟩
  have HB := Lib.hid (below_of HB.out hb (Nat.le_refl _))
  clear hb
  go_wp2_with fail
  refine (ex_next _).mono ?_
  rintro e w5 ⟨rfl, hb⟩
  have HB := Lib.hid (below_of HB.out hb (Nat.le_refl _))
  clear hb
  go_wp2_with fail
  go_ret
  exact ⟨rfl, HB.out⟩

theorem less_any (a b : ByteArray) (w : World) (ha : a.size ≤ 9223372036854775807) (hb : b.size ≤ 9223372036854775807) :
    Calls Try.prog 39 #[.string a, .string b] w fun e w' => e = .returned (.bool (decide (a.size ≤ 32 ∧ b.size ≤ 32) && Kl.lt (Kl.L a) (Kl.L b))) ∧ Below w.heap.size w w' := by
  have K := fun w => kCompare_any a b w ha hb
  by_cases h : a.size ≤ 32 ∧ b.size ≤ 32
  · rw [chk2_ok h.1 h.2, cmpV_ok h.1 h.2] at K
    obtain ⟨o, ho⟩ : ∃ o, Kl.ord (Kl.L a) (Kl.L b) = o := ⟨_, rfl⟩
    rw [ho] at K
    have J := Lib.hid K
    have hl : Kl.lt (Kl.L a) (Kl.L b) = decide (o < 0) := by
      rw [← ho, Bool.eq_iff_iff, decide_eq_true_iff]; exact Kl.ord_neg.symm
    have H : Hid ((decide (a.size ≤ 32 ∧ b.size ≤ 32) && Kl.lt (Kl.L a) (Kl.L b)) = decide (o < 0)) := Lib.hid (by rw [hl, decide_eq_true h, Bool.true_and])
    clear K hl ho h
    rw [H.out]
    by_cases h0 : o < 0
    · go_enter Try.func39, Try.ntmps39
      go_wp2_with (go_at_call 13; refine (J.out _).mono ?_; rintro e w1 ⟨rfl, hb⟩; have HB := Lib.hid hb; clear hb)
      go_ret
      exact ⟨retB (by simp [h0]), HB.out⟩
    · have h1 : decide (o < 0) = false := by simpa using h0
      go_enter Try.func39, Try.ntmps39
      go_wp2_with (go_at_call 13; refine (J.out _).mono ?_; rintro e w1 ⟨rfl, hb⟩; have HB := Lib.hid hb; clear hb)
      go_ret
      exact ⟨retB (by simp [h1]), HB.out⟩
  · rw [chk2_no h, cmpV_no h] at K
    have J := Lib.hid K
    have H : Hid ((decide (a.size ≤ 32 ∧ b.size ≤ 32) && Kl.lt (Kl.L a) (Kl.L b)) = false) := Lib.hid (by rw [decide_eq_false h, Bool.false_and])
    clear K h
    rw [H.out]
    go_enter Try.func39, Try.ntmps39
    go_wp2_with (go_at_call 13; refine (J.out _).mono ?_; rintro e w1 ⟨rfl, hb⟩; have HB := Lib.hid hb; clear hb)
    go_ret
    exact ⟨rfl, HB.out⟩
end Go.Proofs.Ytgljgjkoaaibnaa.KK
