/-
  keys.Next.
-/
import Derived.Test.YtjnbdeahmbkbnaaRs
namespace Go.Proofs.Ytjnbdeahmbkbnaa.KK
open Go.ChangeShapes Go.WideShapes Go.ChangeAt Go.RowKit Go.Proofs

set_option maxRecDepth 100000 in
set_option maxHeartbeats 1000000 in
theorem past_any (s : ByteArray) (w : World) (hs : s.size ≤ 9223372036854775807) :
    Calls Try.prog 69 #[.string s] w fun e w' => e = .returned (pastV (Kl.rai (Kl.L s))) ∧ Below w.heap.size w w' := by
  go_enter Try.func69, Try.ntmps69
  go_wp2_with fail
  go_loop [4] (fun i => ∃ k : Nat, k ≤ s.size ∧ i = .int .i64 k ∧ Kl.stem (Kl.L s) = Kl.stem ((Kl.L s).take k)) (fun i => (intOf i).toNat)
  case atStart => exact ⟨s.size, Nat.le_refl _, rfl, by rw [List.take_of_length_le (by rw [Kl.L_length]; omega)]⟩
  case round =>
    obtain ⟨k, hk, rfl, ha⟩ := hrel
    have HA := Lib.hid ha
    clear ha
    match k, hk, HA with
    | 0, hk, HA =>
      have H := Lib.hid (rai_end s HA.out)
      go_wp2_with fail
      go_ret2
      exact ⟨by rw [H.out]; rfl, Below.refl _ _⟩
    | j + 1, hk, HA =>
      have hj : j < s.size := by omega
      have hjj : ((j + 1 : Nat) : Int) - 1 = (j : Int) := by omega
      have hjp : (0 : Int) < ((j + 1 : Nat) : Int) := by omega
      by_cases hc : s[j] = 255
      · have q : ((s[j].toNat : Int) == 255) = true := beqT hc
        have HC := Lib.hid hc
        have HS := Lib.hid (stem_end s j hj hc)
        clear hc
        go_wp2_with fail
        go_round
        case rel => exact ⟨j, by omega, by go_num, by rw [HA.out, HS.out]⟩
        case measure => simp [intOf]
      · have q : ((s[j].toNat : Int) == 255) = false := beqF hc
        have H := Lib.hid (rai_stop s j hj hc HA.out)
        have hlt : s[j].toNat < 255 := by
          have := s[j].toNat_lt
          rcases Nat.lt_or_ge s[j].toNat 255 with h | h
          · exact h
          · exact absurd (UInt8.toNat_inj.1 (show s[j].toNat = (255 : UInt8).toNat by show _ = 255; omega)) hc
        clear hc
        have HX := Lib.hid (ext_take s (j + 1))
        have K := fun w => raised_any (s.extract 0 (j + 1)) j w (by simp; omega) (by simp; omega) (by simp; omega) (by rw [ext_at s (j + 1) j (by omega) hj]; exact hlt)
        have e1 : (Kl.L (s.extract 0 (j + 1))).take j = (Kl.L s).take j := by rw [HX.out]; show ((Kl.L s).take (j + 1)).take j = _; rw [List.take_take]; congr 1; omega
        have e2 : ((s.extract 0 (j + 1))[j]'(by simp; omega)) = s[j] := ext_at s (j + 1) j (by omega) hj
        rw [e1, e2] at K
        have HK := Lib.hid K
        clear K e1 e2
        go_wp2_with (go_at_call 71; refine (HK.out _).mono ?_; rintro e w1 ⟨rfl, hb1⟩; have HB := Lib.hid hb1; clear hb1)
        go_ret2
        exact ⟨by rw [H.out]; rfl, HB.out⟩
set_option maxHeartbeats 1000000 in
theorem kNext_any (s : ByteArray) (w : World) (hs : s.size ≤ 9223372036854775807) :
    Calls Try.prog 59 #[.string s] w fun e w' => e = .returned (strE (nextE (Kl.L s))) ∧ Below w.heap.size w w' := by
  have K1 := fun w => kCheck_any s w hs
  have K2 := fun w => past_any s w hs
  by_cases h : s.size ≤ 32
  · rw [chk1_ok h] at K1
    have J1 := Lib.hid K1
    clear K1
    by_cases h2 : s.size < 32
    · have hn : nextE (Kl.L s) = (0, Kl.L s ++ [0]) := by unfold nextE; rw [Kl.L_length, if_neg (by omega), if_pos h2]
      have H := Lib.hid hn
      have HZ := Lib.hid (next_zero s)
      clear K2 hn
      go_enter Try.func59, Try.ntmps59
      go_wp2_with fail
      refine (J1.out _).mono ?_
      rintro e w' ⟨rfl, rfl⟩
      go_wp2_with fail
      go_ret2
      exact ⟨by rw [H.out]; unfold strE; dsimp only; rw [← HZ.out]; rfl, Below.refl _ _⟩
    · have h3 : decide ((s.size : Int) < 32) = false := by simp; omega
      have hn : nextE (Kl.L s) = match Kl.rai (Kl.L s) with | none => (9, []) | some p => (0, p) := by unfold nextE; rw [Kl.L_length, if_neg (by omega), if_neg h2]; try rfl
      cases hr : Kl.rai (Kl.L s) with
      | none =>
        rw [hr] at K2 hn
        have H := Lib.hid hn
        have J2 := Lib.hid K2
        clear K2 hn hr h2
        go_enter Try.func59, Try.ntmps59
        go_wp2_with fail
        refine (J1.out _).mono ?_
        rintro e w' ⟨rfl, rfl⟩
        go_wp2_with fail
        refine (J2.out _).mono ?_
        rintro e w1 ⟨rfl, hb1⟩
        have HB := Lib.hid hb1
        clear hb1
        unfold pastV
        go_wp2_with fail
        go_ret2
        exact ⟨by rw [H.out]; rfl, HB.out⟩
      | some p =>
        rw [hr] at K2 hn
        have H := Lib.hid hn
        have J2 := Lib.hid K2
        clear K2 hn hr h2
        go_enter Try.func59, Try.ntmps59
        go_wp2_with fail
        refine (J1.out _).mono ?_
        rintro e w' ⟨rfl, rfl⟩
        go_wp2_with fail
        refine (J2.out _).mono ?_
        rintro e w1 ⟨rfl, hb1⟩
        have HB := Lib.hid hb1
        clear hb1
        unfold pastV
        go_wp2_with fail
        go_ret2
        exact ⟨by rw [H.out]; rfl, HB.out⟩
  · rw [chk1_no h] at K1
    have J1 := Lib.hid K1
    have hn : nextE (Kl.L s) = (3, []) := by unfold nextE; rw [Kl.L_length, if_pos (by omega)]
    have H := Lib.hid hn
    clear K1 K2 hn h
    go_enter Try.func59, Try.ntmps59
    go_wp2_with fail
    refine (J1.out _).mono ?_
    rintro e w' ⟨rfl, rfl⟩
    go_wp2_with fail
    go_ret2
    exact ⟨by rw [H.out]; rfl, Below.refl _ _⟩
end Go.Proofs.Ytjnbdeahmbkbnaa.KK
