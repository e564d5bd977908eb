/-
  The reference's raised and Next.
-/
import Derived.Test.YtjnbdeahmbkbnaaRo
namespace Go.Proofs.Ytjnbdeahmbkbnaa.KK
open Go.ChangeShapes Go.WideShapes Go.ChangeAt Go.RowKit Go.Proofs

set_option maxRecDepth 100000 in
set_option maxHeartbeats 1000000 in
theorem rraised_any (s : ByteArray) (w : World) (hs : s.size ≤ 9223372036854775807) :
    Calls Try.prog 48 #[.string s] w fun e w' => e = .returned (pastV (Kl.rai (Kl.L s))) ∧ Below w.heap.size w w' := by
  go_enter Try.func48, Try.ntmps48
  go_wp2_with fail
  go_loop [4] (fun i => ∃ k : Nat, k ≤ s.size ∧ i = .int .i64 k ∧ Kl.stem (Kl.L s) = Kl.stem ((Kl.L s).take k)) (fun i => (intOf i).toNat)
  case atStart => exact ⟨s.size, Nat.le_refl _, rfl, by rw [List.take_of_length_le (by rw [Kl.L_length]; omega)]⟩
  case round =>
    obtain ⟨k, hk, rfl, ha⟩ := hrel
    have HA := Lib.hid ha
    clear ha
    match k, hk, HA with
    | 0, hk, HA =>
      have H := Lib.hid (rai_end s HA.out)
      go_wp2_with fail
      go_ret2
      exact ⟨by rw [H.out]; rfl, Below.refl _ _⟩
    | j + 1, hk, HA =>
      have hj : j < s.size := by omega
      have hjj : ((j + 1 : Nat) : Int) - 1 = (j : Int) := by omega
      have hjp : (0 : Int) < ((j + 1 : Nat) : Int) := by omega
      by_cases hc : s[j] = 255
      · have q : ((s[j].toNat : Int) == 255) = true := beqT hc
        have HC := Lib.hid hc
        have HS := Lib.hid (stem_end s j hj hc)
        clear hc
        go_wp2_with fail
        go_round
        case rel => exact ⟨j, by omega, by go_num, by rw [HA.out, HS.out]⟩
        case measure => simp [intOf]
      · have q : ((s[j].toNat : Int) == 255) = false := beqF hc
        have H := Lib.hid (rai_stop s j hj hc HA.out)
        have hlt : s[j].toNat < 255 := by
          have := s[j].toNat_lt
          rcases Nat.lt_or_ge s[j].toNat 255 with h | h
          · exact h
          · exact absurd (UInt8.toNat_inj.1 (show s[j].toNat = (255 : UInt8).toNat by show _ = 255; omega)) hc
        clear hc
        have HX := Lib.hid (ext_take s j)
        have hu : (UInt8.ofNat (s[j].toNat + 1)).toNat = s[j].toNat + 1 := Kl.ofNat_up hlt
        have lw : IntKind.u8.wrap ((s[j].toNat : Int) + 1) = (s[j].toNat : Int) + 1 := IntWalk.u8_in _ (by omega)
        have lj : IntKind.i64.wrap ((j : Int)) = (j : Int) := IntWalk.i64_in _ (by omega)
        have hcv := fun (w : World) (B : Nat) => conv_at w B ((s[j].toNat : Int) + 1) (UInt8.ofNat (s[j].toNat + 1)) (by rw [hu]; omega)
        have hl2 : ¬ 9223372036854775807 < j + 1 := by omega
        clear hu
        obtain ⟨u, hu⟩ : ∃ u, UInt8.ofNat (s[j].toNat + 1) = u := ⟨_, rfl⟩
        rw [hu] at hcv H
        clear hu
        go_wp2_with fail
        have z1 := hcv (w.alloc (.cells #[.int .u8 ((s[j].toNat : Int) + 1)] 5)) w.heap.size (cell_new w _ _)
        have z2 := hcv (w.drew.alloc (.cells #[.int .u8 ((s[j].toNat : Int) + 1)] 5)) w.heap.size (cell_new w _ _)
        have z3 := hcv (w.alloc (.cells #[.int .u8 ((s[j].toNat : Int) + 1)] 5)).drew w.heap.size (cell_new w _ _)
        go_region_with (fail)
        all_goals
          go_wp2_with fail
          go_ret2
          refine ⟨by rw [H.out]; unfold pastV; dsimp only; rw [← bytes_app, ← HX.out]; rfl, ?_⟩
          first
            | exact (Below.refl _ w).alloc (Nat.le_refl _) _
            | exact below_drewN ((Below.refl _ w).alloc (Nat.le_refl _) _) 1

set_option maxHeartbeats 1000000 in
theorem rNext_any (s : ByteArray) (w : World) (hs : s.size ≤ 9223372036854775807) :
    Calls Try.prog 33 #[.string s] w fun e w' => e = .returned (strE (nextE (Kl.L s))) ∧ Below w.heap.size w w' := by
  have K1 := fun w => rCheck_any s w hs
  have K2 := fun w => rraised_any s w hs
  by_cases h : s.size ≤ 32
  · rw [chk1_ok h] at K1
    have J1 := Lib.hid K1
    clear K1
    by_cases h2 : s.size < 32
    · have hn : nextE (Kl.L s) = (0, Kl.L s ++ [0]) := by unfold nextE; rw [Kl.L_length, if_neg (by omega), if_pos h2]
      have H := Lib.hid hn
      have HZ := Lib.hid (next_zero s)
      clear K2 hn
      go_enter Try.func33, Try.ntmps33
      go_wp2_with fail
      refine (J1.out _).mono ?_
      rintro e w' ⟨rfl, rfl⟩
      go_wp2_with fail
      go_ret2
      exact ⟨by rw [H.out]; unfold strE; dsimp only; rw [← HZ.out]; rfl, Below.refl _ _⟩
    · have h3 : decide ((s.size : Int) < 32) = false := by simp; omega
      have hn : nextE (Kl.L s) = match Kl.rai (Kl.L s) with | none => (9, []) | some p => (0, p) := by unfold nextE; rw [Kl.L_length, if_neg (by omega), if_neg h2]; try rfl
      cases hr : Kl.rai (Kl.L s)
      all_goals
        rw [hr] at K2 hn
        have H := Lib.hid hn
        have J2 := Lib.hid K2
        clear K2 hn hr h2
        go_enter Try.func33, Try.ntmps33
        go_wp2_with fail
        refine (J1.out _).mono ?_
        rintro e w' ⟨rfl, rfl⟩
        go_wp2_with fail
        refine (J2.out _).mono ?_
        rintro e w1 ⟨rfl, hb1⟩
        have HB := Lib.hid hb1
        clear hb1
        unfold pastV
        go_wp2_with fail
        go_ret2
        exact ⟨by rw [H.out]; rfl, HB.out⟩
  · rw [chk1_no h] at K1
    have J1 := Lib.hid K1
    have hn : nextE (Kl.L s) = (3, []) := by unfold nextE; rw [Kl.L_length, if_pos (by omega)]
    have H := Lib.hid hn
    clear K1 K2 hn h
    go_enter Try.func33, Try.ntmps33
    go_wp2_with fail
    refine (J1.out _).mono ?_
    rintro e w' ⟨rfl, rfl⟩
    go_wp2_with fail
    go_ret2
    exact ⟨by rw [H.out]; rfl, Below.refl _ _⟩

end Go.Proofs.Ytjnbdeahmbkbnaa.KK
