/-
  Contracts of the reference's Name and decimal.
-/
import Derived.Test.YthifbihmogjjpaaGreatDoorWb
import Derived.Test.YthifbihmogjjpaaGreatDoorQa
namespace Go.Proofs.YthifbihmogjjpaaGreatDoor
open Go.ChangeShapes Go.WideShapes Go.ChangeAt Go.RowKit Go.Proofs

set_option maxHeartbeats 1000000 in
theorem decimal_cut (s : ByteArray) (w : World) (hs : s.size ≤ 4294967295) (h : 1 < s.size) (h0 : s[0] = 45) (h1 : ¬ s[1] = 48) :
    Calls Tryz.prog 23 #[.string s] w fun e w' => e = .returned (.bool (Pl.dec (Pl.L s))) ∧ w = w' := by
  have H := Lib.hid (Pl.dec_cut s h h0 h1)
  have hp : 0 < s.size := by omega
  have q1 : ((s[0].toNat : Int) == 45) = true := Pl.num_eq _ 45 h0
  have q2 : ((s[1].toNat : Int) == 48) = false := Pl.num_ne _ 48 h1
  have q3 : ((s[1].toNat : Int) != 48) = true := Pl.num_bne _ 48 h1
  have q0 : 0 < (s.extract 1 s.size).size := by simp; omega
  have hx : ∀ (k : Nat) (h2 : k < (s.extract 1 s.size).size) (h3 : 1 + k < s.size), (s.extract 1 s.size)[k]'h2 = s[1 + k]'h3 := fun k h2 h3 => Pl.extract_at s 1 k h2 h3
  have e0 := hx 0 q0 (by omega)
  have q4 : ((((s.extract 1 s.size)[0]'q0).toNat : Int) == 48) = false := by rw [e0]; exact Pl.num_ne _ 48 h1
  have q5 : (((s.size - 1 : Nat) : Int) == 0) = false := by simp; omega
  have q6 : 0 < s.size - 1 := by omega
  have HX := Lib.hid hx
  have HZ := Lib.hid (show (s.extract 1 s.size).size = s.size - 1 by simp)
  clear h0 h1 e0 hx
  by_cases hone : 1 < s.size - 1
  all_goals
    go_enter Tryz.func23, Tryz.ntmps23
    go_wp2_with fail
    go_loop [3] (fun i => ∃ k : Nat, k ≤ s.size - 1 ∧ i = .int .i64 k ∧ (((Pl.L s).drop 1).take k).all Pl.dig = true) (fun i => s.size - (intOf i).toNat)
    case atStart => exact ⟨0, Nat.zero_le _, rfl, rfl⟩
    case round =>
      obtain ⟨k, hk, rfl, ha⟩ := hrel
      have Ha := Lib.hid ha
      clear ha
      by_cases hlt : k < s.size - 1
      · have hk1 : 1 + k < s.size := by omega
        have HE := Lib.hid (HX.out k (by have := HZ.out; omega) hk1)
        by_cases hd : Pl.dig s[1 + k] = true
        · have hd' : Pl.dig ((s.extract 1 s.size)[k]'(by simp; omega)) = true := by rw [HE.out]; exact hd
          have HD := Lib.hid hd
          clear hd
          go_wp2_with (go_at_call 42; refine (digit_any _ _).mono ?_; rintro e w' ⟨rfl, rfl⟩)
          go_round
          case rel => exact ⟨k + 1, by omega, by go_num, Pl.all_drop_succ _ s 1 k hk1 Ha.out HD.out⟩
          case measure => simp [intOf]; omega
        · have hd2 : Pl.dig s[1 + k] = false := by simpa using hd
          have hd' : Pl.dig ((s.extract 1 s.size)[k]'(by simp; omega)) = false := by rw [HE.out]; exact hd2
          have HD := Lib.hid hd2
          clear hd hd2
          go_wp2_with (go_at_call 42; refine (digit_any _ _).mono ?_; rintro e w' ⟨rfl, rfl⟩)
          go_ret
          exact retBW (by rw [H.out, Pl.all_drop_not _ s 1 k hk1 HD.out])
      · go_wp2_with fail
        go_ret
        exact retBW (by rw [H.out, Pl.all_drop_whole _ s 1 k (by omega) Ha.out])

theorem decimal_any (s : ByteArray) (w : World) (hs : s.size ≤ 4294967295) :
    Calls Tryz.prog 23 #[.string s] w fun e w' => e = .returned (.bool (Pl.dec (Pl.L s))) ∧ w = w' := by
  by_cases h0 : s.size = 0
  · have H := Lib.hid (show Pl.dec (Pl.L s) = false by rw [Pl.dec_plain s (.inl h0), Pl.nat_nil s h0])
    have q : ((s.size : Int) == 0) = true := by simp [h0]
    have q2 : ¬ 1 < s.size := by omega
    have d1 : decide ((1 : Int) < (s.size : Int)) = false := by simp; omega
    clear h0
    go_enter Tryz.func23, Tryz.ntmps23
    go_wp2_with fail
    go_ret
    exact retBW H.out
  have hp : 0 < s.size := by omega
  have qz : ((s.size : Int) == 0) = false := by rw [beq_eq_false_iff_ne]; omega
  by_cases hm : s[0] = 45
  · by_cases hc : ∃ h : 1 < s.size, ¬ s[1] = 48
    · obtain ⟨h1, h2⟩ := hc
      exact decimal_cut s w hs h1 hm h2
    · have hc' : s.size ≤ 1 ∨ ∃ h : 1 < s.size, s[1] = 48 := by
        by_cases h : 1 < s.size
        · exact .inr ⟨h, Classical.byContradiction fun h2 => hc ⟨h, h2⟩⟩
        · exact .inl (by omega)
      have H := Lib.hid (Pl.dec_sign s hp hm hc')
      have q1 : ((s[0].toNat : Int) == 45) = true := Pl.num_eq _ 45 hm
      have q2 : ((s[0].toNat : Int) == 48) = false := Pl.num_ne _ 48 (by rw [hm]; decide)
      have hd : Pl.dig s[0] = false := by rw [hm]; decide
      have HC := Lib.hid hc'
      clear hm hc hc' h0
      by_cases h : 1 < s.size
      · have hh : (s[1].toNat : Int) = 48 := HC.out.elim (fun h2 => absurd h2 (by omega)) fun h2 => by rw [h2.2]; rfl
        have q3 : ((s[1].toNat : Int) == 48) = true := by simp [hh]
        have q4 : ((s[1].toNat : Int) != 48) = false := by simp [hh]
        clear hh HC
        go_enter Tryz.func23, Tryz.ntmps23
        go_wp2_with fail
        go_loop [3] (fun i => i = .int .i64 0) (fun i => 0)
        case atStart => rfl
        case round =>
          subst hrel
          go_wp2_with (go_at_call 42; refine (digit_any _ _).mono ?_; rintro e w' ⟨rfl, rfl⟩)
          go_ret
          exact retBW H.out
      · have d1 : decide ((1 : Int) < (s.size : Int)) = false := by simp; omega
        clear HC
        go_enter Tryz.func23, Tryz.ntmps23
        go_wp2_with fail
        go_loop [3] (fun i => i = .int .i64 0) (fun i => 0)
        case atStart => rfl
        case round =>
          subst hrel
          go_wp2_with (go_at_call 42; refine (digit_any _ _).mono ?_; rintro e w' ⟨rfl, rfl⟩)
          go_ret
          exact retBW H.out
  have q1 : ((s[0].toNat : Int) == 45) = false := Pl.num_ne _ 45 hm
  have HDP := Lib.hid (Pl.dec_plain s (.inr ⟨hp, by intro h; exact hm (Pl.byte_eq _ 45 (by omega) (by simpa using h))⟩))
  by_cases hz : (s[0].toNat : Int) = 48 ∧ 1 < s.size
  · obtain ⟨hz, hl⟩ := hz
    have H := Lib.hid (show Pl.dec (Pl.L s) = false by rw [HDP.out, Pl.nat_zero s hl hz])
    have hz' : ((s[0].toNat : Int) == 48) = true := by simpa using hz
    clear h0 hz hm
    go_enter Tryz.func23, Tryz.ntmps23
    go_wp2_with fail
    go_ret
    exact retBW H.out
  have H := Lib.hid (show Pl.dec (Pl.L s) = (Pl.L s).all Pl.dig by rw [HDP.out, Pl.nat_of s hp (by omega)])
  have HZ := Lib.hid hz
  clear hz hm
  by_cases hz' : (s[0].toNat : Int) = 48
  all_goals (try (have hl : s.size ≤ 1 := by have := HZ.out; omega))
  all_goals (try (have q5 : ((s[0].toNat : Int) == 48) = false := by simpa using hz'))
  all_goals (try (have q6 : ((s[0].toNat : Int) == 48) = true := by simpa using hz'))
  all_goals by_cases h1 : 1 < s.size
  all_goals (try (exfalso; omega))
  all_goals
    clear HZ hz'
    go_enter Tryz.func23, Tryz.ntmps23
    go_wp2_with fail
    go_loop [3] (fun i => ∃ k : Nat, k ≤ s.size ∧ i = .int .i64 k ∧ ((Pl.L s).take k).all Pl.dig = true) (fun i => s.size - (intOf i).toNat)
    case atStart => exact ⟨0, Nat.zero_le _, rfl, rfl⟩
    case round =>
      obtain ⟨k, hk, rfl, ha⟩ := hrel
      have Ha := Lib.hid ha
      clear ha
      by_cases hlt : k < s.size
      · by_cases hd : Pl.dig s[k] = true
        · go_wp2_with (go_at_call 42; refine (digit_any _ _).mono ?_; rintro e w' ⟨rfl, rfl⟩)
          go_round
          case rel => exact ⟨k + 1, by omega, by go_num, Pl.all_succ _ s k hlt Ha.out hd⟩
          case measure => simp [intOf]; omega
        · have hd' : Pl.dig s[k] = false := by simpa using hd
          clear hd
          go_wp2_with (go_at_call 42; refine (digit_any _ _).mono ?_; rintro e w' ⟨rfl, rfl⟩)
          go_ret
          exact retBW (by rw [H.out, Pl.all_not _ s k hlt hd'])
      · go_wp2_with fail
        go_ret
        exact retBW (by rw [H.out, Pl.all_whole _ s k (by omega) Ha.out])
end Go.Proofs.YthifbihmogjjpaaGreatDoor
