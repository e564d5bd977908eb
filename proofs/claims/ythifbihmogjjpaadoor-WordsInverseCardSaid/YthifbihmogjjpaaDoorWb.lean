/-
  Contracts of the functions that only scan a string.
-/
import Derived.Test.YthifbihmogjjpaaDoorWa
namespace Go.Proofs.YthifbihmogjjpaaDoor
open Go.ChangeShapes Go.WideShapes Go.ChangeAt Go.RowKit Go.Proofs

theorem retB {a b : Bool} (h : a = b) : Ending.returned (.bool a) = Ending.returned (.bool b) := by rw [h]
theorem retBW {a b : Bool} {w : World} (h : b = a) : Ending.returned (.bool a) = Ending.returned (.bool b) ∧ w = w := ⟨by rw [h], rfl⟩

theorem isNatural_any (s : ByteArray) (w : World) (hs : s.size ≤ 9223372036854775807) :
    Calls Tryd.prog 60 #[.string s] w fun e w' => e = .returned (.bool (Pl.nat (Pl.L s))) ∧ w = w' := by
  by_cases h0 : s.size = 0
  · have h1 := Pl.empty_facts s h0
    have H := Lib.hid (Pl.nat_nil s h0)
    clear h0
    go_enter Tryd.func60, Tryd.ntmps60
    go_wp2_with fail
    go_ret
    exact retBW H.out
  have hp : 0 < s.size := by omega
  obtain ⟨h1, h2⟩ := Pl.full_facts s hp
  by_cases hz : (s[0].toNat : Int) = 48 ∧ 1 < s.size
  · obtain ⟨hz, hl⟩ := hz
    have H := Lib.hid (Pl.nat_zero s hl hz)
    have hz' : ((s[0].toNat : Int) == 48) = true := by simpa using hz
    clear h0
    go_enter Tryd.func60, Tryd.ntmps60
    go_wp2_with fail
    go_ret
    exact retBW H.out
  have H := Lib.hid (Pl.nat_of s hp (by omega))
  have hz2 : ((s[0].toNat : Int) == 48 && decide (1 < (s.size : Int))) = false := by
    rw [Bool.eq_false_iff]; intro h; simp at h; exact hz ⟨by omega, by omega⟩
  have HZ := Lib.hid hz
  clear hz hz2
  by_cases hz' : (s[0].toNat : Int) = 48
  all_goals (try (have hl : s.size ≤ 1 := by have := HZ.out; omega))
  all_goals
    clear HZ
    go_enter Tryd.func60, Tryd.ntmps60
    go_wp2_with fail
    go_loop [18] (fun i => ∃ k : Nat, k ≤ s.size ∧ i = .int .i64 k ∧ ((Pl.L s).take k).all Pl.dig = true) (fun i => s.size - (intOf i).toNat)
    case atStart => exact ⟨0, Nat.zero_le _, rfl, rfl⟩
    case round =>
      obtain ⟨k, hk, rfl, ha⟩ := hrel
      have Ha := Lib.hid ha
      clear ha
      by_cases hlt : k < s.size
      · by_cases hd : Pl.dig s[k] = true
        · go_wp2_with (go_at_call 43; refine (isDigit_any _ _).mono ?_; rintro e w' ⟨rfl, rfl⟩)
          go_round
          case rel => exact ⟨k + 1, by omega, by go_num, Pl.all_succ _ s k hlt Ha.out hd⟩
          case measure => simp [intOf]; omega
        · have hd' : Pl.dig s[k] = false := by simpa using hd
          clear hd
          go_wp2_with (go_at_call 43; refine (isDigit_any _ _).mono ?_; rintro e w' ⟨rfl, rfl⟩)
          go_ret
          exact retBW (by rw [H.out, Pl.all_not _ s k hlt hd'])
      · go_wp2_with fail
        go_ret
        exact retBW (by rw [H.out, Pl.all_whole _ s k (by omega) Ha.out])

theorem isDecimal_any (s : ByteArray) (w : World) (hs : s.size ≤ 9223372036854775807) :
    Calls Tryd.prog 39 #[.string s] w fun e w' => e = .returned (.bool (Pl.dec (Pl.L s))) ∧ w = w' := by
  by_cases h0 : s.size = 0
  · have h1 := Pl.empty_facts s h0
    have H := Lib.hid (Pl.dec_plain s (.inl h0))
    clear h0
    go_enter Tryd.func39, Tryd.ntmps39
    go_wp2_with (go_at_call 60; refine (isNatural_any _ _ hs).mono ?_; rintro e w' ⟨rfl, rfl⟩)
    go_ret
    exact retBW H.out
  have hp : 0 < s.size := by omega
  obtain ⟨h1, h2⟩ := Pl.full_facts s hp
  by_cases hm : (s[0].toNat : Int) = 45
  · by_cases he : s.toList = [45, 48]
    · have H := Lib.hid (Pl.dec_minus0 s he)
      clear h1 h2
      go_enter Tryd.func39, Tryd.ntmps39
      go_wp2_with fail
      go_ret
      exact retBW H.out
    · have H := Lib.hid (Pl.dec_minus s hp hm he)
      have he' : (s.toList != [45, 48]) = true := by simpa using he
      go_enter Tryd.func39, Tryd.ntmps39
      go_wp2_with (go_at_call 60; refine (isNatural_any _ _ (by simp; omega)).mono ?_; rintro e w' ⟨rfl, rfl⟩)
      all_goals
        go_ret
        exact retBW (by rw [H.out]; simp [he])
  · have H := Lib.hid (Pl.dec_plain s (.inr ⟨hp, hm⟩))
    go_enter Tryd.func39, Tryd.ntmps39
    go_wp2_with (go_at_call 60; refine (isNatural_any _ _ hs).mono ?_; rintro e w' ⟨rfl, rfl⟩)
    go_ret
    exact retBW H.out

theorem Name_any (s : ByteArray) (w : World) (hs : s.size ≤ 9223372036854775807) :
    Calls Tryd.prog 22 #[.string s] w fun e w' => e = .returned (.bool (Pl.name (Pl.L s))) ∧ w = w' := by
  by_cases h0 : s.size = 0
  · have h1 := Pl.empty_facts s h0
    have H := Lib.hid (Pl.name_nil s h0)
    clear h0
    go_enter Tryd.func22, Tryd.ntmps22
    go_wp2_with fail
    go_ret
    exact retBW H.out
  have hp : 0 < s.size := by omega
  obtain ⟨h1, h2⟩ := Pl.full_facts s hp
  by_cases hl : 16 < s.size
  · have H := Lib.hid (Pl.name_long s hl)
    go_enter Tryd.func22, Tryd.ntmps22
    go_wp2_with fail
    go_ret
    exact retBW H.out
  by_cases hlow : Pl.low s[0] = true
  · have H := Lib.hid (Pl.name_of s hp (by omega) hlow)
    have H1 := Lib.hid (Pl.name_one s hp hlow)
    go_enter Tryd.func22, Tryd.ntmps22
    go_wp2_with (go_at_call 42; refine (isLetter_any _ _).mono ?_; rintro e w' ⟨rfl, rfl⟩)
    go_loop [3] (fun i => ∃ k : Nat, 1 ≤ k ∧ k ≤ s.size ∧ i = .int .i64 k ∧ ((Pl.L s).take k).all Pl.nameC = true) (fun i => s.size - (intOf i).toNat)
    case atStart => exact ⟨1, Nat.le_refl _, hp, rfl, H1.out⟩
    case round =>
      obtain ⟨k, hk1, hk, rfl, ha⟩ := hrel
      have Ha := Lib.hid ha
      clear ha
      by_cases hlt : k < s.size
      · by_cases q1 : Pl.low s[k] = true
        · have HN : Hid (Pl.nameC s[k] = true) := Lib.hid (by simp [Pl.nameC, q1])
          go_wp2_with (first | (go_at_call 42; refine (isLetter_any _ _).mono ?_; rintro e w' ⟨rfl, rfl⟩) | (go_at_call 43; refine (isDigit_any _ _).mono ?_; rintro e w' ⟨rfl, rfl⟩))
          go_round
          case rel => exact ⟨k + 1, by omega, by omega, by go_num, Pl.all_succ _ s k hlt Ha.out HN.out⟩
          case measure => simp [intOf]; omega
        · have q1' : Pl.low s[k] = false := by simpa using q1
          clear q1
          by_cases q2 : Pl.dig s[k] = true
          · have HN : Hid (Pl.nameC s[k] = true) := Lib.hid (by simp [Pl.nameC, q2])
            go_wp2_with (first | (go_at_call 42; refine (isLetter_any _ _).mono ?_; rintro e w' ⟨rfl, rfl⟩) | (go_at_call 43; refine (isDigit_any _ _).mono ?_; rintro e w' ⟨rfl, rfl⟩))
            go_round
            case rel => exact ⟨k + 1, by omega, by omega, by go_num, Pl.all_succ _ s k hlt Ha.out HN.out⟩
            case measure => simp [intOf]; omega
          · have q2' : Pl.dig s[k] = false := by simpa using q2
            clear q2
            by_cases q3 : (s[k].toNat : Int) = 45
            · have HN : Hid (Pl.nameC s[k] = true) := Lib.hid (by unfold Pl.nameC; rw [beq_iff_eq.2 q3, Bool.or_true])
              have q3a : ((s[k].toNat : Int) == 45) = true := beq_iff_eq.2 q3
              have q3b : ((s[k].toNat : Int) != 45) = false := by simp [q3]
              clear q3
              go_wp2_with (first | (go_at_call 42; refine (isLetter_any _ _).mono ?_; rintro e w' ⟨rfl, rfl⟩) | (go_at_call 43; refine (isDigit_any _ _).mono ?_; rintro e w' ⟨rfl, rfl⟩))
              go_round
              case rel => exact ⟨k + 1, by omega, by omega, by go_num, Pl.all_succ _ s k hlt Ha.out HN.out⟩
              case measure => simp [intOf]; omega
            · have HN : Hid (Pl.nameC s[k] = false) := Lib.hid (by unfold Pl.nameC; rw [q1', q2', beq_eq_false_iff_ne.2 q3]; rfl)
              go_wp2_with (first | (go_at_call 42; refine (isLetter_any _ _).mono ?_; rintro e w' ⟨rfl, rfl⟩) | (go_at_call 43; refine (isDigit_any _ _).mono ?_; rintro e w' ⟨rfl, rfl⟩))
              go_ret
              exact retBW (by rw [H.out, Pl.all_not _ s k hlt HN.out])
      · go_wp2_with fail
        go_ret
        exact retBW (by rw [H.out, Pl.all_whole _ s k (by omega) Ha.out])
  · have hlow' : Pl.low s[0] = false := by simpa using hlow
    have H := Lib.hid (Pl.name_head s hp hlow')
    clear hlow
    go_enter Tryd.func22, Tryd.ntmps22
    go_wp2_with (go_at_call 42; refine (isLetter_any _ _).mono ?_; rintro e w' ⟨rfl, rfl⟩)
    go_ret
    exact retBW H.out
end Go.Proofs.YthifbihmogjjpaaDoor
