/-
  Contracts of isBare, bare and written.
-/
import Derived.Test.YthifbihmogjjpaaDoorPp
import Derived.Test.YthifbihmogjjpaaDoorXa
namespace Go.Proofs.YthifbihmogjjpaaDoor
open Go.ChangeShapes Go.WideShapes Go.ChangeAt Go.RowKit Go.Proofs

theorem Pl.bareS_nil (s : ByteArray) (h : s.size = 0) : Pl.bareS (Pl.L s) = false := by
  have : (Pl.L s) = [] := List.eq_nil_of_length_eq_zero (by rw [Pl.L_length]; exact h)
  rw [this]; rfl
theorem Pl.bareS_pos (s : ByteArray) (h : 0 < s.size) : Pl.bareS (Pl.L s) = (Pl.L s).all Pl.bareC := by
  unfold Pl.bareS
  have : (Pl.L s).isEmpty = false := by
    cases hl : Pl.L s with
    | nil => have := Pl.L_length s; rw [hl] at this; simp at this; omega
    | cons c r => rfl
  rw [this]; rfl

theorem isBare_any (s : ByteArray) (w : World) (hs : s.size ≤ 4294967295) :
    Calls Tryd.prog 29 #[.string s] w fun e w' => e = .returned (.bool (Pl.bareS (Pl.L s))) ∧ w = w' := by
  by_cases h0 : s.size = 0
  · have H := Lib.hid (Pl.bareS_nil s h0)
    obtain rfl : s = ⟨#[]⟩ := by
      apply ByteArray.ext
      apply Array.eq_empty_of_size_eq_zero
      exact h0
    clear h0
    go_enter Tryd.func29, Tryd.ntmps29
    go_wp2_with fail
    go_loop [6] (fun i => i = .int .i64 0) (fun i => 0)
    case atStart => rfl
    case round =>
      subst hrel
      go_wp2_with fail
      go_ret
      exact retBW H.out
  have hp : 0 < s.size := by omega
  have hne : (s.toList == ([] : List UInt8)) = false := by
    rw [beq_eq_false_iff_ne]; intro h
    have : (Pl.L s).length = 0 := by
      have e : Pl.L s = s.toList := by rw [ByteArray.toList_eq]; rfl
      rw [e, h]; rfl
    rw [Pl.L_length] at this; omega
  have hne2 : (s.toList != ([] : List UInt8)) = true := by unfold bne; rw [hne]; rfl
  have H := Lib.hid (Pl.bareS_pos s hp)
  clear h0
  go_enter Tryd.func29, Tryd.ntmps29
  go_wp2_with fail
  go_loop [3, 6] (fun _ i => ∃ k : Nat, k ≤ s.size ∧ i = .int .i64 k ∧ ((Pl.L s).take k).all Pl.bareC = true) (fun _ i => s.size - (intOf i).toNat)
  case atStart => exact ⟨0, Nat.zero_le _, rfl, rfl⟩
  case round =>
    obtain ⟨k, hk, rfl, ha⟩ := hrel
    have Ha := Lib.hid ha
    clear ha
    by_cases hlt : k < s.size
    · by_cases hd : Pl.bareC s[k] = true
      · have HD := Lib.hid hd
        clear hd
        go_wp2_with (go_at_call 50; refine (isBareByte_any _ _).mono ?_; rw [HD.out]; rintro e w' ⟨rfl, rfl⟩)
        go_round
        case rel => exact ⟨k + 1, by omega, by go_num, Pl.all_succ _ s k hlt Ha.out HD.out⟩
        case measure => simp [intOf]; omega
      · have HD := Lib.hid (show Pl.bareC s[k] = false by simpa using hd)
        clear hd
        go_wp2_with (go_at_call 50; refine (isBareByte_any _ _).mono ?_; rw [HD.out]; rintro e w' ⟨rfl, rfl⟩)
        go_ret
        exact retBW (by rw [H.out, Pl.all_not _ s k hlt HD.out])
    · go_wp2_with fail
      go_ret
      exact retBW (by rw [H.out, Pl.all_whole _ s k (by omega) Ha.out])

theorem bareC_plain (c : UInt8) (h : Pl.plain c = false) : Pl.bareC c = false := by unfold Pl.bareC; rw [h]; rfl
theorem bareC_sp (c : UInt8) (h : ((c.toNat : Int) == 32) = true) : Pl.bareC c = false := by unfold Pl.bareC bne; rw [h]; simp
theorem bareC_yes (c : UInt8) (h : Pl.plain c = true) (h2 : ((c.toNat : Int) == 32) = false) : Pl.bareC c = true := by unfold Pl.bareC bne; rw [h, h2]; rfl

theorem rbare_any (s : ByteArray) (w : World) (hs : s.size ≤ 4294967295) :
    Calls Tryd.prog 26 #[.string s] w fun e w' => e = .returned (.bool (Pl.bareS (Pl.L s))) ∧ w = w' := by
  by_cases h0 : s.size = 0
  · have H := Lib.hid (Pl.bareS_nil s h0)
    go_enter Tryd.func26, Tryd.ntmps26
    go_wp2_with fail
    go_loop [3] (fun i => i = .int .i64 0) (fun i => 0)
    case atStart => rfl
    case round =>
      subst hrel
      have d1 : ¬ 0 < s.size := by omega
      go_wp2_with fail
      go_ret
      exact retBW H.out
  have hp : 0 < s.size := by omega
  have H := Lib.hid (Pl.bareS_pos s hp)
  clear h0
  go_enter Tryd.func26, Tryd.ntmps26
  go_wp2_with fail
  go_loop [3] (fun i => ∃ k : Nat, k ≤ s.size ∧ i = .int .i64 k ∧ ((Pl.L s).take k).all Pl.bareC = true) (fun i => s.size - (intOf i).toNat)
  case atStart => exact ⟨0, Nat.zero_le _, rfl, rfl⟩
  case round =>
    obtain ⟨k, hk, rfl, ha⟩ := hrel
    have Ha := Lib.hid ha
    clear ha
    by_cases hlt : k < s.size
    · cases hpl : Pl.plain s[k] with
      | false =>
        have HD := Lib.hid (bareC_plain _ hpl)
        have HP := Lib.hid hpl
        clear hpl
        go_wp2_with (go_at_call 47; refine (plain_any _ _).mono ?_; rw [HP.out]; rintro e w' ⟨rfl, rfl⟩)
        go_ret
        exact retBW (by rw [H.out, Pl.all_not _ s k hlt HD.out])
      | true =>
        have HP := Lib.hid hpl
        cases h32 : ((s[k].toNat : Int) == 32) with
        | true =>
          have HD := Lib.hid (bareC_sp _ h32)
          clear hpl
          go_wp2_with (go_at_call 47; refine (plain_any _ _).mono ?_; rw [HP.out]; rintro e w' ⟨rfl, rfl⟩)
          go_ret
          exact retBW (by rw [H.out, Pl.all_not _ s k hlt HD.out])
        | false =>
          have HD := Lib.hid (bareC_yes _ hpl h32)
          clear hpl
          go_wp2_with (go_at_call 47; refine (plain_any _ _).mono ?_; rw [HP.out]; rintro e w' ⟨rfl, rfl⟩)
          go_round
          case rel => exact ⟨k + 1, by omega, by go_num, Pl.all_succ _ s k hlt Ha.out HD.out⟩
          case measure => simp [intOf]; omega
    · go_wp2_with fail
      go_ret
      exact retBW (by rw [H.out, Pl.all_whole _ s k (by omega) Ha.out])

theorem EscAt.alloc {w : World} (h : EscAt w) (o : Obj) : EscAt (w.alloc o) := h.below ((Below.refl w.heap.size w).alloc (Nat.le_refl _) _) h.lt

theorem written_any (f : List UInt8 × Bool) (w : World) (he : EscAt w) (hl : f.1.length ≤ 4294967295) :
    Calls Tryd.prog 30 #[.agg #[.string ⟨f.1.toArray⟩, .bool f.2]] w fun e w' => e = .returned (.string ⟨(Pl.wrt f).toArray⟩) ∧ Below w.heap.size w w' := by
  obtain ⟨t, q⟩ := f
  cases q with
  | true =>
    have hq := fun w he => Quote_any ⟨t.toArray⟩ w he (by have : (⟨t.toArray⟩ : ByteArray).size = t.length := by (show t.toArray.size = _; simp)
                                                          rw [this]; exact hl)
    have HQ := Lib.hid hq
    have HE := Lib.hid he
    clear hq he
    go_enter Tryd.func30, Tryd.ntmps30
    go_wp2_with (go_at_call 16; refine (HQ.out _ (HE.out.alloc _)).mono ?_; rintro e w1 ⟨rfl, hb1⟩; have HB1 := Lib.hid hb1; clear hb1)
    go_ret
    exact ⟨rfl, ((Below.refl w.heap.size w).alloc (Nat.le_refl _) _).trans (HB1.out.mono (by simp))⟩
  | false =>
    go_enter Tryd.func30, Tryd.ntmps30
    go_wp2_with fail
    go_ret
    exact ⟨rfl, (Below.refl w.heap.size w).alloc (Nat.le_refl _) _⟩
end Go.Proofs.YthifbihmogjjpaaDoor
