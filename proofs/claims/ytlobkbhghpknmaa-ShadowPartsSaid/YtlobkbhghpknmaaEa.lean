/-
  Contracts of entries: Check, on both sides.
-/
import Derived.Test.YtlobkbhghpknmaaKa
import Derived.Test.YtlobkbhghpknmaaEp
namespace Go.Proofs.Ytlobkbhghpknmaa.KK
open Go.ChangeShapes Go.WideShapes Go.ChangeAt Go.RowKit Go.Proofs

theorem str_empty (s : ByteArray) (h : s.size = 0) : s.toList = [] := by
  rw [Lib.toList_data]; exact List.eq_nil_of_length_eq_zero (by rw [← Lib.size_eq]; exact h)
theorem str_full (s : ByteArray) (h : s.size ≠ 0) : s.toList ≠ [] ∧ s.toList.isEmpty = false := by
  have : s.toList ≠ [] := by
    rw [Lib.toList_data]; intro e
    have := Lib.size_eq s; rw [e, List.length_nil] at this; omega
  exact ⟨this, by simpa using this⟩

set_option maxHeartbeats 1000000 in
theorem eCheck_any (k v : ByteArray) (d : Bool) (q : Int) (w : World) (hk : k.size ≤ 9223372036854775807) (hv : v.size ≤ 9223372036854775807) :
    Calls Try.prog 36 #[.agg #[.string k, .string v, .bool d, .int .i64 q]] w fun e w' => e = .returned (.int .i64 (El.chk (k, v, d, q))) ∧ Below w.heap.size w w' := by
  by_cases h1 : 32 < k.size
  · have H := Lib.hid (El.chk_key (v := v) (d := d) (q := q) h1)
    have J := Lib.hid (fun w => by have K := kCheck_any k w hk; rw [chk1_no (by omega)] at K; exact K)
    clear h1
    go_enter Try.func36, Try.ntmps36
    go_wp2_with (go_at_call 28; refine (J.out _).mono ?_; rintro e w' ⟨rfl, rfl⟩)
    go_ret
    exact ⟨by rw [H.out]; rfl, (Below.refl _ _).alloc (Nat.le_refl _) _⟩
  · by_cases h2 : 64 < v.size
    · have H := Lib.hid (El.chk_val (d := d) (q := q) h1 h2)
      have J := Lib.hid (fun w => by have K := kCheck_any k w hk; rw [chk1_ok (by omega)] at K; exact K)
      clear h1
      go_enter Try.func36, Try.ntmps36
      go_wp2_with (go_at_call 28; refine (J.out _).mono ?_; rintro e w' ⟨rfl, rfl⟩)
      go_ret
      exact ⟨by rw [H.out]; rfl, (Below.refl _ _).alloc (Nat.le_refl _) _⟩
    · by_cases h3 : d = true ∧ v.size ≠ 0
      · have H := Lib.hid (El.chk_dead (q := q) h1 h2 h3.1 h3.2)
        have J := Lib.hid (fun w => by have K := kCheck_any k w hk; rw [chk1_ok (by omega)] at K; exact K)
        obtain ⟨z1, z2⟩ := str_full v h3.2
        obtain ⟨rfl, _⟩ := h3
        clear h1
        go_enter Try.func36, Try.ntmps36
        go_wp2_with (go_at_call 28; refine (J.out _).mono ?_; rintro e w' ⟨rfl, rfl⟩)
        go_ret
        exact ⟨by rw [H.out]; rfl, (Below.refl _ _).alloc (Nat.le_refl _) _⟩
      · by_cases h4 : q < 1 ∨ 1000000000 < q
        · have H := Lib.hid (El.chk_seq h1 h2 h3 h4)
          have J := Lib.hid (fun w => by have K := kCheck_any k w hk; rw [chk1_ok (by omega)] at K; exact K)
          rcases h4 with h4 | h4
          all_goals
            cases d
            all_goals
              (try (have z1 := str_empty v (by by_cases z : v.size = 0; exact z; exact absurd ⟨rfl, z⟩ h3)))
              clear h3 h1
              go_enter Try.func36, Try.ntmps36
              go_wp2_with (go_at_call 28; refine (J.out _).mono ?_; rintro e w' ⟨rfl, rfl⟩)
              go_ret
              exact ⟨by rw [H.out]; rfl, (Below.refl _ _).alloc (Nat.le_refl _) _⟩
        · have H := Lib.hid (El.chk_ok h1 h2 h3 h4)
          have J := Lib.hid (fun w => by have K := kCheck_any k w hk; rw [chk1_ok (by omega)] at K; exact K)
          obtain ⟨h5, h6⟩ : ¬ q < 1 ∧ ¬ 1000000000 < q := by omega
          clear h4
          all_goals
            cases d
            all_goals
              (try (have z1 := str_empty v (by by_cases z : v.size = 0; exact z; exact absurd ⟨rfl, z⟩ h3)))
              clear h3 h1
              go_enter Try.func36, Try.ntmps36
              go_wp2_with (go_at_call 28; refine (J.out _).mono ?_; rintro e w' ⟨rfl, rfl⟩)
              go_ret
              exact ⟨by rw [H.out]; rfl, (Below.refl _ _).alloc (Nat.le_refl _) _⟩
set_option maxHeartbeats 1000000 in
theorem fCheck_any (k v : ByteArray) (d : Bool) (q : Int) (w : World) (hk : k.size ≤ 9223372036854775807) (hv : v.size ≤ 9223372036854775807) :
    Calls Try.prog 27 #[.agg #[.string k, .string v, .bool d, .int .i64 q]] w fun e w' => e = .returned (.int .i64 (El.chk (k, v, d, q))) ∧ Below w.heap.size w w' := by
  by_cases h1 : 32 < k.size
  · have H := Lib.hid (El.chk_key (v := v) (d := d) (q := q) h1)
    go_enter Try.func27, Try.ntmps27
    go_wp2_with fail
    go_ret
    exact ⟨by rw [H.out]; rfl, (Below.refl _ _).alloc (Nat.le_refl _) _⟩
  · by_cases h2 : 64 < v.size
    · have H := Lib.hid (El.chk_val (d := d) (q := q) h1 h2)
      go_enter Try.func27, Try.ntmps27
      go_wp2_with fail
      go_ret
      exact ⟨by rw [H.out]; rfl, (Below.refl _ _).alloc (Nat.le_refl _) _⟩
    · by_cases h3 : d = true ∧ v.size ≠ 0
      · have H := Lib.hid (El.chk_dead (q := q) h1 h2 h3.1 h3.2)
        obtain ⟨z1, z2⟩ := str_full v h3.2
        obtain ⟨rfl, _⟩ := h3
        go_enter Try.func27, Try.ntmps27
        go_wp2_with fail
        go_ret
        exact ⟨by rw [H.out]; rfl, (Below.refl _ _).alloc (Nat.le_refl _) _⟩
      · by_cases h4 : q < 1 ∨ 1000000000 < q
        · have H := Lib.hid (El.chk_seq h1 h2 h3 h4)
          
          rcases h4 with h4 | h4
          all_goals
            cases d
            all_goals
              (try (have z1 := str_empty v (by by_cases z : v.size = 0; exact z; exact absurd ⟨rfl, z⟩ h3)))
              clear h3
              go_enter Try.func27, Try.ntmps27
              go_wp2_with fail
              go_ret
              exact ⟨by rw [H.out]; rfl, (Below.refl _ _).alloc (Nat.le_refl _) _⟩
        · have H := Lib.hid (El.chk_ok h1 h2 h3 h4)
          
          obtain ⟨h5, h6⟩ : ¬ q < 1 ∧ ¬ 1000000000 < q := by omega
          clear h4
          all_goals
            cases d
            all_goals
              (try (have z1 := str_empty v (by by_cases z : v.size = 0; exact z; exact absurd ⟨rfl, z⟩ h3)))
              clear h3
              go_enter Try.func27, Try.ntmps27
              go_wp2_with fail
              go_ret
              exact ⟨by rw [H.out]; rfl, (Below.refl _ _).alloc (Nat.le_refl _) _⟩
end Go.Proofs.Ytlobkbhghpknmaa.KK
