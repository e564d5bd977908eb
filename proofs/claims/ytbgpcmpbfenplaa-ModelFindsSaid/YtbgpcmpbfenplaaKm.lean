/-
  Contracts of ranges: CheckRange, has, In, Empty, on both sides.
-/
import Derived.Test.YtbgpcmpbfenplaaUi
import Derived.Lib.MinMaxS
namespace Go.Proofs.Ytbgpcmpbfenplaa.KK
open Go.ChangeShapes Go.WideShapes Go.ChangeAt Go.RowKit Go.Proofs

/-- the error of a range -/
def chkR (lo hi : ByteArray) (b : Bool) : Int := if ¬ (lo.size ≤ 32 ∧ hi.size ≤ 32) then 3 else if b = false ∧ hi.size ≠ 0 then 6 else 0
def hasB (lo hi : ByteArray) (b : Bool) (k : ByteArray) : Bool := !Kl.lt (Kl.L k) (Kl.L lo) && (!b || Kl.lt (Kl.L k) (Kl.L hi))
theorem str_empty (s : ByteArray) (h : s.size = 0) : s.toList = [] := by
  rw [Lib.toList_data]; exact List.eq_nil_of_length_eq_zero (by rw [← Lib.size_eq]; exact h)
theorem str_full (s : ByteArray) (h : s.size ≠ 0) : s.toList ≠ [] ∧ s.toList.isEmpty = false := by
  have : s.toList ≠ [] := by
    rw [Lib.toList_data]; intro e
    have := Lib.size_eq s; rw [e, List.length_nil] at this; omega
  exact ⟨this, by simpa using this⟩

set_option maxHeartbeats 1000000 in
theorem kCheckRange_any (lo hi : ByteArray) (b : Bool) (w : World) (h1 : lo.size ≤ 9223372036854775807) (h2 : hi.size ≤ 9223372036854775807) :
    Calls Try.prog 50 #[.agg #[.string lo, .string hi, .bool b]] w fun e w' => e = .returned (.int .i64 (chkR lo hi b)) ∧ Below w.heap.size w w' := by
  have K := fun w => checkBoth_any lo hi w h1 h2
  by_cases h : lo.size ≤ 32 ∧ hi.size ≤ 32
  · rw [chk2_ok h.1 h.2] at K
    have J := Lib.hid K
    by_cases hz : hi.size = 0
    · have H : Hid (chkR lo hi b = 0) := Lib.hid (by unfold chkR; rw [if_neg (by simpa using h), if_neg (by omega)])
      have z1 := str_empty hi hz
      clear K h hz
      cases b
      all_goals
        go_enter Try.func50, Try.ntmps50
        go_wp2_with (go_at_call 84; refine (J.out _).mono ?_; rintro e w' ⟨rfl, rfl⟩)
        go_ret
        exact ⟨by rw [H.out]; rfl, (Below.refl _ _).alloc (Nat.le_refl _) _⟩
    · obtain ⟨z1, z2⟩ := str_full hi hz
      cases b with
      | false =>
        have H : Hid (chkR lo hi false = 6) := Lib.hid (by unfold chkR; rw [if_neg (by simpa using h), if_pos ⟨rfl, hz⟩])
        clear K h hz
        go_enter Try.func50, Try.ntmps50
        go_wp2_with (go_at_call 84; refine (J.out _).mono ?_; rintro e w' ⟨rfl, rfl⟩)
        go_ret
        exact ⟨by rw [H.out]; rfl, (Below.refl _ _).alloc (Nat.le_refl _) _⟩
      | true =>
        have H : Hid (chkR lo hi true = 0) := Lib.hid (by unfold chkR; rw [if_neg (by simpa using h), if_neg (by simp)])
        clear K h hz
        go_enter Try.func50, Try.ntmps50
        go_wp2_with (go_at_call 84; refine (J.out _).mono ?_; rintro e w' ⟨rfl, rfl⟩)
        go_ret
        exact ⟨by rw [H.out]; rfl, (Below.refl _ _).alloc (Nat.le_refl _) _⟩
  · rw [chk2_no h] at K
    have J := Lib.hid K
    have H : Hid (chkR lo hi b = 3) := Lib.hid (by unfold chkR; rw [if_pos h])
    clear K h
    go_enter Try.func50, Try.ntmps50
    go_wp2_with (go_at_call 84; refine (J.out _).mono ?_; rintro e w' ⟨rfl, rfl⟩)
    go_ret
    exact ⟨by rw [H.out]; rfl, (Below.refl _ _).alloc (Nat.le_refl _) _⟩
set_option maxHeartbeats 1000000 in
theorem rCheckRange_any (lo hi : ByteArray) (b : Bool) (w : World) (h1 : lo.size ≤ 9223372036854775807) (h2 : hi.size ≤ 9223372036854775807) :
    Calls Try.prog 36 #[.agg #[.string lo, .string hi, .bool b]] w fun e w' => e = .returned (.int .i64 (chkR lo hi b)) ∧ Below w.heap.size w w' := by
  have K := fun w => two_any lo hi w h1 h2
  by_cases h : lo.size ≤ 32 ∧ hi.size ≤ 32
  · rw [chk2_ok h.1 h.2] at K
    have J := Lib.hid K
    by_cases hz : hi.size = 0
    · have H : Hid (chkR lo hi b = 0) := Lib.hid (by unfold chkR; rw [if_neg (by simpa using h), if_neg (by omega)])
      have z1 := str_empty hi hz
      clear K h hz
      cases b
      all_goals
        go_enter Try.func36, Try.ntmps36
        go_wp2_with (go_at_call 70; refine (J.out _).mono ?_; rintro e w' ⟨rfl, rfl⟩)
        go_ret
        exact ⟨by rw [H.out]; rfl, (Below.refl _ _).alloc (Nat.le_refl _) _⟩
    · obtain ⟨z1, z2⟩ := str_full hi hz
      cases b with
      | false =>
        have H : Hid (chkR lo hi false = 6) := Lib.hid (by unfold chkR; rw [if_neg (by simpa using h), if_pos ⟨rfl, hz⟩])
        clear K h hz
        go_enter Try.func36, Try.ntmps36
        go_wp2_with (go_at_call 70; refine (J.out _).mono ?_; rintro e w' ⟨rfl, rfl⟩)
        go_ret
        exact ⟨by rw [H.out]; rfl, (Below.refl _ _).alloc (Nat.le_refl _) _⟩
      | true =>
        have H : Hid (chkR lo hi true = 0) := Lib.hid (by unfold chkR; rw [if_neg (by simpa using h), if_neg (by simp)])
        clear K h hz
        go_enter Try.func36, Try.ntmps36
        go_wp2_with (go_at_call 70; refine (J.out _).mono ?_; rintro e w' ⟨rfl, rfl⟩)
        go_ret
        exact ⟨by rw [H.out]; rfl, (Below.refl _ _).alloc (Nat.le_refl _) _⟩
  · rw [chk2_no h] at K
    have J := Lib.hid K
    have H : Hid (chkR lo hi b = 3) := Lib.hid (by unfold chkR; rw [if_pos h])
    clear K h
    go_enter Try.func36, Try.ntmps36
    go_wp2_with (go_at_call 70; refine (J.out _).mono ?_; rintro e w' ⟨rfl, rfl⟩)
    go_ret
    exact ⟨by rw [H.out]; rfl, (Below.refl _ _).alloc (Nat.le_refl _) _⟩

set_option maxHeartbeats 1000000 in
theorem has_any (lo hi : ByteArray) (b : Bool) (k : ByteArray) (w : World) :
    Calls Try.prog 85 #[.agg #[.string lo, .string hi, .bool b], .string k] w fun e w' => e = .returned (.bool (hasB lo hi b k)) ∧ Below w.heap.size w w' := by
  have e1 : Op.bytesLess k.toList lo.toList = Kl.lt (Kl.L k) (Kl.L lo) := by rw [bytesLess_lt, toList_L, toList_L]
  have e2 : Op.bytesLess k.toList hi.toList = Kl.lt (Kl.L k) (Kl.L hi) := by rw [bytesLess_lt, toList_L, toList_L]
  cases h1 : Kl.lt (Kl.L k) (Kl.L lo) <;> cases b <;> cases h2 : Kl.lt (Kl.L k) (Kl.L hi)
  all_goals
    have H1 := Lib.hid h1
    have H2 := Lib.hid h2
    rw [h1] at e1
    rw [h2] at e2
    clear h1 h2
    go_enter Try.func85, Try.ntmps85
    go_wp2_with fail
    go_ret
    exact ⟨retB (by unfold hasB; rw [H1.out, H2.out]; rfl), (Below.refl _ _).alloc (Nat.le_refl _) _⟩
end Go.Proofs.Ytbgpcmpbfenplaa.KK
