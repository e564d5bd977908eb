/-
  Contracts of the functions that check keys.
-/
import Derived.Test.YtbgpcmpbfenplaaProg
import Derived.Test.YtbgpcmpbfenplaaKp
import Derived.WalkKit
import Derived.ProofKit
import Derived.BigQuiet
import Derived.WalkLawsBesides
import Derived.WalkSpells
namespace Go.Proofs.Ytbgpcmpbfenplaa.KK
open Go.ChangeShapes Go.WideShapes Go.ChangeAt Go.RowKit Go.Proofs

/-- the error of a key of so many bytes, of two keys -/
def chk1 (n : Nat) : Int := if n ≤ 32 then 0 else 3
def chk2 (n m : Nat) : Int := if n ≤ 32 ∧ m ≤ 32 then 0 else 3
theorem chk1_ok {n : Nat} (h : n ≤ 32) : chk1 n = 0 := if_pos h
theorem chk1_no {n : Nat} (h : ¬ n ≤ 32) : chk1 n = 3 := if_neg h
theorem chk2_ok {n m : Nat} (h : n ≤ 32) (g : m ≤ 32) : chk2 n m = 0 := if_pos ⟨h, g⟩
theorem chk2_no {n m : Nat} (h : ¬ (n ≤ 32 ∧ m ≤ 32)) : chk2 n m = 3 := if_neg h
theorem retI {a b : Int} {k : IntKind} (h : a = b) : Ending.returned (.int k a) = .returned (.int k b) := by rw [h]
theorem retB {a b : Bool} (h : a = b) : Ending.returned (.bool a) = .returned (.bool b) := by rw [h]

theorem kCheck_any (s : ByteArray) (w : World) (hs : s.size ≤ 9223372036854775807) :
    Calls Try.prog 79 #[.string s] w fun e w' => e = .returned (.int .i64 (chk1 s.size)) ∧ w = w' := by
  by_cases h : s.size ≤ 32
  · have H := Lib.hid (chk1_ok h)
    go_enter Try.func79, Try.ntmps79
    go_wp2
    go_ret
    exact ⟨by rw [H.out]; rfl, rfl⟩
  · have H := Lib.hid (chk1_no h)
    have h' : 32 < s.size := by omega
    clear h
    go_enter Try.func79, Try.ntmps79
    go_wp2
    go_ret
    exact ⟨by rw [H.out]; rfl, rfl⟩
theorem rCheck_any (s : ByteArray) (w : World) (hs : s.size ≤ 9223372036854775807) :
    Calls Try.prog 92 #[.string s] w fun e w' => e = .returned (.int .i64 (chk1 s.size)) ∧ w = w' := by
  by_cases h : s.size ≤ 32
  · have H := Lib.hid (chk1_ok h)
    go_enter Try.func92, Try.ntmps92
    go_wp2
    go_ret
    exact ⟨by rw [H.out]; rfl, rfl⟩
  · have H := Lib.hid (chk1_no h)
    have h' : 32 < s.size := by omega
    clear h
    go_enter Try.func92, Try.ntmps92
    go_wp2
    go_ret
    exact ⟨by rw [H.out]; rfl, rfl⟩
theorem checkBoth_any (a b : ByteArray) (w : World) (ha : a.size ≤ 9223372036854775807) (hb : b.size ≤ 9223372036854775807) :
    Calls Try.prog 84 #[.string a, .string b] w fun e w' => e = .returned (.int .i64 (chk2 a.size b.size)) ∧ w = w' := by
  by_cases h : a.size ≤ 32
  · have h1 := fun w => kCheck_any a w ha
    rw [chk1_ok h] at h1
    have h2 := fun w => kCheck_any b w hb
    rw [show chk1 b.size = chk2 a.size b.size by unfold chk1 chk2; simp [h]] at h2
    have H1 := Lib.hid h1
    have H2 := Lib.hid h2
    clear h1 h2
    go_enter Try.func84, Try.ntmps84
    go_wp2_with fail
    refine (H1.out _).mono ?_
    rintro e w' ⟨rfl, rfl⟩
    go_wp2_with fail
    refine (H2.out _).mono ?_
    rintro e w' ⟨rfl, rfl⟩
    go_wp2_with fail
    go_ret
    exact ⟨rfl, rfl⟩
  · have h1 := fun w => kCheck_any a w ha
    rw [chk1_no h] at h1
    have H1 := Lib.hid h1
    have H2 := Lib.hid (chk2_no (m := b.size) (fun g => h g.1))
    clear h1
    go_enter Try.func84, Try.ntmps84
    go_wp2_with fail
    refine (H1.out _).mono ?_
    rintro e w' ⟨rfl, rfl⟩
    go_wp2_with fail
    go_ret
    exact ⟨by rw [H2.out]; rfl, rfl⟩
theorem two_any (a b : ByteArray) (w : World) (ha : a.size ≤ 9223372036854775807) (hb : b.size ≤ 9223372036854775807) :
    Calls Try.prog 70 #[.string a, .string b] w fun e w' => e = .returned (.int .i64 (chk2 a.size b.size)) ∧ w = w' := by
  by_cases h : a.size ≤ 32
  · have h1 := fun w => rCheck_any a w ha
    rw [chk1_ok h] at h1
    have h2 := fun w => rCheck_any b w hb
    rw [show chk1 b.size = chk2 a.size b.size by unfold chk1 chk2; simp [h]] at h2
    have H1 := Lib.hid h1
    have H2 := Lib.hid h2
    clear h1 h2
    go_enter Try.func70, Try.ntmps70
    go_wp2_with fail
    refine (H1.out _).mono ?_
    rintro e w' ⟨rfl, rfl⟩
    go_wp2_with fail
    refine (H2.out _).mono ?_
    rintro e w' ⟨rfl, rfl⟩
    go_wp2_with fail
    go_ret
    exact ⟨rfl, rfl⟩
  · have h1 := fun w => rCheck_any a w ha
    rw [chk1_no h] at h1
    have H1 := Lib.hid h1
    have H2 := Lib.hid (chk2_no (m := b.size) (fun g => h g.1))
    clear h1
    go_enter Try.func70, Try.ntmps70
    go_wp2_with fail
    refine (H1.out _).mono ?_
    rintro e w' ⟨rfl, rfl⟩
    go_wp2_with fail
    go_ret
    exact ⟨by rw [H2.out]; rfl, rfl⟩
end Go.Proofs.Ytbgpcmpbfenplaa.KK
