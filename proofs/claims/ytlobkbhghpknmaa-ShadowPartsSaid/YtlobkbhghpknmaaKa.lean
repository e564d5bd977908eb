/-
  Contracts of the functions that check keys.
-/
import Derived.Test.YtlobkbhghpknmaaProg
import Derived.Test.YtlobkbhghpknmaaKp
import Derived.WalkKit
import Derived.ProofKit
import Derived.BigQuiet
import Derived.WalkLawsBesides
import Derived.WalkSpells
namespace Go.Proofs.Ytlobkbhghpknmaa.KK
open Go.ChangeShapes Go.WideShapes Go.ChangeAt Go.RowKit Go.Proofs

/-- the error of a key of so many bytes, of two keys -/
def chk1 (n : Nat) : Int := if n ≤ 32 then 0 else 3
def chk2 (n m : Nat) : Int := if n ≤ 32 ∧ m ≤ 32 then 0 else 3
theorem chk1_ok {n : Nat} (h : n ≤ 32) : chk1 n = 0 := if_pos h
theorem chk1_no {n : Nat} (h : ¬ n ≤ 32) : chk1 n = 3 := if_neg h
theorem chk2_ok {n m : Nat} (h : n ≤ 32) (g : m ≤ 32) : chk2 n m = 0 := if_pos ⟨h, g⟩
theorem chk2_no {n m : Nat} (h : ¬ (n ≤ 32 ∧ m ≤ 32)) : chk2 n m = 3 := if_neg h
theorem retI {a b : Int} {k : IntKind} (h : a = b) : Ending.returned (.int k a) = .returned (.int k b) := by rw [h]
theorem retB {a b : Bool} (h : a = b) : Ending.returned (.bool a) = .returned (.bool b) := by rw [h]

theorem kCheck_any (s : ByteArray) (w : World) (hs : s.size ≤ 9223372036854775807) :
    Calls Try.prog 28 #[.string s] w fun e w' => e = .returned (.int .i64 (chk1 s.size)) ∧ w = w' := by
  by_cases h : s.size ≤ 32
  · have H := Lib.hid (chk1_ok h)
    go_enter Try.func28, Try.ntmps28
    go_wp2
    go_ret
    exact ⟨by rw [H.out]; rfl, rfl⟩
  · have H := Lib.hid (chk1_no h)
    have h' : 32 < s.size := by omega
    clear h
    go_enter Try.func28, Try.ntmps28
    go_wp2
    go_ret
    exact ⟨by rw [H.out]; rfl, rfl⟩
end Go.Proofs.Ytlobkbhghpknmaa.KK
