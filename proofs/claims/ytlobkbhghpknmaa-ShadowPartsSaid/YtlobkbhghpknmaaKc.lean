/-
  Contracts of compare, Compare, Common.
-/
import Derived.Test.YtlobkbhghpknmaaKb
import Derived.Test.YtlobkbhghpknmaaEq
namespace Go.Proofs.Ytlobkbhghpknmaa.KK
open Go.ChangeShapes Go.WideShapes Go.ChangeAt Go.RowKit Go.Proofs

theorem retT {a b c d : Int} (h : a = b) (g : c = d) : Ending.returned (.tuple #[.int .i64 a, .int .i64 c]) = .returned (.tuple #[.int .i64 b, .int .i64 d]) := by rw [h, g]
theorem cmpV_ok {a b : ByteArray} (h : a.size ≤ 32) (g : b.size ≤ 32) : cmpV a b = Kl.ord (Kl.L a) (Kl.L b) := if_pos ⟨h, g⟩
theorem cmpV_no {a b : ByteArray} (h : ¬ (a.size ≤ 32 ∧ b.size ≤ 32)) : cmpV a b = 0 := if_neg h
theorem comV_ok {a b : ByteArray} (h : a.size ≤ 32) (g : b.size ≤ 32) : comV a b = (Kl.cm (Kl.L a) (Kl.L b) : Nat) := if_pos ⟨h, g⟩
theorem comV_no {a b : ByteArray} (h : ¬ (a.size ≤ 32 ∧ b.size ≤ 32)) : comV a b = 0 := if_neg h

end Go.Proofs.Ytlobkbhghpknmaa.KK
