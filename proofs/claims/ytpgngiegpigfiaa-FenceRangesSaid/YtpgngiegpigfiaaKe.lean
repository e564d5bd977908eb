/-
  Contracts of Next, Past, Between, and the reference's.
-/
import Derived.Test.YtpgngiegpigfiaaKd
namespace Go.Proofs.Ytpgngiegpigfiaa.KK
open Go.ChangeShapes Go.WideShapes Go.ChangeAt Go.RowKit Go.Proofs

def strE (r : Int × List UInt8) : Value := .tuple #[.string ⟨r.2.toArray⟩, .int .i64 r.1]
def nextE (l : List UInt8) : Int × List UInt8 := if 32 < l.length then (3, []) else if l.length < 32 then (0, l ++ [0]) else match Kl.rai l with | none => (9, []) | some p => (0, p)
def pastE (l : List UInt8) : Int × List UInt8 := if 32 < l.length then (3, []) else match Kl.rai l with | none => (4, []) | some p => (0, p)
def btwE (a b : List UInt8) : Int × List UInt8 := if ¬ (a.length ≤ 32 ∧ b.length ≤ 32) then (3, []) else if Kl.lt a b then (0, Kl.btw a b) else (6, [])
theorem mk_L (s : ByteArray) : s = ⟨(Kl.L s).toArray⟩ := by cases s; simp [Kl.L]

theorem next_zero (s : ByteArray) : s ++ ⟨#[0]⟩ = ⟨(Kl.L s ++ [0]).toArray⟩ := by
  conv => lhs; rw [mk_L s]
  exact bytes_app _ [0]
end Go.Proofs.Ytpgngiegpigfiaa.KK
