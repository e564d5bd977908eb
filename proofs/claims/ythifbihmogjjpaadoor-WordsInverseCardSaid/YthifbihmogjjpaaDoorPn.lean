/-
  Plain functions: the quoted form of a string.
-/
import Derived.Test.YthifbihmogjjpaaDoorPg
namespace Go.Proofs.YthifbihmogjjpaaDoor.Pl
open Go.Lib

def hexd (n : Nat) : UInt8 := hexL.getD n 0
/-- how a byte stands between quotes -/
def esc (c : UInt8) : List UInt8 := if plain c then [c] else match letter c with
  | some l => [92, l]
  | none => [92, 120, hexd (c.toNat / 16), hexd (c.toNat % 16)]
theorem esc_plain (c : UInt8) (h : plain c = true) : esc c = [c] := by unfold esc; rw [if_pos h]
theorem esc_letter (c l : UInt8) (h : plain c = false) (hl : letter c = some l) : esc c = [92, l] := by unfold esc; rw [h, hl]; rfl
theorem esc_hex (c : UInt8) (h : plain c = false) (hl : letter c = none) : esc c = [92, 120, hexd (c.toNat / 16), hexd (c.toNat % 16)] := by unfold esc; rw [h, hl]; rfl
theorem esc_len (c : UInt8) : (esc c).length ≤ 4 ∧ 1 ≤ (esc c).length := by
  unfold esc
  split
  · simp
  · split <;> simp
def qbody (l : List UInt8) : List UInt8 := l.flatMap esc
def quote (l : List UInt8) : List UInt8 := 34 :: (qbody l ++ [34])
theorem qbody_snoc (s : ByteArray) (k : Nat) (h : k < s.size) : qbody ((L s).take (k + 1)) = qbody ((L s).take k) ++ esc s[k] := by
  have e : (L s).take (k + 1) = (L s).take k ++ [s[k]] := List.take_succ_eq_append_getElem h
  unfold qbody
  rw [e, List.flatMap_append]
  simp
theorem qbody_len (l : List UInt8) : (qbody l).length ≤ 4 * l.length := by
  induction l with
  | nil => simp [qbody]
  | cons c r ih =>
    have := (esc_len c).1
    unfold qbody at ih ⊢
    rw [List.flatMap_cons, List.length_append, List.length_cons]
    omega
end Go.Proofs.YthifbihmogjjpaaDoor.Pl
