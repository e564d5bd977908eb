/-
  Plain functions: the quoted form.
-/
import Derived.Test.YthifbihmogjjpaaDoorPlain
import Derived.Lib.Bytealg
namespace Go.Proofs.YthifbihmogjjpaaDoor.Pl
open Go.Lib

/-- the sixteen digits -/
def hexL : List UInt8 := [48, 49, 50, 51, 52, 53, 54, 55, 56, 57, 97, 98, 99, 100, 101, 102]
def hv (c : UInt8) : Int := Go.Lib.indexByte hexL c
theorem indexByte_lt : ∀ (l : List UInt8) (c : UInt8), Go.Lib.indexByte l c < l.length ∨ l = [] := by
  intro l c
  induction l with
  | nil => exact .inr rfl
  | cons b r ih =>
    left
    unfold Go.Lib.indexByte
    have hg := indexByte_ge r c
    rcases ih with h | h
    · split
      · simp only [List.length_cons]; omega
      · split
        · simp; omega
        · simp; omega
    · subst h; unfold Go.Lib.indexByte; split <;> simp
theorem hv_range (c : UInt8) : -1 ≤ hv c ∧ hv c ≤ 15 := by
  refine ⟨indexByte_ge _ _, ?_⟩
  have := indexByte_lt hexL c
  rcases this with h | h
  · have e : hexL.length = 16 := rfl
    rw [e] at h; unfold hv; omega
  · cases h
def hexv (a b : UInt8) : UInt8 := UInt8.ofNat (hv a * 16 + hv b).toNat
/-- the byte of two digits, where it has no shorter form -/
def hex : List UInt8 → Option UInt8
  | a :: b :: _ => if hv a < 0 ∨ hv b < 0 then none else if (letter (hexv a b)).isSome || plain (hexv a b) then none else some (hexv a b)
  | _ => none
theorem hexv_toNat (a b : UInt8) (h : 0 ≤ hv a) (h' : 0 ≤ hv b) : ((hexv a b).toNat : Int) = hv a * 16 + hv b := by
  have h1 := hv_range a
  have h2 := hv_range b
  unfold hexv
  rw [UInt8.toNat_ofNat_of_lt' (by simp; omega)]; omega
theorem L_two (s : ByteArray) (h : 1 < s.size) : L s = s[0] :: s[1] :: (L s).drop 2 := by
  have h' : 1 < (L s).length := by rw [L_length]; exact h
  rw [L_cons s (by omega)]
  have e := List.drop_eq_getElem_cons h'
  simp only [List.drop_succ_cons, List.drop_zero]
  rw [e]; rfl
theorem L_one (s : ByteArray) (h : s.size < 2) : hex (L s) = none := by
  have : (L s).length < 2 := by rw [L_length]; exact h
  match hl : L s with
  | [] => rfl
  | [_] => rfl
  | a :: b :: r => rw [hl] at this; simp at this; exact absurd this (by omega)

/-- what is written behind a backslash -/
def rb92 : List UInt8 → Option (UInt8 × Nat)
  | [] => none
  | x :: r' => if x = 120 then (hex r').map (fun v => (v, 4)) else (raw x).map (fun v => (v, 2))
/-- what is written at the head: the byte, and how many places it takes -/
def rb : List UInt8 → Option (UInt8 × Nat)
  | [] => none
  | c :: r => if c = 92 then rb92 r else if plain c then some (c, 1) else none
theorem rb_cons (c : UInt8) (r : List UInt8) : rb (c :: r) = if c = 92 then rb92 r else if plain c then some (c, 1) else none := rfl
theorem rb92_cons (x : UInt8) (r' : List UInt8) : rb92 (x :: r') = if x = 120 then (hex r').map (fun v => (v, 4)) else (raw x).map (fun v => (v, 2)) := rfl
theorem drop_cons (s : ByteArray) (k : Nat) (h : k < s.size) : (L s).drop k = s[k] :: (L s).drop (k + 1) := by
  have h' : k < (L s).length := by rw [L_length]; exact h
  rw [List.drop_eq_getElem_cons h']; rfl
theorem drop_end (s : ByteArray) (k : Nat) (h : s.size ≤ k) : (L s).drop k = [] := by
  apply List.drop_eq_nil_of_le; rw [L_length]; exact h
end Go.Proofs.YthifbihmogjjpaaDoor.Pl
