/-
  Plain functions on entries: what is wrong with one, and their order. They import nothing of the program.
-/
import Derived.Test.YtlobkbhghpknmaaKp
namespace Go.Proofs.Ytlobkbhghpknmaa.El

/-- an entry: key, value, whether it is a tombstone, number -/
abbrev En := ByteArray × ByteArray × Bool × Int
/-- what is wrong with an entry -/
def chk (x : En) : Int :=
  if 32 < x.1.size then 3 else if 64 < x.2.1.size then 3 else if x.2.2.1 = true ∧ x.2.1.size ≠ 0 then 6 else if x.2.2.2 < 1 ∨ 1000000000 < x.2.2.2 then 7 else 0
theorem chk_key {k v : ByteArray} {d : Bool} {q : Int} (h : 32 < k.size) : chk (k, v, d, q) = 3 := if_pos h
theorem chk_val {k v : ByteArray} {d : Bool} {q : Int} (h : ¬ 32 < k.size) (g : 64 < v.size) : chk (k, v, d, q) = 3 := by
  unfold chk; rw [if_neg h, if_pos g]
theorem chk_dead {k v : ByteArray} {d : Bool} {q : Int} (h : ¬ 32 < k.size) (g : ¬ 64 < v.size) (hd : d = true) (hv : v.size ≠ 0) : chk (k, v, d, q) = 6 := by
  unfold chk; rw [if_neg h, if_neg g, if_pos ⟨hd, hv⟩]
theorem chk_seq {k v : ByteArray} {d : Bool} {q : Int} (h : ¬ 32 < k.size) (g : ¬ 64 < v.size) (hd : ¬ (d = true ∧ v.size ≠ 0)) (hq : q < 1 ∨ 1000000000 < q) : chk (k, v, d, q) = 7 := by
  unfold chk; rw [if_neg h, if_neg g, if_neg hd, if_pos hq]
theorem chk_ok {k v : ByteArray} {d : Bool} {q : Int} (h : ¬ 32 < k.size) (g : ¬ 64 < v.size) (hd : ¬ (d = true ∧ v.size ≠ 0)) (hq : ¬ (q < 1 ∨ 1000000000 < q)) : chk (k, v, d, q) = 0 := by
  unfold chk; rw [if_neg h, if_neg g, if_neg hd, if_neg hq]
theorem chk_of {x : En} (h : chk x = 0) : x.1.size ≤ 32 ∧ x.2.1.size ≤ 64 ∧ (x.2.2.1 = true → x.2.1.size = 0) ∧ 1 ≤ x.2.2.2 ∧ x.2.2.2 ≤ 1000000000 := by
  unfold chk at h
  split at h
  · cases h
  split at h
  · cases h
  split at h
  · cases h
  split at h
  · cases h
  rename_i h1 h2 h3 h4
  refine ⟨by omega, by omega, fun hd => ?_, by omega, by omega⟩
  rcases Nat.eq_zero_or_pos x.2.1.size with h | h
  · exact h
  · exact absurd ⟨hd, by omega⟩ h3
/-- what is wrong with two entries -/
def two (a b : En) : Int := if chk a = 0 then chk b else chk a
theorem two_ok {a b : En} (h : chk a = 0) : two a b = chk b := if_pos h
theorem two_no {a b : En} (h : ¬ chk a = 0) : two a b = chk a := if_neg h
theorem two_of {a b : En} (h : two a b = 0) : chk a = 0 ∧ chk b = 0 := by
  by_cases ha : chk a = 0
  · rw [two_ok ha] at h; exact ⟨ha, h⟩
  · rw [two_no ha] at h; exact absurd h ha
/-- the order of entries -/
def ord (a b : En) : Int :=
  if Kl.ord (Kl.L a.1) (Kl.L b.1) = 0 then (if b.2.2.2 < a.2.2.2 then -1 else if a.2.2.2 < b.2.2.2 then 1 else 0) else Kl.ord (Kl.L a.1) (Kl.L b.1)
/-- what Compare and Wins answer -/
def cmp (a b : En) : Int := if two a b = 0 then ord a b else 0
def none : En := (⟨#[]⟩, ⟨#[]⟩, false, 0)
def wins (a b : En) : Int × En :=
  if two a b = 0 then (if a.1 = b.1 then (if a.2.2.2 < b.2.2.2 then (0, b) else (0, a)) else (6, none)) else (two a b, none)
end Go.Proofs.Ytlobkbhghpknmaa.El
