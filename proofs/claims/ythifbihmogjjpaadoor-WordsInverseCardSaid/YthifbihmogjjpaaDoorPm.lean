/-
  Plain functions: decimal numerals, digit by digit.
-/
import Derived.Test.YthifbihmogjjpaaDoorPh
import Derived.Lib.ItoaLen
namespace Go.Proofs.YthifbihmogjjpaaDoor.Pl
open Go.Lib

theorem dg_byte (d : Nat) : ((48 + d : Nat) : Int).toNat = 48 + d := by omega
theorem itoa_last (n : Int) (h : 9 < n ∨ n < -9) : itoa n = itoa (Int.tdiv n 10) ++ [UInt8.ofNat (48 + n.natAbs % 10)] := by
  rcases h with h | h
  · obtain ⟨u, rfl⟩ : ∃ u : Nat, n = u := ⟨n.toNat, by omega⟩
    have e : Int.tdiv (u : Int) 10 = ((u / 10 : Nat) : Int) := by rw [Int.tdiv_eq_ediv_of_nonneg (by omega)]; omega
    rw [e, itoa_nonneg, itoa_nonneg, decDigits, dif_neg (by omega)]
    simp
  · obtain ⟨u, rfl⟩ : ∃ u : Nat, n = -(u : Int) := ⟨n.natAbs, by omega⟩
    have e : Int.tdiv (-(u : Int)) 10 = -((u / 10 : Nat) : Int) := by rw [Int.neg_tdiv, Int.tdiv_eq_ediv_of_nonneg (by omega)]; omega
    rw [e, itoa_neg u (by omega), itoa_neg (u / 10) (by omega), decDigits, dif_neg (by omega)]
    simp
theorem itoa_minus (n : Int) (h : n < 0) : itoa n = 45 :: itoa (-n) := by
  obtain ⟨u, rfl⟩ : ∃ u : Nat, n = -(u : Int) := ⟨n.natAbs, by omega⟩
  rw [itoa_neg u (by omega), Int.neg_neg, itoa_nonneg]
theorem itoa_one (n : Int) (h0 : 0 ≤ n) (h : n ≤ 9) : itoa n = [UInt8.ofNat (48 + n).toNat] := by
  obtain ⟨u, rfl⟩ : ∃ u : Nat, n = u := ⟨n.toNat, by omega⟩
  rw [itoa_nonneg, decDigits, dif_pos (by omega)]
  congr 2
end Go.Proofs.YthifbihmogjjpaaDoor.Pl
