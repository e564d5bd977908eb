/-
  Plain functions: numbers in decimal form.
-/
import Derived.Test.YthifbihmogjjpaaDoorPg
import Derived.Lib.ParseIntBCases
import Derived.Lib.ItoaNum
namespace Go.Proofs.YthifbihmogjjpaaDoor.Pl
open Go.Lib

/-- the number that digits spell, behind others -/
def dstep (a : Nat) (c : UInt8) : Nat := a * 10 + (c.toNat - 48)
theorem dstep_ge (a : Nat) (c : UInt8) : a ≤ dstep a c := by
  unfold dstep
  generalize c.toNat - 48 = k
  omega
def dval (acc : Nat) (l : List UInt8) : Nat := l.foldl dstep acc
theorem dval_nil (acc : Nat) : dval acc [] = acc := rfl
theorem dval_cons (acc : Nat) (c : UInt8) (r : List UInt8) : dval acc (c :: r) = dval (dstep acc c) r := by unfold dval; rw [List.foldl_cons]
theorem dval_ge (l : List UInt8) : ∀ (acc : Nat), acc ≤ dval acc l := by
  induction l with
  | nil => intro acc; exact Nat.le_refl _
  | cons c r ih =>
    intro acc
    rw [dval_cons]
    exact Nat.le_trans (dstep_ge acc c) (ih _)
theorem dig_iff (c : UInt8) : dig c = true ↔ 48 ≤ c.toNat ∧ c.toNat ≤ 57 := by
  unfold dig; simp only [Bool.and_eq_true, decide_eq_true_eq]; omega
theorem parseM_all (M : Nat) (hM : M ≤ 18446744073709551615) (l : List UInt8) : ∀ (acc : Nat), acc ≤ M → l.all dig = true →
    parseUintM M acc l = if dval acc l ≤ M then .ok (dval acc l) else .range := by
  induction l with
  | nil => intro acc h _; rw [parseUintM, dval_nil, if_pos h]
  | cons c r ih =>
    intro acc h ha
    simp only [List.all_cons, Bool.and_eq_true] at ha
    have hc := (dig_iff c).1 ha.1
    have hge := dval_ge r (dstep acc c)
    rw [parseUintM, if_pos hc, dval_cons]
    have hd : dstep acc c = acc * 10 + (c.toNat - 48) := by unfold dstep; exact rfl
    rw [← hd]
    have hd2 : acc * 10 ≤ dstep acc c := by rw [hd]; exact Nat.le_add_right _ _
    clear hd
    generalize dstep acc c = q at *
    split
    · rw [if_neg (by omega)]
    · split
      · rw [if_neg (by omega)]
      · exact ih _ (by omega) ha.2
/-- the integer of a decimal form -/
def ival (l : List UInt8) : Int := if l.head? = some 45 then -(dval 0 (l.drop 1) : Int) else (dval 0 l : Int)
theorem nat_parts {l : List UInt8} (h : nat l = true) : ∃ c r, l = c :: r ∧ l.all dig = true := by
  unfold nat at h
  cases l with
  | nil => cases h
  | cons c r =>
    simp only [Bool.and_eq_true] at h
    exact ⟨c, r, rfl, h.2⟩
theorem parse_dec (l : List UInt8) (h : dec l = true) : parseIntB 64 l = if -9223372036854775808 ≤ ival l ∧ ival l ≤ 9223372036854775807 then .ok (ival l) else .range := by
  unfold dec at h
  split at h
  · rename_i hm
    cases l with
    | nil => cases hm
    | cons c r =>
      have hc : c = 45 := by simpa using hm
      subst hc
      simp only [Bool.and_eq_true, List.drop_succ_cons, List.drop_zero] at h
      obtain ⟨c', r', hr, ha⟩ := nat_parts h.2
      have hr0 : r ≠ [] := by rw [hr]; simp
      rw [parseIntB_minus, parseUintB, if_neg hr0, parseM_all _ (by decide) r 0 (Nat.zero_le _) ha]
      have hi : ival (45 :: r) = -(dval 0 r : Int) := by simp [ival]
      rw [hi]
      have e1 : (2 : Nat) ^ 64 - 1 = 18446744073709551615 := by decide
      have e2 : (2 : Nat) ^ (64 - 1) = 9223372036854775808 := by decide
      rw [e1, e2]
      by_cases h1 : dval 0 r ≤ 9223372036854775808
      · rw [if_pos (by omega), if_pos (by omega)]
        show (if 9223372036854775808 < dval 0 r then NumEnd.range else NumEnd.ok (-(dval 0 r : Int))) = _
        rw [if_neg (by omega)]
      · rw [if_neg (c := -9223372036854775808 ≤ -(dval 0 r : Int) ∧ _) (by omega)]
        split
        · show (if 9223372036854775808 < dval 0 r then NumEnd.range else NumEnd.ok (-(dval 0 r : Int))) = _
          rw [if_pos (by omega)]
        · rfl
  · rename_i hm
    obtain ⟨c, r, hr, ha⟩ := nat_parts h
    have hi : ival l = (dval 0 l : Int) := by unfold ival; rw [if_neg hm]
    subst hr
    have hc := (dig_iff c).1 (by simp only [List.all_cons, Bool.and_eq_true] at ha; exact ha.1)
    rw [parseIntB_plain 64 c r (by omega) (by omega), parseUintB, if_neg (by simp), parseM_all _ (by decide) (c :: r) 0 (Nat.zero_le _) ha]
    rw [hi]
    have e1 : (2 : Nat) ^ 64 - 1 = 18446744073709551615 := by decide
    have e2 : (2 : Nat) ^ (64 - 1) = 9223372036854775808 := by decide
    rw [e1, e2]
    by_cases h1 : dval 0 (c :: r) < 9223372036854775808
    · rw [if_pos (by omega), if_pos (by omega)]
      show (if 9223372036854775808 ≤ dval 0 (c :: r) then NumEnd.range else NumEnd.ok (dval 0 (c :: r) : Int)) = _
      rw [if_neg (by omega)]
    · rw [if_neg (c := -9223372036854775808 ≤ (dval 0 (c :: r) : Int) ∧ _) (by omega)]
      split
      · show (if 9223372036854775808 ≤ dval 0 (c :: r) then NumEnd.range else NumEnd.ok (dval 0 (c :: r) : Int)) = _
        rw [if_pos (by omega)]
      · rfl
/-- Int: the error, and the number -/
def intE (l : List UInt8) (lo hi : Int) : Int × Int := if dec l then (if lo ≤ ival l ∧ ival l ≤ hi then (0, ival l) else (7, 0)) else (6, 0)
theorem nat_none : nat [] = false := rfl
end Go.Proofs.YthifbihmogjjpaaDoor.Pl
