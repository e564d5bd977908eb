/-
  Fences: how many marks a list needs; its blocks, and their borders.
-/
import Derived.Test.YtpgngiegpigfiaaFe
namespace Go.Proofs.Ytpgngiegpigfiaa.KK
open Go.ChangeShapes Go.WideShapes Go.ChangeAt Go.RowKit Go.Proofs

theorem quo_mk {n st : Nat} (h : n ≠ 0) : ((n : Int) - 1) / (st : Int) = (mk n st : Int) := by
  unfold mk; rw [if_neg h, show (n : Int) - 1 = ((n - 1 : Nat) : Int) by omega]; rfl
theorem mk_small {n st : Nat} (h : n ≤ 4294967295) : mk n st ≤ 4294967295 := Nat.le_trans mk_le h
set_option maxHeartbeats 1000000 in
theorem marksFor_any (n st : Nat) (w : World) (hn : n ≤ 4294967295) (h1 : 1 ≤ st) (h64 : st ≤ 64) :
    Calls Try.prog 37 #[.int .i64 n, .int .i64 st] w fun e w' => e = .returned (.int .i64 (mk n st)) ∧ w = w' := by
  by_cases h0 : n = 0
  · subst h0
    go_enter Try.func37, Try.ntmps37
    go_wp2_with fail
    go_ret
    exact ⟨retI (by simp [mk]), rfl⟩
  · have H := Lib.hid (quo_mk (st := st) h0)
    have hs := mk_small (st := st) hn
    have h0' : (n : Int) ≠ 0 := by omega
    have hst0 : (st : Int) ≠ 0 := by omega
    have hst1 : (st : Int) ≠ -1 := by omega
    go_enter Try.func37, Try.ntmps37
    go_wp2_with fail
    go_ret
    exact ⟨retI H.out, rfl⟩
theorem mul_small {i st : Nat} (hi : i ≤ 100000) (h64 : st ≤ 64) : i * st ≤ 6400000 := by
  have := Nat.mul_le_mul hi h64; omega
set_option maxHeartbeats 1000000 in
theorem bounds_any (n st i : Nat) (w : World) (hn : n ≤ 4294967295) (h64 : st ≤ 64) (hi : i ≤ 100000) :
    Calls Try.prog 58 #[.int .i64 n, .int .i64 st, .int .i64 i] w fun e w' => e = .returned (.tuple #[.int .i64 (i * st : Nat), .int .i64 (min (i * st + st) n : Nat)]) ∧ w = w' := by
  have hm := mul_small hi h64
  have hc : (i : Int) * (st : Int) = ((i * st : Nat) : Int) := by simp
  have HC := Lib.hid hc
  generalize i * st = m at *
  have hw : IntKind.i64.wrap ((i : Int) * (st : Int)) = (m : Int) := by rw [hc, IntKind.wrap_i64]; omega
  clear hc
  have H : Hid (min ((m : Int) + (st : Int)) (n : Int) = ((min (m + st) n : Nat) : Int)) := Lib.hid (by omega)
  go_enter Try.func58, Try.ntmps58
  go_wp2_with fail
  go_ret2
  exact ⟨retT rfl H.out, rfl⟩
def blN (n st : Nat) : Nat := if n = 0 then 0 else (n - 1) / st + 1
theorem blN_mk (n st : Nat) : max ((blN n st : Int) - 1) 0 = (mk n st : Int) := by
  unfold blN mk
  by_cases h : n = 0
  · rw [if_pos h, if_pos h]; rfl
  · rw [if_neg h, if_neg h]
    have : (0 : Int) ≤ (((n - 1) / st : Nat) : Int) := Int.natCast_nonneg _
    omega
theorem bl_more {n st k : Nat} (hst : 1 ≤ st) (h : k * st < n) : k + 1 ≤ blN n st := by
  unfold blN; rw [if_neg (by omega)]
  have := (Nat.le_div_iff_mul_le (show 0 < st by omega)).2 (show k * st ≤ n - 1 by omega)
  omega
theorem bl_end {n st k : Nat} (hst : 1 ≤ st) (h : ¬ k * st < n) : blN n st ≤ k := by
  unfold blN
  by_cases e : n = 0
  · rw [if_pos e]; omega
  · rw [if_neg e]
    have := (Nat.div_lt_iff_lt_mul (show 0 < st by omega)).2 (show n - 1 < k * st by omega)
    omega
set_option maxHeartbeats 1000000 in
theorem blocks_any (n st : Nat) (w : World) (hn : n ≤ 10000) (h1 : 1 ≤ st) (h64 : st ≤ 64) :
    Calls Try.prog 59 #[.int .i64 n, .int .i64 st] w fun e w' => e = .returned (.int .i64 (blN n st)) ∧ w = w' := by
  have hbl : blN n st ≤ 10001 := by unfold blN; have := Nat.div_le_self (n - 1) st; split <;> omega
  go_enter Try.func59, Try.ntmps59
  go_wp2_with fail
  go_loopw [5] (fun i wr => ∃ k : Nat, k ≤ blN n st ∧ i = .int .i64 k ∧ wr = w) (fun i _ => blN n st - (intOf i).toNat)
  case atStart => exact ⟨0, Nat.zero_le _, rfl, by first | trivial | rfl⟩
  case round =>
    obtain ⟨k, hk, rfl, rfl⟩ := hrel
    have hm := mul_small (show k ≤ 100000 by omega) h64
    have hc : (k : Int) * (st : Int) = ((k * st : Nat) : Int) := by simp
    by_cases hlt : k * st < n
    · have h2 := bl_more h1 hlt
      have hw : IntKind.i64.wrap ((k : Int) * (st : Int)) = ((k * st : Nat) : Int) := by rw [hc, IntKind.wrap_i64]; omega
      have hx : ((k * st : Nat) : Int) < (n : Int) := by omega
      clear hc
      generalize k * st = m at *
      go_wp2_with fail
      go_roundw
      case rel => exact ⟨k + 1, by omega, by go_num, by first | trivial | rfl⟩
      case measure => simp [intOf]; omega
    · have h2 := bl_end h1 hlt
      have hw : IntKind.i64.wrap ((k : Int) * (st : Int)) = ((k * st : Nat) : Int) := by rw [hc, IntKind.wrap_i64]; omega
      have hx : ¬ ((k * st : Nat) : Int) < (n : Int) := by omega
      clear hc
      generalize k * st = m at *
      go_wp2_with fail
      go_ret
      exact ⟨retI (by omega), rfl⟩
end Go.Proofs.Ytpgngiegpigfiaa.KK
