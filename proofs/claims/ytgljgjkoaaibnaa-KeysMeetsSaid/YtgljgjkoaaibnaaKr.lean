/-
  Contracts of Meet, on both sides.
-/
import Derived.Test.YtgljgjkoaaibnaaKo
namespace Go.Proofs.Ytgljgjkoaaibnaa.KK
open Go.ChangeShapes Go.WideShapes Go.ChangeAt Go.RowKit Go.Proofs

def mErr (lo hi : ByteArray) (b : Bool) (lo2 hi2 : ByteArray) (b2 : Bool) : Int := if chkR lo hi b ≠ 0 then chkR lo hi b else chkR lo2 hi2 b2
def mLo (lo lo2 : ByteArray) : ByteArray := if Kl.lt (Kl.L lo) (Kl.L lo2) then lo2 else lo
def mTake (hi : ByteArray) (b : Bool) (hi2 : ByteArray) (b2 : Bool) : Bool := b2 && (!b || Kl.lt (Kl.L hi2) (Kl.L hi))
def mHi (hi : ByteArray) (b : Bool) (hi2 : ByteArray) (b2 : Bool) : ByteArray := if mTake hi b hi2 b2 then hi2 else hi
def mB (hi : ByteArray) (b : Bool) (hi2 : ByteArray) (b2 : Bool) : Bool := if mTake hi b hi2 b2 then true else b
/-- the range that Meet answers -/
def meetV (lo hi : ByteArray) (b : Bool) (lo2 hi2 : ByteArray) (b2 : Bool) : ByteArray × ByteArray × Bool :=
  if mErr lo hi b lo2 hi2 b2 = 0 then (mLo lo lo2, mHi hi b hi2 b2, mB hi b hi2 b2) else (⟨#[]⟩, ⟨#[]⟩, false)
theorem max_run (lo lo2 : ByteArray) : ∀ (w : World) (ts : Array TypeId) (t : TypeId), (Builtin.max_ ts t #[.string lo, .string lo2]).run Try.prog w = .ok (.string (mLo lo lo2)) w := by
  intro w ts t
  rw [Lib.run_max_strs]
  unfold Lib.maxS mLo
  by_cases h : lo.data.toList < lo2.data.toList
  · rw [if_pos h, if_pos (show Kl.lt (Kl.L lo) (Kl.L lo2) = true from (Kl.lt_iff _ _).1 h)]
  · rw [if_neg h, if_neg (show ¬ Kl.lt (Kl.L lo) (Kl.L lo2) = true from fun g => h ((Kl.lt_iff _ _).2 g))]

set_option maxRecDepth 100000 in
set_option maxHeartbeats 2000000 in
theorem kMeet_err1 (lo hi : ByteArray) (b : Bool) (lo2 hi2 : ByteArray) (b2 : Bool) (w : World) (h1 : lo.size ≤ 9223372036854775807) (h2 : hi.size ≤ 9223372036854775807) (h3 : lo2.size ≤ 9223372036854775807) (h4 : hi2.size ≤ 9223372036854775807) (hc : ¬ chkR lo hi b = 0) :
    Calls Try.prog 29 #[.agg #[.string lo, .string hi, .bool b], .agg #[.string lo2, .string hi2, .bool b2]] w fun e w' => e = .returned (.tuple #[.agg #[.string (meetV lo hi b lo2 hi2 b2).1, .string (meetV lo hi b lo2 hi2 b2).2.1, .bool (meetV lo hi b lo2 hi2 b2).2.2], .int .i64 (mErr lo hi b lo2 hi2 b2)]) ∧ Below w.heap.size w w' := by
  have K1 := fun w => kCheckRange_any lo hi b w h1 h2
  have HE : mErr lo hi b lo2 hi2 b2 = chkR lo hi b := by unfold mErr; rw [if_pos hc]
  have HV : Hid (meetV lo hi b lo2 hi2 b2 = (⟨#[]⟩, ⟨#[]⟩, false)) := Lib.hid (by unfold meetV; rw [HE, if_neg hc])
  rw [HV.out, HE]
  dsimp only
  rcases chkR_ne hc with h36 | h36
  all_goals
    rw [h36] at K1 ⊢
    have J1 := Lib.hid K1
    clear K1 hc h36 HE
    go_enter Try.func29, Try.ntmps29
    go_wp2_with fail
    refine (J1.out _).mono ?_
    rintro e w1 ⟨rfl, hb⟩
    obtain ⟨hc1, hf1⟩ := bcell hb
    have hz1 : w.heap.size + 3 ≤ w1.heap.size := by have := hb.size; simp at this; omega
    have z1 : w.heap.size < w1.heap.size := by omega
    have z2 : w.heap.size + 1 < w1.heap.size := by omega
    have z3 : w.heap.size + 1 + 1 < w1.heap.size := by omega
    have HB := Lib.hid (((((Below.refl w.heap.size w).alloc (Nat.le_refl _) _).alloc (by simp) _).alloc (by simp; omega) _).trans (hb.mono (by simp; omega)))
    clear hb
    go_wp2_with fail
    exact bodyPost_ret (v := .tuple #[.agg #[.string ⟨#[]⟩, .string ⟨#[]⟩, .bool false], .int .i64 _]) (by simp [results, Try.results29, go_sem, hc1, hf1, z1, z2, z3]) rfl ⟨rfl, by first | exact set3 HB.out (by omega) _ _ _ | exact HB.out⟩

set_option maxRecDepth 100000 in
set_option maxHeartbeats 2000000 in
theorem kMeet_err2 (lo hi : ByteArray) (b : Bool) (lo2 hi2 : ByteArray) (b2 : Bool) (w : World) (h1 : lo.size ≤ 9223372036854775807) (h2 : hi.size ≤ 9223372036854775807) (h3 : lo2.size ≤ 9223372036854775807) (h4 : hi2.size ≤ 9223372036854775807) (hc : chkR lo hi b = 0) (hd : ¬ chkR lo2 hi2 b2 = 0) :
    Calls Try.prog 29 #[.agg #[.string lo, .string hi, .bool b], .agg #[.string lo2, .string hi2, .bool b2]] w fun e w' => e = .returned (.tuple #[.agg #[.string (meetV lo hi b lo2 hi2 b2).1, .string (meetV lo hi b lo2 hi2 b2).2.1, .bool (meetV lo hi b lo2 hi2 b2).2.2], .int .i64 (mErr lo hi b lo2 hi2 b2)]) ∧ Below w.heap.size w w' := by
  have K1 := fun w => kCheckRange_any lo hi b w h1 h2
  have K2 := fun w => kCheckRange_any lo2 hi2 b2 w h3 h4
  have HE : mErr lo hi b lo2 hi2 b2 = chkR lo2 hi2 b2 := by unfold mErr; rw [if_neg (by simpa using hc)]
  have HV : Hid (meetV lo hi b lo2 hi2 b2 = (⟨#[]⟩, ⟨#[]⟩, false)) := Lib.hid (by unfold meetV; rw [HE, if_neg hd])
  rw [HV.out, HE]
  dsimp only
  rw [hc] at K1
  rcases chkR_ne hd with h36 | h36
  all_goals
    rw [h36] at K2 ⊢
    have J1 := Lib.hid K1
    have J2 := Lib.hid K2
    clear K1 K2 hc hd h36 HE
    go_enter Try.func29, Try.ntmps29
    go_wp2_with fail
    refine (J1.out _).mono ?_
    rintro e w1 ⟨rfl, hb⟩
    obtain ⟨hc1, hf1⟩ := bcell hb
    have hz1 : w.heap.size + 3 ≤ w1.heap.size := by have := hb.size; simp at this; omega
    have z1 : w.heap.size < w1.heap.size := by omega
    have z2 : w.heap.size + 1 < w1.heap.size := by omega
    have z3 : w.heap.size + 1 + 1 < w1.heap.size := by omega
    have HB := Lib.hid (((((Below.refl w.heap.size w).alloc (Nat.le_refl _) _).alloc (by simp) _).alloc (by simp; omega) _).trans (hb.mono (by simp; omega)))
    clear hb
    go_wp2_with fail
    refine (J2.out _).mono ?_
    rintro e w2 ⟨rfl, hb⟩
    obtain ⟨hc2, hf2⟩ := bcell hb
    have hz2 : w.heap.size + 3 ≤ w2.heap.size := by have := hb.size; omega
    have y1 : w.heap.size < w2.heap.size := by omega
    have y2 : w.heap.size + 1 < w2.heap.size := by omega
    have y3 : w.heap.size + 1 + 1 < w2.heap.size := by omega
    have HB := Lib.hid (below_of HB.out hb (by omega))
    clear hb
    go_wp2_with fail
    exact bodyPost_ret (v := .tuple #[.agg #[.string ⟨#[]⟩, .string ⟨#[]⟩, .bool false], .int .i64 _]) (by simp [results, Try.results29, go_sem, hc1, hf1, z1, z2, z3, hc2, hf2, y1, y2, y3]) rfl ⟨rfl, by first | exact set3 HB.out (by omega) _ _ _ | exact HB.out⟩

set_option maxRecDepth 100000 in
set_option maxHeartbeats 2000000 in
theorem rMeet_err1 (lo hi : ByteArray) (b : Bool) (lo2 hi2 : ByteArray) (b2 : Bool) (w : World) (h1 : lo.size ≤ 9223372036854775807) (h2 : hi.size ≤ 9223372036854775807) (h3 : lo2.size ≤ 9223372036854775807) (h4 : hi2.size ≤ 9223372036854775807) (hc : ¬ chkR lo hi b = 0) :
    Calls Try.prog 30 #[.agg #[.string lo, .string hi, .bool b], .agg #[.string lo2, .string hi2, .bool b2]] w fun e w' => e = .returned (.tuple #[.agg #[.string (meetV lo hi b lo2 hi2 b2).1, .string (meetV lo hi b lo2 hi2 b2).2.1, .bool (meetV lo hi b lo2 hi2 b2).2.2], .int .i64 (mErr lo hi b lo2 hi2 b2)]) ∧ Below w.heap.size w w' := by
  have K1 := fun w => rCheckRange_any lo hi b w h1 h2
  have HE : mErr lo hi b lo2 hi2 b2 = chkR lo hi b := by unfold mErr; rw [if_pos hc]
  have HV : Hid (meetV lo hi b lo2 hi2 b2 = (⟨#[]⟩, ⟨#[]⟩, false)) := Lib.hid (by unfold meetV; rw [HE, if_neg hc])
  rw [HV.out, HE]
  dsimp only
  rcases chkR_ne hc with h36 | h36
  all_goals
    rw [h36] at K1 ⊢
    have J1 := Lib.hid K1
    clear K1 hc h36 HE
    go_enter Try.func30, Try.ntmps30
    go_wp2_with fail
    refine (J1.out _).mono ?_
    rintro e w1 ⟨rfl, hb⟩
    obtain ⟨hc1, hf1⟩ := bcell hb
    have hz1 : w.heap.size + 3 ≤ w1.heap.size := by have := hb.size; simp at this; omega
    have z1 : w.heap.size < w1.heap.size := by omega
    have z2 : w.heap.size + 1 < w1.heap.size := by omega
    have z3 : w.heap.size + 1 + 1 < w1.heap.size := by omega
    have HB := Lib.hid (((((Below.refl w.heap.size w).alloc (Nat.le_refl _) _).alloc (by simp) _).alloc (by simp; omega) _).trans (hb.mono (by simp; omega)))
    clear hb
    go_wp2_with fail
    exact bodyPost_ret (v := .tuple #[.agg #[.string ⟨#[]⟩, .string ⟨#[]⟩, .bool false], .int .i64 _]) (by simp [results, Try.results30, go_sem, hc1, hf1, z1, z2, z3]) rfl ⟨rfl, by first | exact set3 HB.out (by omega) _ _ _ | exact HB.out⟩

set_option maxRecDepth 100000 in
set_option maxHeartbeats 2000000 in
theorem rMeet_err2 (lo hi : ByteArray) (b : Bool) (lo2 hi2 : ByteArray) (b2 : Bool) (w : World) (h1 : lo.size ≤ 9223372036854775807) (h2 : hi.size ≤ 9223372036854775807) (h3 : lo2.size ≤ 9223372036854775807) (h4 : hi2.size ≤ 9223372036854775807) (hc : chkR lo hi b = 0) (hd : ¬ chkR lo2 hi2 b2 = 0) :
    Calls Try.prog 30 #[.agg #[.string lo, .string hi, .bool b], .agg #[.string lo2, .string hi2, .bool b2]] w fun e w' => e = .returned (.tuple #[.agg #[.string (meetV lo hi b lo2 hi2 b2).1, .string (meetV lo hi b lo2 hi2 b2).2.1, .bool (meetV lo hi b lo2 hi2 b2).2.2], .int .i64 (mErr lo hi b lo2 hi2 b2)]) ∧ Below w.heap.size w w' := by
  have K1 := fun w => rCheckRange_any lo hi b w h1 h2
  have K2 := fun w => rCheckRange_any lo2 hi2 b2 w h3 h4
  have HE : mErr lo hi b lo2 hi2 b2 = chkR lo2 hi2 b2 := by unfold mErr; rw [if_neg (by simpa using hc)]
  have HV : Hid (meetV lo hi b lo2 hi2 b2 = (⟨#[]⟩, ⟨#[]⟩, false)) := Lib.hid (by unfold meetV; rw [HE, if_neg hd])
  rw [HV.out, HE]
  dsimp only
  rw [hc] at K1
  rcases chkR_ne hd with h36 | h36
  all_goals
    rw [h36] at K2 ⊢
    have J1 := Lib.hid K1
    have J2 := Lib.hid K2
    clear K1 K2 hc hd h36 HE
    go_enter Try.func30, Try.ntmps30
    go_wp2_with fail
    refine (J1.out _).mono ?_
    rintro e w1 ⟨rfl, hb⟩
    obtain ⟨hc1, hf1⟩ := bcell hb
    have hz1 : w.heap.size + 3 ≤ w1.heap.size := by have := hb.size; simp at this; omega
    have z1 : w.heap.size < w1.heap.size := by omega
    have z2 : w.heap.size + 1 < w1.heap.size := by omega
    have z3 : w.heap.size + 1 + 1 < w1.heap.size := by omega
    have HB := Lib.hid (((((Below.refl w.heap.size w).alloc (Nat.le_refl _) _).alloc (by simp) _).alloc (by simp; omega) _).trans (hb.mono (by simp; omega)))
    clear hb
    go_wp2_with fail
    refine (J2.out _).mono ?_
    rintro e w2 ⟨rfl, hb⟩
    obtain ⟨hc2, hf2⟩ := bcell hb
    have hz2 : w.heap.size + 3 ≤ w2.heap.size := by have := hb.size; omega
    have y1 : w.heap.size < w2.heap.size := by omega
    have y2 : w.heap.size + 1 < w2.heap.size := by omega
    have y3 : w.heap.size + 1 + 1 < w2.heap.size := by omega
    have HB := Lib.hid (below_of HB.out hb (by omega))
    clear hb
    go_wp2_with fail
    exact bodyPost_ret (v := .tuple #[.agg #[.string ⟨#[]⟩, .string ⟨#[]⟩, .bool false], .int .i64 _]) (by simp [results, Try.results30, go_sem, hc1, hf1, z1, z2, z3, hc2, hf2, y1, y2, y3]) rfl ⟨rfl, by first | exact set3 HB.out (by omega) _ _ _ | exact HB.out⟩

set_option maxRecDepth 100000 in
set_option maxHeartbeats 4000000 in
theorem kMeet_ok (lo hi : ByteArray) (b : Bool) (lo2 hi2 : ByteArray) (b2 : Bool) (w : World) (h1 : lo.size ≤ 9223372036854775807) (h2 : hi.size ≤ 9223372036854775807) (h3 : lo2.size ≤ 9223372036854775807) (h4 : hi2.size ≤ 9223372036854775807) (hc : chkR lo hi b = 0) (hd : chkR lo2 hi2 b2 = 0) :
    Calls Try.prog 29 #[.agg #[.string lo, .string hi, .bool b], .agg #[.string lo2, .string hi2, .bool b2]] w fun e w' => e = .returned (.tuple #[.agg #[.string (meetV lo hi b lo2 hi2 b2).1, .string (meetV lo hi b lo2 hi2 b2).2.1, .bool (meetV lo hi b lo2 hi2 b2).2.2], .int .i64 (mErr lo hi b lo2 hi2 b2)]) ∧ Below w.heap.size w w' := by
  have K1 := fun w => kCheckRange_any lo hi b w h1 h2
  have K2 := fun w => kCheckRange_any lo2 hi2 b2 w h3 h4
  have HE : mErr lo hi b lo2 hi2 b2 = 0 := by unfold mErr; rw [if_neg (by simpa using hc), hd]
  have HV : Hid (meetV lo hi b lo2 hi2 b2 = (mLo lo lo2, mHi hi b hi2 b2, mB hi b hi2 b2)) := Lib.hid (by unfold meetV; rw [HE, if_pos rfl])
  rw [HV.out, HE]
  dsimp only
  rw [hc] at K1
  rw [hd] at K2
  have J1 := Lib.hid K1
  have J2 := Lib.hid K2
  have hmx := max_run lo lo2
  obtain ⟨lm, hlm⟩ : ∃ lm, mLo lo lo2 = lm := ⟨_, rfl⟩
  rw [hlm] at hmx ⊢
  have e2 : Op.bytesLess hi2.toList hi.toList = Kl.lt (Kl.L hi2) (Kl.L hi) := by rw [bytesLess_lt, toList_L, toList_L]
  clear K1 K2 hc hd HE HV hlm
  cases p : Kl.lt (Kl.L hi2) (Kl.L hi) <;> cases b <;> cases b2
  all_goals
    have P := Lib.hid p
    rw [p] at e2
    simp only [mHi, mB, mTake, p, Bool.true_and, Bool.false_and, Bool.not_true, Bool.not_false, Bool.or_true, Bool.true_or, Bool.false_or, Bool.and_true, Bool.false_eq_true, if_true, if_false]
    clear p
    go_enter Try.func29, Try.ntmps29
    go_wp2_with fail
    refine (J1.out _).mono ?_
    rintro e w1 ⟨rfl, hb⟩
    obtain ⟨hc1, hf1⟩ := bcell hb
    have hz1 : w.heap.size + 3 ≤ w1.heap.size := by have := hb.size; simp at this; omega
    have z1 : w.heap.size < w1.heap.size := by omega
    have z2 : w.heap.size + 1 < w1.heap.size := by omega
    have z3 : w.heap.size + 1 + 1 < w1.heap.size := by omega
    have HB := Lib.hid (((((Below.refl w.heap.size w).alloc (Nat.le_refl _) _).alloc (by simp) _).alloc (by simp; omega) _).trans (hb.mono (by simp; omega)))
    clear hb
    go_wp2_with fail
    refine (J2.out _).mono ?_
    rintro e w2 ⟨rfl, hb⟩
    obtain ⟨hc2, hf2⟩ := bcell hb
    have hz2 : w.heap.size + 3 ≤ w2.heap.size := by have := hb.size; omega
    have y1 : w.heap.size < w2.heap.size := by omega
    have y2 : w.heap.size + 1 < w2.heap.size := by omega
    have y3 : w.heap.size + 1 + 1 < w2.heap.size := by omega
    have HB := Lib.hid (below_of HB.out hb (by omega))
    clear hb
    go_wp2_with fail
    exact bodyPost_ret (v := .tuple #[.agg #[.string lm, .string _, .bool _], .int .i64 0]) (by simp [results, Try.results29, go_sem, hc1, hf1, z1, z2, z3, hc2, hf2, y1, y2, y3]) rfl ⟨rfl, (set3 HB.out (by omega) _ _ _).alloc (by simp; omega) _⟩
end Go.Proofs.Ytgljgjkoaaibnaa.KK
