/-
  Plain functions, joined into one text.
-/
import Derived.Test.YtjnbdeahmbkbnaaQb
import Derived.Laws.Rows
/-
  Contracts of Of, on both sides.
-/
namespace Go.Proofs.Ytjnbdeahmbkbnaa.KK
open Go.ChangeShapes Go.WideShapes Go.ChangeAt Go.RowKit Go.Proofs

theorem bcell {W w1 : World} (hb : Below W.heap.size W w1) : (∀ b o, b < W.heap.size → w1.cell? ⟨b, o, none⟩ = W.cell? ⟨b, o, none⟩) ∧ (∀ b o, b < W.heap.size → w1.frozen? ⟨b, o, none⟩ = W.frozen? ⟨b, o, none⟩) :=
  ⟨fun b o h => hb.cell (p := ⟨b, o, none⟩) h, fun b o h => hb.frozen (p := ⟨b, o, none⟩) h⟩
/-- what Of answers: the range's ends, whether it is bound, and the error -/
def ofHi (l : List UInt8) : List UInt8 := if l.length ≤ 32 then (Kl.rai l).getD [] else []
def ofB (l : List UInt8) : Bool := if l.length ≤ 32 then (Kl.rai l).isSome else false
def ofLo (l : List UInt8) : List UInt8 := if l.length ≤ 32 then l else []

theorem set3 {B : Nat} {w w1 : World} {g : Nat} (h : Below B w w1) (hg : B ≤ g) (a b c : Value) : Below B w (((w1.setCell ⟨g, 0, none⟩ a).setCell ⟨g, 1, none⟩ b).setCell ⟨g, 2, none⟩ c) :=
  ((h.setCell hg _).setCell hg _).setCell hg _

end Go.Proofs.Ytjnbdeahmbkbnaa.KK

/-
  Contracts of Meet, on both sides.
-/
namespace Go.Proofs.Ytjnbdeahmbkbnaa.KK
open Go.ChangeShapes Go.WideShapes Go.ChangeAt Go.RowKit Go.Proofs

def mErr (lo hi : ByteArray) (b : Bool) (lo2 hi2 : ByteArray) (b2 : Bool) : Int := if chkR lo hi b ≠ 0 then chkR lo hi b else chkR lo2 hi2 b2
def mLo (lo lo2 : ByteArray) : ByteArray := if Kl.lt (Kl.L lo) (Kl.L lo2) then lo2 else lo
def mTake (hi : ByteArray) (b : Bool) (hi2 : ByteArray) (b2 : Bool) : Bool := b2 && (!b || Kl.lt (Kl.L hi2) (Kl.L hi))
def mHi (hi : ByteArray) (b : Bool) (hi2 : ByteArray) (b2 : Bool) : ByteArray := if mTake hi b hi2 b2 then hi2 else hi
def mB (hi : ByteArray) (b : Bool) (hi2 : ByteArray) (b2 : Bool) : Bool := if mTake hi b hi2 b2 then true else b
/-- the range that Meet answers -/
def meetV (lo hi : ByteArray) (b : Bool) (lo2 hi2 : ByteArray) (b2 : Bool) : ByteArray × ByteArray × Bool :=
  if mErr lo hi b lo2 hi2 b2 = 0 then (mLo lo lo2, mHi hi b hi2 b2, mB hi b hi2 b2) else (⟨#[]⟩, ⟨#[]⟩, false)
theorem max_run (lo lo2 : ByteArray) : ∀ (w : World) (ts : Array TypeId) (t : TypeId), (Builtin.max_ ts t #[.string lo, .string lo2]).run Try.prog w = .ok (.string (mLo lo lo2)) w := by
  intro w ts t
  rw [Lib.run_max_strs]
  unfold Lib.maxS mLo
  by_cases h : lo.data.toList < lo2.data.toList
  · rw [if_pos h, if_pos (show Kl.lt (Kl.L lo) (Kl.L lo2) = true from (Kl.lt_iff _ _).1 h)]
  · rw [if_neg h, if_neg (show ¬ Kl.lt (Kl.L lo) (Kl.L lo2) = true from fun g => h ((Kl.lt_iff _ _).2 g))]

set_option maxRecDepth 100000 in
set_option maxHeartbeats 2000000 in
theorem kMeet_err1 (lo hi : ByteArray) (b : Bool) (lo2 hi2 : ByteArray) (b2 : Bool) (w : World) (h1 : lo.size ≤ 9223372036854775807) (h2 : hi.size ≤ 9223372036854775807) (h3 : lo2.size ≤ 9223372036854775807) (h4 : hi2.size ≤ 9223372036854775807) (hc : ¬ chkR lo hi b = 0) :
    Calls Try.prog 44 #[.agg #[.string lo, .string hi, .bool b], .agg #[.string lo2, .string hi2, .bool b2]] w fun e w' => e = .returned (.tuple #[.agg #[.string (meetV lo hi b lo2 hi2 b2).1, .string (meetV lo hi b lo2 hi2 b2).2.1, .bool (meetV lo hi b lo2 hi2 b2).2.2], .int .i64 (mErr lo hi b lo2 hi2 b2)]) ∧ Below w.heap.size w w' := by
  have K1 := fun w => kCheckRange_any lo hi b w h1 h2
  have HE : mErr lo hi b lo2 hi2 b2 = chkR lo hi b := by unfold mErr; rw [if_pos hc]
  have HV : Hid (meetV lo hi b lo2 hi2 b2 = (⟨#[]⟩, ⟨#[]⟩, false)) := Lib.hid (by unfold meetV; rw [HE, if_neg hc])
  rw [HV.out, HE]
  dsimp only
  rcases chkR_ne hc with h36 | h36
  all_goals
    rw [h36] at K1 ⊢
    have J1 := Lib.hid K1
    clear K1 hc h36 HE
    go_enter Try.func44, Try.ntmps44
    go_wp2_with fail
    refine (J1.out _).mono ?_
    rintro e w1 ⟨rfl, hb⟩
    obtain ⟨hc1, hf1⟩ := bcell hb
    have hz1 : w.heap.size + 3 ≤ w1.heap.size := by have := hb.size; simp at this; omega
    have z1 : w.heap.size < w1.heap.size := by omega
    have z2 : w.heap.size + 1 < w1.heap.size := by omega
    have z3 : w.heap.size + 1 + 1 < w1.heap.size := by omega
    have HB := Lib.hid (((((Below.refl w.heap.size w).alloc (Nat.le_refl _) _).alloc (by simp) _).alloc (by simp; omega) _).trans (hb.mono (by simp; omega)))
    clear hb
    go_wp2_with fail
    exact bodyPost_ret (v := .tuple #[.agg #[.string ⟨#[]⟩, .string ⟨#[]⟩, .bool false], .int .i64 _]) (by simp [results, Try.results44, go_sem, hc1, hf1, z1, z2, z3]) rfl ⟨rfl, by first | exact set3 HB.out (by omega) _ _ _ | exact HB.out⟩

set_option maxRecDepth 100000 in
set_option maxHeartbeats 2000000 in
theorem kMeet_err2 (lo hi : ByteArray) (b : Bool) (lo2 hi2 : ByteArray) (b2 : Bool) (w : World) (h1 : lo.size ≤ 9223372036854775807) (h2 : hi.size ≤ 9223372036854775807) (h3 : lo2.size ≤ 9223372036854775807) (h4 : hi2.size ≤ 9223372036854775807) (hc : chkR lo hi b = 0) (hd : ¬ chkR lo2 hi2 b2 = 0) :
    Calls Try.prog 44 #[.agg #[.string lo, .string hi, .bool b], .agg #[.string lo2, .string hi2, .bool b2]] w fun e w' => e = .returned (.tuple #[.agg #[.string (meetV lo hi b lo2 hi2 b2).1, .string (meetV lo hi b lo2 hi2 b2).2.1, .bool (meetV lo hi b lo2 hi2 b2).2.2], .int .i64 (mErr lo hi b lo2 hi2 b2)]) ∧ Below w.heap.size w w' := by
  have K1 := fun w => kCheckRange_any lo hi b w h1 h2
  have K2 := fun w => kCheckRange_any lo2 hi2 b2 w h3 h4
  have HE : mErr lo hi b lo2 hi2 b2 = chkR lo2 hi2 b2 := by unfold mErr; rw [if_neg (by simpa using hc)]
  have HV : Hid (meetV lo hi b lo2 hi2 b2 = (⟨#[]⟩, ⟨#[]⟩, false)) := Lib.hid (by unfold meetV; rw [HE, if_neg hd])
  rw [HV.out, HE]
  dsimp only
  rw [hc] at K1
  rcases chkR_ne hd with h36 | h36
  all_goals
    rw [h36] at K2 ⊢
    have J1 := Lib.hid K1
    have J2 := Lib.hid K2
    clear K1 K2 hc hd h36 HE
    go_enter Try.func44, Try.ntmps44
    go_wp2_with fail
    refine (J1.out _).mono ?_
    rintro e w1 ⟨rfl, hb⟩
    obtain ⟨hc1, hf1⟩ := bcell hb
    have hz1 : w.heap.size + 3 ≤ w1.heap.size := by have := hb.size; simp at this; omega
    have z1 : w.heap.size < w1.heap.size := by omega
    have z2 : w.heap.size + 1 < w1.heap.size := by omega
    have z3 : w.heap.size + 1 + 1 < w1.heap.size := by omega
    have HB := Lib.hid (((((Below.refl w.heap.size w).alloc (Nat.le_refl _) _).alloc (by simp) _).alloc (by simp; omega) _).trans (hb.mono (by simp; omega)))
    clear hb
    go_wp2_with fail
    refine (J2.out _).mono ?_
    rintro e w2 ⟨rfl, hb⟩
    obtain ⟨hc2, hf2⟩ := bcell hb
    have hz2 : w.heap.size + 3 ≤ w2.heap.size := by have := hb.size; omega
    have y1 : w.heap.size < w2.heap.size := by omega
    have y2 : w.heap.size + 1 < w2.heap.size := by omega
    have y3 : w.heap.size + 1 + 1 < w2.heap.size := by omega
    have HB := Lib.hid (below_of HB.out hb (by omega))
    clear hb
    go_wp2_with fail
    exact bodyPost_ret (v := .tuple #[.agg #[.string ⟨#[]⟩, .string ⟨#[]⟩, .bool false], .int .i64 _]) (by simp [results, Try.results44, go_sem, hc1, hf1, z1, z2, z3, hc2, hf2, y1, y2, y3]) rfl ⟨rfl, by first | exact set3 HB.out (by omega) _ _ _ | exact HB.out⟩

set_option maxRecDepth 100000 in
set_option maxHeartbeats 2000000 in
theorem rMeet_err1 (lo hi : ByteArray) (b : Bool) (lo2 hi2 : ByteArray) (b2 : Bool) (w : World) (h1 : lo.size ≤ 9223372036854775807) (h2 : hi.size ≤ 9223372036854775807) (h3 : lo2.size ≤ 9223372036854775807) (h4 : hi2.size ≤ 9223372036854775807) (hc : ¬ chkR lo hi b = 0) :
    Calls Try.prog 31 #[.agg #[.string lo, .string hi, .bool b], .agg #[.string lo2, .string hi2, .bool b2]] w fun e w' => e = .returned (.tuple #[.agg #[.string (meetV lo hi b lo2 hi2 b2).1, .string (meetV lo hi b lo2 hi2 b2).2.1, .bool (meetV lo hi b lo2 hi2 b2).2.2], .int .i64 (mErr lo hi b lo2 hi2 b2)]) ∧ Below w.heap.size w w' := by
  have K1 := fun w => rCheckRange_any lo hi b w h1 h2
  have HE : mErr lo hi b lo2 hi2 b2 = chkR lo hi b := by unfold mErr; rw [if_pos hc]
  have HV : Hid (meetV lo hi b lo2 hi2 b2 = (⟨#[]⟩, ⟨#[]⟩, false)) := Lib.hid (by unfold meetV; rw [HE, if_neg hc])
  rw [HV.out, HE]
  dsimp only
  rcases chkR_ne hc with h36 | h36
  all_goals
    rw [h36] at K1 ⊢
    have J1 := Lib.hid K1
    clear K1 hc h36 HE
    go_enter Try.func31, Try.ntmps31
    go_wp2_with fail
    refine (J1.out _).mono ?_
    rintro e w1 ⟨rfl, hb⟩
    obtain ⟨hc1, hf1⟩ := bcell hb
    have hz1 : w.heap.size + 3 ≤ w1.heap.size := by have := hb.size; simp at this; omega
    have z1 : w.heap.size < w1.heap.size := by omega
    have z2 : w.heap.size + 1 < w1.heap.size := by omega
    have z3 : w.heap.size + 1 + 1 < w1.heap.size := by omega
    have HB := Lib.hid (((((Below.refl w.heap.size w).alloc (Nat.le_refl _) _).alloc (by simp) _).alloc (by simp; omega) _).trans (hb.mono (by simp; omega)))
    clear hb
    go_wp2_with fail
    exact bodyPost_ret (v := .tuple #[.agg #[.string ⟨#[]⟩, .string ⟨#[]⟩, .bool false], .int .i64 _]) (by simp [results, Try.results31, go_sem, hc1, hf1, z1, z2, z3]) rfl ⟨rfl, by first | exact set3 HB.out (by omega) _ _ _ | exact HB.out⟩

set_option maxRecDepth 100000 in
set_option maxHeartbeats 2000000 in
theorem rMeet_err2 (lo hi : ByteArray) (b : Bool) (lo2 hi2 : ByteArray) (b2 : Bool) (w : World) (h1 : lo.size ≤ 9223372036854775807) (h2 : hi.size ≤ 9223372036854775807) (h3 : lo2.size ≤ 9223372036854775807) (h4 : hi2.size ≤ 9223372036854775807) (hc : chkR lo hi b = 0) (hd : ¬ chkR lo2 hi2 b2 = 0) :
    Calls Try.prog 31 #[.agg #[.string lo, .string hi, .bool b], .agg #[.string lo2, .string hi2, .bool b2]] w fun e w' => e = .returned (.tuple #[.agg #[.string (meetV lo hi b lo2 hi2 b2).1, .string (meetV lo hi b lo2 hi2 b2).2.1, .bool (meetV lo hi b lo2 hi2 b2).2.2], .int .i64 (mErr lo hi b lo2 hi2 b2)]) ∧ Below w.heap.size w w' := by
  have K1 := fun w => rCheckRange_any lo hi b w h1 h2
  have K2 := fun w => rCheckRange_any lo2 hi2 b2 w h3 h4
  have HE : mErr lo hi b lo2 hi2 b2 = chkR lo2 hi2 b2 := by unfold mErr; rw [if_neg (by simpa using hc)]
  have HV : Hid (meetV lo hi b lo2 hi2 b2 = (⟨#[]⟩, ⟨#[]⟩, false)) := Lib.hid (by unfold meetV; rw [HE, if_neg hd])
  rw [HV.out, HE]
  dsimp only
  rw [hc] at K1
  rcases chkR_ne hd with h36 | h36
  all_goals
    rw [h36] at K2 ⊢
    have J1 := Lib.hid K1
    have J2 := Lib.hid K2
    clear K1 K2 hc hd h36 HE
    go_enter Try.func31, Try.ntmps31
    go_wp2_with fail
    refine (J1.out _).mono ?_
    rintro e w1 ⟨rfl, hb⟩
    obtain ⟨hc1, hf1⟩ := bcell hb
    have hz1 : w.heap.size + 3 ≤ w1.heap.size := by have := hb.size; simp at this; omega
    have z1 : w.heap.size < w1.heap.size := by omega
    have z2 : w.heap.size + 1 < w1.heap.size := by omega
    have z3 : w.heap.size + 1 + 1 < w1.heap.size := by omega
    have HB := Lib.hid (((((Below.refl w.heap.size w).alloc (Nat.le_refl _) _).alloc (by simp) _).alloc (by simp; omega) _).trans (hb.mono (by simp; omega)))
    clear hb
    go_wp2_with fail
    refine (J2.out _).mono ?_
    rintro e w2 ⟨rfl, hb⟩
    obtain ⟨hc2, hf2⟩ := bcell hb
    have hz2 : w.heap.size + 3 ≤ w2.heap.size := by have := hb.size; omega
    have y1 : w.heap.size < w2.heap.size := by omega
    have y2 : w.heap.size + 1 < w2.heap.size := by omega
    have y3 : w.heap.size + 1 + 1 < w2.heap.size := by omega
    have HB := Lib.hid (below_of HB.out hb (by omega))
    clear hb
    go_wp2_with fail
    exact bodyPost_ret (v := .tuple #[.agg #[.string ⟨#[]⟩, .string ⟨#[]⟩, .bool false], .int .i64 _]) (by simp [results, Try.results31, go_sem, hc1, hf1, z1, z2, z3, hc2, hf2, y1, y2, y3]) rfl ⟨rfl, by first | exact set3 HB.out (by omega) _ _ _ | exact HB.out⟩

set_option maxRecDepth 100000 in
set_option maxHeartbeats 4000000 in
theorem kMeet_ok (lo hi : ByteArray) (b : Bool) (lo2 hi2 : ByteArray) (b2 : Bool) (w : World) (h1 : lo.size ≤ 9223372036854775807) (h2 : hi.size ≤ 9223372036854775807) (h3 : lo2.size ≤ 9223372036854775807) (h4 : hi2.size ≤ 9223372036854775807) (hc : chkR lo hi b = 0) (hd : chkR lo2 hi2 b2 = 0) :
    Calls Try.prog 44 #[.agg #[.string lo, .string hi, .bool b], .agg #[.string lo2, .string hi2, .bool b2]] w fun e w' => e = .returned (.tuple #[.agg #[.string (meetV lo hi b lo2 hi2 b2).1, .string (meetV lo hi b lo2 hi2 b2).2.1, .bool (meetV lo hi b lo2 hi2 b2).2.2], .int .i64 (mErr lo hi b lo2 hi2 b2)]) ∧ Below w.heap.size w w' := by
  have K1 := fun w => kCheckRange_any lo hi b w h1 h2
  have K2 := fun w => kCheckRange_any lo2 hi2 b2 w h3 h4
  have HE : mErr lo hi b lo2 hi2 b2 = 0 := by unfold mErr; rw [if_neg (by simpa using hc), hd]
  have HV : Hid (meetV lo hi b lo2 hi2 b2 = (mLo lo lo2, mHi hi b hi2 b2, mB hi b hi2 b2)) := Lib.hid (by unfold meetV; rw [HE, if_pos rfl])
  rw [HV.out, HE]
  dsimp only
  rw [hc] at K1
  rw [hd] at K2
  have J1 := Lib.hid K1
  have J2 := Lib.hid K2
  have hmx := max_run lo lo2
  obtain ⟨lm, hlm⟩ : ∃ lm, mLo lo lo2 = lm := ⟨_, rfl⟩
  rw [hlm] at hmx ⊢
  have e2 : Op.bytesLess hi2.toList hi.toList = Kl.lt (Kl.L hi2) (Kl.L hi) := by rw [bytesLess_lt, toList_L, toList_L]
  clear K1 K2 hc hd HE HV hlm
  cases p : Kl.lt (Kl.L hi2) (Kl.L hi) <;> cases b <;> cases b2
  all_goals
    have P := Lib.hid p
    rw [p] at e2
    simp only [mHi, mB, mTake, p, Bool.true_and, Bool.false_and, Bool.not_true, Bool.not_false, Bool.or_true, Bool.true_or, Bool.false_or, Bool.and_true, Bool.false_eq_true, if_true, if_false]
    clear p
    go_enter Try.func44, Try.ntmps44
    go_wp2_with fail
    refine (J1.out _).mono ?_
    rintro e w1 ⟨rfl, hb⟩
    obtain ⟨hc1, hf1⟩ := bcell hb
    have hz1 : w.heap.size + 3 ≤ w1.heap.size := by have := hb.size; simp at this; omega
    have z1 : w.heap.size < w1.heap.size := by omega
    have z2 : w.heap.size + 1 < w1.heap.size := by omega
    have z3 : w.heap.size + 1 + 1 < w1.heap.size := by omega
    have HB := Lib.hid (((((Below.refl w.heap.size w).alloc (Nat.le_refl _) _).alloc (by simp) _).alloc (by simp; omega) _).trans (hb.mono (by simp; omega)))
    clear hb
    go_wp2_with fail
    refine (J2.out _).mono ?_
    rintro e w2 ⟨rfl, hb⟩
    obtain ⟨hc2, hf2⟩ := bcell hb
    have hz2 : w.heap.size + 3 ≤ w2.heap.size := by have := hb.size; omega
    have y1 : w.heap.size < w2.heap.size := by omega
    have y2 : w.heap.size + 1 < w2.heap.size := by omega
    have y3 : w.heap.size + 1 + 1 < w2.heap.size := by omega
    have HB := Lib.hid (below_of HB.out hb (by omega))
    clear hb
    go_wp2_with fail
    exact bodyPost_ret (v := .tuple #[.agg #[.string lm, .string _, .bool _], .int .i64 0]) (by simp [results, Try.results44, go_sem, hc1, hf1, z1, z2, z3, hc2, hf2, y1, y2, y3]) rfl ⟨rfl, (set3 HB.out (by omega) _ _ _).alloc (by simp; omega) _⟩
end Go.Proofs.Ytjnbdeahmbkbnaa.KK

/-
  The contract of the reference's Meet, where both ranges are ranges.
-/
namespace Go.Proofs.Ytjnbdeahmbkbnaa.KK
open Go.ChangeShapes Go.WideShapes Go.ChangeAt Go.RowKit Go.Proofs

theorem row3 {w : World} {g : Nat} {a b c : Value} {t : TypeId} (h : w.heap[g]? = some (.cells #[a, b, c] t (0, 0))) :
    w.cell? ⟨g, 0, none⟩ = some a ∧ w.cell? ⟨g, 1, none⟩ = some b ∧ w.cell? ⟨g, 2, none⟩ = some c ∧ w.frozen? ⟨g, 0, none⟩ = false ∧ w.frozen? ⟨g, 1, none⟩ = false ∧ w.frozen? ⟨g, 2, none⟩ = false :=
  ⟨cell_of_row w g 0 _ _ _ h, cell_of_row w g 1 _ _ _ h, cell_of_row w g 2 _ _ _ h, frozen_of_row w g 0 _ _ h, frozen_of_row w g 1 _ _ h, frozen_of_row w g 2 _ _ h⟩
theorem lt_of_row {w : World} {g : Nat} {o : Obj} (h : w.heap[g]? = some o) : g < w.heap.size := (Array.getElem?_eq_some_iff.1 h).1
theorem row_below {w w1 : World} {g : Nat} {o : Obj} (h : w.heap[g]? = some o) (hb : Below w.heap.size w w1) : w1.heap[g]? = some o := by
  rw [hb.block g (lt_of_row h)]; exact h
theorem row_old {w w1 : World} {g : Nat} {o o' : Obj} (h : w.heap[g]? = some o) (hb : Below (w.alloc o').heap.size (w.alloc o') w1) : w1.heap[g]? = some o := by
  have hl := lt_of_row h
  rw [hb.block g (by simp; omega), ((Below.refl w.heap.size w).alloc (Nat.le_refl _) o').block g hl]; exact h
theorem row_new {w w1 : World} {cs : Array Value} {t : TypeId} {fr : Nat × Nat} (hb : Below (w.alloc (.cells cs t fr)).heap.size (w.alloc (.cells cs t fr)) w1) : w1.heap[w.heap.size]? = some (.cells cs t fr) := by
  rw [hb.block w.heap.size (by simp)]; exact heap_alloc_new w _
theorem rows3 {w w1 : World} {r s z : Obj} (hb : Below (((w.alloc r).alloc s).alloc z).heap.size (((w.alloc r).alloc s).alloc z) w1) :
    w1.heap[w.heap.size]? = some r ∧ w1.heap[w.heap.size + 1]? = some s ∧ w1.heap[w.heap.size + 1 + 1]? = some z := by
  have h0 := heap_alloc_new w r
  have h1 := heap_alloc_new (w.alloc r) s
  have h2 := heap_alloc_new ((w.alloc r).alloc s) z
  rw [show (w.alloc r).heap.size = w.heap.size + 1 by simp] at h1
  rw [show ((w.alloc r).alloc s).heap.size = w.heap.size + 1 + 1 by simp] at h2
  have a0 := row_below h0 ((Below.refl _ _).alloc (Nat.le_refl _) s)
  have a1 := row_below a0 ((Below.refl _ _).alloc (Nat.le_refl _) z)
  have b1 := row_below h1 ((Below.refl _ _).alloc (Nat.le_refl _) z)
  exact ⟨row_below a1 hb, row_below b1 hb, row_below h2 hb⟩

set_option maxRecDepth 100000 in
set_option maxHeartbeats 4000000 in
theorem rMeet_ok_kept_false_false (lo hi : ByteArray) (lo2 hi2 : ByteArray) (w : World) (h1 : lo.size ≤ 9223372036854775807) (h2 : hi.size ≤ 9223372036854775807) (h3 : lo2.size ≤ 9223372036854775807) (h4 : hi2.size ≤ 9223372036854775807) (hc : chkR lo hi false = 0) (hd : chkR lo2 hi2 false = 0) (hlo : Kl.lt (Kl.L lo) (Kl.L lo2) = false) :
    Calls Try.prog 31 #[.agg #[.string lo, .string hi, .bool false], .agg #[.string lo2, .string hi2, .bool false]] w fun e w' => e = .returned (.tuple #[.agg #[.string (meetV lo hi false lo2 hi2 false).1, .string (meetV lo hi false lo2 hi2 false).2.1, .bool (meetV lo hi false lo2 hi2 false).2.2], .int .i64 (mErr lo hi false lo2 hi2 false)]) ∧ Below w.heap.size w w' := by
  have K1 := fun w => rCheckRange_any lo hi false w h1 h2
  have K2 := fun w => rCheckRange_any lo2 hi2 false w h3 h4
  have K3 := fun w => Order_any lo2 lo w h3 h1
  have HE : mErr lo hi false lo2 hi2 false = 0 := by unfold mErr; rw [if_neg (by simpa using hc), hd]
  have HV : Hid (meetV lo hi false lo2 hi2 false = (mLo lo lo2, mHi hi false hi2 false, mB hi false hi2 false)) := Lib.hid (by unfold meetV; rw [HE, if_pos rfl])
  have HL : mLo lo lo2 = lo := by unfold mLo; rw [hlo]; rfl
  rw [HV.out, HE, HL]
  dsimp only
  rw [hc] at K1
  rw [hd] at K2
  have J1 := Lib.hid K1
  have J2 := Lib.hid K2
  have hp := Kl.ord_pos (a := Kl.L lo2) (b := Kl.L lo)
  obtain ⟨o, ho⟩ : ∃ o, Kl.ord (Kl.L lo2) (Kl.L lo) = o := ⟨_, rfl⟩
  rw [ho] at K3 hp
  have J3 := Lib.hid K3
  have d1 : decide ((0 : Int) < o) = false := by rw [Bool.eq_iff_iff, decide_eq_true_iff, hp, hlo]
  clear K1 K2 K3 hc hd HE HV HL hp ho hlo
  all_goals
    simp only [mHi, mB, mTake, Bool.not_false, Bool.true_or, Bool.and_true, Bool.false_eq_true, if_false]
    go_enter Try.func31, Try.ntmps31
    go_wp2_with fail
    refine (J1.out _).mono ?_
    rintro e w1 ⟨rfl, hb⟩
    obtain ⟨R0, R1, R2⟩ := rows3 hb
    have HB := Lib.hid (((((Below.refl w.heap.size w).alloc (Nat.le_refl _) _).alloc (by simp) _).alloc (by simp; omega) _).trans (hb.mono (by simp; omega)))
    have l0 := lt_of_row R0
    have l1 := lt_of_row R1
    have l2 := lt_of_row R2
    clear hb
    obtain ⟨p0, p1, p2, p3, p4, p5⟩ := row3 R0
    obtain ⟨q0, q1, q2, q3, q4, q5⟩ := row3 R1
    obtain ⟨r0, r1, r2, r3, r4, r5⟩ := row3 R2
    go_wp2_with fail
    clear p0 p1 p2 p3 p4 p5 q0 q1 q2 q3 q4 q5 r0 r1 r2 r3 r4 r5
    refine (J2.out _).mono ?_
    rintro e w2 ⟨rfl, hb⟩
    have R0 := row_below R0 hb
    have R1 := row_below R1 hb
    have R2 := row_below R2 hb
    have HB := Lib.hid (below_of HB.out hb (by omega))
    have l0 := lt_of_row R0
    have l1 := lt_of_row R1
    have l2 := lt_of_row R2
    clear hb
    obtain ⟨p0, p1, p2, p3, p4, p5⟩ := row3 R0
    obtain ⟨q0, q1, q2, q3, q4, q5⟩ := row3 R1
    obtain ⟨r0, r1, r2, r3, r4, r5⟩ := row3 R2
    go_wp2_with fail
    clear p0 p1 p2 p3 p4 p5 q0 q1 q2 q3 q4 q5 r0 r1 r2 r3 r4 r5
    refine (J3.out _).mono ?_
    rintro e w3 ⟨rfl, hb⟩
    have R3 := row_new hb
    have R0 := row_old R0 hb
    have R1 := row_old R1 hb
    have R2 := row_old R2 hb
    have HB := Lib.hid ((HB.out.alloc (by omega) _).trans (hb.mono (by simp; omega)))
    have l3 := lt_of_row R3
    obtain ⟨g, hg⟩ : ∃ g, w2.heap.size = g := ⟨_, rfl⟩
    have m0 := lt_of_row R0
    have m1 := lt_of_row R1
    have m2 := lt_of_row R2
    rw [hg] at R3 l3 l2 l1 l0
    rw [hg]
    clear hb hg
    obtain ⟨p0, p1, p2, p3, p4, p5⟩ := row3 R0
    obtain ⟨q0, q1, q2, q3, q4, q5⟩ := row3 R1
    obtain ⟨r0, r1, r2, r3, r4, r5⟩ := row3 R2
    obtain ⟨s0, s1, s2, s3, s4, s5⟩ := row3 R3
    go_wp2_with fail
    have q := HB.out
    refine bodyPost_ret (v := .tuple #[.agg #[.string lo, .string _, .bool _], .int .i64 0]) (by simp [results, Try.results31, go_sem, r0, r1, r2]) rfl ⟨rfl, set3 ?_ (by omega) _ _ _⟩
    repeat' (first
      | (with_reducible exact q)
      | (with_reducible refine Below.setCell ?_ (by first | omega | (simp; omega)) _))

set_option maxRecDepth 100000 in
set_option maxHeartbeats 4000000 in
theorem rMeet_ok_kept_false_true (lo hi : ByteArray) (lo2 hi2 : ByteArray) (w : World) (h1 : lo.size ≤ 9223372036854775807) (h2 : hi.size ≤ 9223372036854775807) (h3 : lo2.size ≤ 9223372036854775807) (h4 : hi2.size ≤ 9223372036854775807) (hc : chkR lo hi false = 0) (hd : chkR lo2 hi2 true = 0) (hlo : Kl.lt (Kl.L lo) (Kl.L lo2) = false) :
    Calls Try.prog 31 #[.agg #[.string lo, .string hi, .bool false], .agg #[.string lo2, .string hi2, .bool true]] w fun e w' => e = .returned (.tuple #[.agg #[.string (meetV lo hi false lo2 hi2 true).1, .string (meetV lo hi false lo2 hi2 true).2.1, .bool (meetV lo hi false lo2 hi2 true).2.2], .int .i64 (mErr lo hi false lo2 hi2 true)]) ∧ Below w.heap.size w w' := by
  have K1 := fun w => rCheckRange_any lo hi false w h1 h2
  have K2 := fun w => rCheckRange_any lo2 hi2 true w h3 h4
  have K3 := fun w => Order_any lo2 lo w h3 h1
  have HE : mErr lo hi false lo2 hi2 true = 0 := by unfold mErr; rw [if_neg (by simpa using hc), hd]
  have HV : Hid (meetV lo hi false lo2 hi2 true = (mLo lo lo2, mHi hi false hi2 true, mB hi false hi2 true)) := Lib.hid (by unfold meetV; rw [HE, if_pos rfl])
  have HL : mLo lo lo2 = lo := by unfold mLo; rw [hlo]; rfl
  rw [HV.out, HE, HL]
  dsimp only
  rw [hc] at K1
  rw [hd] at K2
  have J1 := Lib.hid K1
  have J2 := Lib.hid K2
  have hp := Kl.ord_pos (a := Kl.L lo2) (b := Kl.L lo)
  obtain ⟨o, ho⟩ : ∃ o, Kl.ord (Kl.L lo2) (Kl.L lo) = o := ⟨_, rfl⟩
  rw [ho] at K3 hp
  have J3 := Lib.hid K3
  have d1 : decide ((0 : Int) < o) = false := by rw [Bool.eq_iff_iff, decide_eq_true_iff, hp, hlo]
  clear K1 K2 K3 hc hd HE HV HL hp ho hlo
  all_goals
    simp only [mHi, mB, mTake, Bool.not_false, Bool.true_or, Bool.and_true, if_true]
    go_enter Try.func31, Try.ntmps31
    go_wp2_with fail
    refine (J1.out _).mono ?_
    rintro e w1 ⟨rfl, hb⟩
    obtain ⟨R0, R1, R2⟩ := rows3 hb
    have HB := Lib.hid (((((Below.refl w.heap.size w).alloc (Nat.le_refl _) _).alloc (by simp) _).alloc (by simp; omega) _).trans (hb.mono (by simp; omega)))
    have l0 := lt_of_row R0
    have l1 := lt_of_row R1
    have l2 := lt_of_row R2
    clear hb
    obtain ⟨p0, p1, p2, p3, p4, p5⟩ := row3 R0
    obtain ⟨q0, q1, q2, q3, q4, q5⟩ := row3 R1
    obtain ⟨r0, r1, r2, r3, r4, r5⟩ := row3 R2
    go_wp2_with fail
    clear p0 p1 p2 p3 p4 p5 q0 q1 q2 q3 q4 q5 r0 r1 r2 r3 r4 r5
    refine (J2.out _).mono ?_
    rintro e w2 ⟨rfl, hb⟩
    have R0 := row_below R0 hb
    have R1 := row_below R1 hb
    have R2 := row_below R2 hb
    have HB := Lib.hid (below_of HB.out hb (by omega))
    have l0 := lt_of_row R0
    have l1 := lt_of_row R1
    have l2 := lt_of_row R2
    clear hb
    obtain ⟨p0, p1, p2, p3, p4, p5⟩ := row3 R0
    obtain ⟨q0, q1, q2, q3, q4, q5⟩ := row3 R1
    obtain ⟨r0, r1, r2, r3, r4, r5⟩ := row3 R2
    go_wp2_with fail
    clear p0 p1 p2 p3 p4 p5 q0 q1 q2 q3 q4 q5 r0 r1 r2 r3 r4 r5
    refine (J3.out _).mono ?_
    rintro e w3 ⟨rfl, hb⟩
    have R3 := row_new hb
    have R0 := row_old R0 hb
    have R1 := row_old R1 hb
    have R2 := row_old R2 hb
    have HB := Lib.hid ((HB.out.alloc (by omega) _).trans (hb.mono (by simp; omega)))
    have l3 := lt_of_row R3
    obtain ⟨g, hg⟩ : ∃ g, w2.heap.size = g := ⟨_, rfl⟩
    have m0 := lt_of_row R0
    have m1 := lt_of_row R1
    have m2 := lt_of_row R2
    rw [hg] at R3 l3 l2 l1 l0
    rw [hg]
    clear hb hg
    obtain ⟨p0, p1, p2, p3, p4, p5⟩ := row3 R0
    obtain ⟨q0, q1, q2, q3, q4, q5⟩ := row3 R1
    obtain ⟨r0, r1, r2, r3, r4, r5⟩ := row3 R2
    obtain ⟨s0, s1, s2, s3, s4, s5⟩ := row3 R3
    go_wp2_with fail
    have q := HB.out
    refine bodyPost_ret (v := .tuple #[.agg #[.string lo, .string _, .bool _], .int .i64 0]) (by simp [results, Try.results31, go_sem, r0, r1, r2]) rfl ⟨rfl, set3 ?_ (by omega) _ _ _⟩
    repeat' (first
      | (with_reducible exact q)
      | (with_reducible refine Below.setCell ?_ (by first | omega | (simp; omega)) _))

set_option maxRecDepth 100000 in
set_option maxHeartbeats 4000000 in
theorem rMeet_ok_kept_true_false (lo hi : ByteArray) (lo2 hi2 : ByteArray) (w : World) (h1 : lo.size ≤ 9223372036854775807) (h2 : hi.size ≤ 9223372036854775807) (h3 : lo2.size ≤ 9223372036854775807) (h4 : hi2.size ≤ 9223372036854775807) (hc : chkR lo hi true = 0) (hd : chkR lo2 hi2 false = 0) (hlo : Kl.lt (Kl.L lo) (Kl.L lo2) = false) :
    Calls Try.prog 31 #[.agg #[.string lo, .string hi, .bool true], .agg #[.string lo2, .string hi2, .bool false]] w fun e w' => e = .returned (.tuple #[.agg #[.string (meetV lo hi true lo2 hi2 false).1, .string (meetV lo hi true lo2 hi2 false).2.1, .bool (meetV lo hi true lo2 hi2 false).2.2], .int .i64 (mErr lo hi true lo2 hi2 false)]) ∧ Below w.heap.size w w' := by
  have K1 := fun w => rCheckRange_any lo hi true w h1 h2
  have K2 := fun w => rCheckRange_any lo2 hi2 false w h3 h4
  have K3 := fun w => Order_any lo2 lo w h3 h1
  have HE : mErr lo hi true lo2 hi2 false = 0 := by unfold mErr; rw [if_neg (by simpa using hc), hd]
  have HV : Hid (meetV lo hi true lo2 hi2 false = (mLo lo lo2, mHi hi true hi2 false, mB hi true hi2 false)) := Lib.hid (by unfold meetV; rw [HE, if_pos rfl])
  have HL : mLo lo lo2 = lo := by unfold mLo; rw [hlo]; rfl
  rw [HV.out, HE, HL]
  dsimp only
  rw [hc] at K1
  rw [hd] at K2
  have J1 := Lib.hid K1
  have J2 := Lib.hid K2
  have hp := Kl.ord_pos (a := Kl.L lo2) (b := Kl.L lo)
  obtain ⟨o, ho⟩ : ∃ o, Kl.ord (Kl.L lo2) (Kl.L lo) = o := ⟨_, rfl⟩
  rw [ho] at K3 hp
  have J3 := Lib.hid K3
  have d1 : decide ((0 : Int) < o) = false := by rw [Bool.eq_iff_iff, decide_eq_true_iff, hp, hlo]
  clear K1 K2 K3 hc hd HE HV HL hp ho hlo
  all_goals
    simp only [mHi, mB, mTake, Bool.false_and, Bool.not_true, Bool.false_or, Bool.false_eq_true, if_false]
    go_enter Try.func31, Try.ntmps31
    go_wp2_with fail
    refine (J1.out _).mono ?_
    rintro e w1 ⟨rfl, hb⟩
    obtain ⟨R0, R1, R2⟩ := rows3 hb
    have HB := Lib.hid (((((Below.refl w.heap.size w).alloc (Nat.le_refl _) _).alloc (by simp) _).alloc (by simp; omega) _).trans (hb.mono (by simp; omega)))
    have l0 := lt_of_row R0
    have l1 := lt_of_row R1
    have l2 := lt_of_row R2
    clear hb
    obtain ⟨p0, p1, p2, p3, p4, p5⟩ := row3 R0
    obtain ⟨q0, q1, q2, q3, q4, q5⟩ := row3 R1
    obtain ⟨r0, r1, r2, r3, r4, r5⟩ := row3 R2
    go_wp2_with fail
    clear p0 p1 p2 p3 p4 p5 q0 q1 q2 q3 q4 q5 r0 r1 r2 r3 r4 r5
    refine (J2.out _).mono ?_
    rintro e w2 ⟨rfl, hb⟩
    have R0 := row_below R0 hb
    have R1 := row_below R1 hb
    have R2 := row_below R2 hb
    have HB := Lib.hid (below_of HB.out hb (by omega))
    have l0 := lt_of_row R0
    have l1 := lt_of_row R1
    have l2 := lt_of_row R2
    clear hb
    obtain ⟨p0, p1, p2, p3, p4, p5⟩ := row3 R0
    obtain ⟨q0, q1, q2, q3, q4, q5⟩ := row3 R1
    obtain ⟨r0, r1, r2, r3, r4, r5⟩ := row3 R2
    go_wp2_with fail
    clear p0 p1 p2 p3 p4 p5 q0 q1 q2 q3 q4 q5 r0 r1 r2 r3 r4 r5
    refine (J3.out _).mono ?_
    rintro e w3 ⟨rfl, hb⟩
    have R3 := row_new hb
    have R0 := row_old R0 hb
    have R1 := row_old R1 hb
    have R2 := row_old R2 hb
    have HB := Lib.hid ((HB.out.alloc (by omega) _).trans (hb.mono (by simp; omega)))
    have l3 := lt_of_row R3
    obtain ⟨g, hg⟩ : ∃ g, w2.heap.size = g := ⟨_, rfl⟩
    have m0 := lt_of_row R0
    have m1 := lt_of_row R1
    have m2 := lt_of_row R2
    rw [hg] at R3 l3 l2 l1 l0
    rw [hg]
    clear hb hg
    obtain ⟨p0, p1, p2, p3, p4, p5⟩ := row3 R0
    obtain ⟨q0, q1, q2, q3, q4, q5⟩ := row3 R1
    obtain ⟨r0, r1, r2, r3, r4, r5⟩ := row3 R2
    obtain ⟨s0, s1, s2, s3, s4, s5⟩ := row3 R3
    go_wp2_with fail
    have q := HB.out
    refine bodyPost_ret (v := .tuple #[.agg #[.string lo, .string _, .bool _], .int .i64 0]) (by simp [results, Try.results31, go_sem, r0, r1, r2]) rfl ⟨rfl, set3 ?_ (by omega) _ _ _⟩
    repeat' (first
      | (with_reducible exact q)
      | (with_reducible refine Below.setCell ?_ (by first | omega | (simp; omega)) _))

set_option maxRecDepth 100000 in
set_option maxHeartbeats 4000000 in
theorem rMeet_ok_kept_true_true (lo hi : ByteArray) (lo2 hi2 : ByteArray) (w : World) (h1 : lo.size ≤ 9223372036854775807) (h2 : hi.size ≤ 9223372036854775807) (h3 : lo2.size ≤ 9223372036854775807) (h4 : hi2.size ≤ 9223372036854775807) (hc : chkR lo hi true = 0) (hd : chkR lo2 hi2 true = 0) (hlo : Kl.lt (Kl.L lo) (Kl.L lo2) = false) :
    Calls Try.prog 31 #[.agg #[.string lo, .string hi, .bool true], .agg #[.string lo2, .string hi2, .bool true]] w fun e w' => e = .returned (.tuple #[.agg #[.string (meetV lo hi true lo2 hi2 true).1, .string (meetV lo hi true lo2 hi2 true).2.1, .bool (meetV lo hi true lo2 hi2 true).2.2], .int .i64 (mErr lo hi true lo2 hi2 true)]) ∧ Below w.heap.size w w' := by
  have K1 := fun w => rCheckRange_any lo hi true w h1 h2
  have K2 := fun w => rCheckRange_any lo2 hi2 true w h3 h4
  have K3 := fun w => Order_any lo2 lo w h3 h1
  have HE : mErr lo hi true lo2 hi2 true = 0 := by unfold mErr; rw [if_neg (by simpa using hc), hd]
  have HV : Hid (meetV lo hi true lo2 hi2 true = (mLo lo lo2, mHi hi true hi2 true, mB hi true hi2 true)) := Lib.hid (by unfold meetV; rw [HE, if_pos rfl])
  have HL : mLo lo lo2 = lo := by unfold mLo; rw [hlo]; rfl
  rw [HV.out, HE, HL]
  dsimp only
  rw [hc] at K1
  rw [hd] at K2
  have J1 := Lib.hid K1
  have J2 := Lib.hid K2
  have hp := Kl.ord_pos (a := Kl.L lo2) (b := Kl.L lo)
  obtain ⟨o, ho⟩ : ∃ o, Kl.ord (Kl.L lo2) (Kl.L lo) = o := ⟨_, rfl⟩
  rw [ho] at K3 hp
  have J3 := Lib.hid K3
  have d1 : decide ((0 : Int) < o) = false := by rw [Bool.eq_iff_iff, decide_eq_true_iff, hp, hlo]
  clear K1 K2 K3 hc hd HE HV HL hp ho hlo
  have K4 := fun w => Order_any hi2 hi w h4 h2
  have hn := Kl.ord_neg (a := Kl.L hi2) (b := Kl.L hi)
  obtain ⟨o2, ho2⟩ : ∃ o, Kl.ord (Kl.L hi2) (Kl.L hi) = o := ⟨_, rfl⟩
  rw [ho2] at K4 hn
  have J4 := Lib.hid K4
  have d2 : decide (o2 < 0) = Kl.lt (Kl.L hi2) (Kl.L hi) := by rw [Bool.eq_iff_iff, decide_eq_true_iff]; exact hn
  clear K4 hn ho2
  cases p : Kl.lt (Kl.L hi2) (Kl.L hi)
  all_goals
    rw [p] at d2
    simp only [mHi, mB, mTake, p, Bool.true_and, Bool.not_true, Bool.or_true, Bool.false_or, Bool.and_true, Bool.false_eq_true, if_true, if_false]
    clear p
    go_enter Try.func31, Try.ntmps31
    go_wp2_with fail
    refine (J1.out _).mono ?_
    rintro e w1 ⟨rfl, hb⟩
    obtain ⟨R0, R1, R2⟩ := rows3 hb
    have HB := Lib.hid (((((Below.refl w.heap.size w).alloc (Nat.le_refl _) _).alloc (by simp) _).alloc (by simp; omega) _).trans (hb.mono (by simp; omega)))
    have l0 := lt_of_row R0
    have l1 := lt_of_row R1
    have l2 := lt_of_row R2
    clear hb
    obtain ⟨p0, p1, p2, p3, p4, p5⟩ := row3 R0
    obtain ⟨q0, q1, q2, q3, q4, q5⟩ := row3 R1
    obtain ⟨r0, r1, r2, r3, r4, r5⟩ := row3 R2
    go_wp2_with fail
    clear p0 p1 p2 p3 p4 p5 q0 q1 q2 q3 q4 q5 r0 r1 r2 r3 r4 r5
    refine (J2.out _).mono ?_
    rintro e w2 ⟨rfl, hb⟩
    have R0 := row_below R0 hb
    have R1 := row_below R1 hb
    have R2 := row_below R2 hb
    have HB := Lib.hid (below_of HB.out hb (by omega))
    have l0 := lt_of_row R0
    have l1 := lt_of_row R1
    have l2 := lt_of_row R2
    clear hb
    obtain ⟨p0, p1, p2, p3, p4, p5⟩ := row3 R0
    obtain ⟨q0, q1, q2, q3, q4, q5⟩ := row3 R1
    obtain ⟨r0, r1, r2, r3, r4, r5⟩ := row3 R2
    go_wp2_with fail
    clear p0 p1 p2 p3 p4 p5 q0 q1 q2 q3 q4 q5 r0 r1 r2 r3 r4 r5
    refine (J3.out _).mono ?_
    rintro e w3 ⟨rfl, hb⟩
    have R3 := row_new hb
    have R0 := row_old R0 hb
    have R1 := row_old R1 hb
    have R2 := row_old R2 hb
    have HB := Lib.hid ((HB.out.alloc (by omega) _).trans (hb.mono (by simp; omega)))
    have l3 := lt_of_row R3
    obtain ⟨g, hg⟩ : ∃ g, w2.heap.size = g := ⟨_, rfl⟩
    have m0 := lt_of_row R0
    have m1 := lt_of_row R1
    have m2 := lt_of_row R2
    rw [hg] at R3 l3 l2 l1 l0
    rw [hg]
    clear hb hg
    obtain ⟨p0, p1, p2, p3, p4, p5⟩ := row3 R0
    obtain ⟨q0, q1, q2, q3, q4, q5⟩ := row3 R1
    obtain ⟨r0, r1, r2, r3, r4, r5⟩ := row3 R2
    obtain ⟨s0, s1, s2, s3, s4, s5⟩ := row3 R3
    go_wp2_with fail
    have q := HB.out
    refine (J4.out _).mono ?_
    rintro e w4 ⟨rfl, hb⟩
    have xa1 := hb.cell (p := ⟨w.heap.size + 1, 1, none⟩) (by first | omega | (simp; done) | (simp; omega))
    have xb0 := hb.cell (p := ⟨g, 0, none⟩) (by first | omega | (simp; done) | (simp; omega))
    have xb1 := hb.cell (p := ⟨g, 1, none⟩) (by first | omega | (simp; done) | (simp; omega))
    have xb2 := hb.cell (p := ⟨g, 2, none⟩) (by first | omega | (simp; done) | (simp; omega))
    have xd0 := hb.cell (p := ⟨w.heap.size + 1 + 1, 0, none⟩) (by first | omega | (simp; done) | (simp; omega))
    have xd1 := hb.cell (p := ⟨w.heap.size + 1 + 1, 1, none⟩) (by first | omega | (simp; done) | (simp; omega))
    have xd2 := hb.cell (p := ⟨w.heap.size + 1 + 1, 2, none⟩) (by first | omega | (simp; done) | (simp; omega))
    have xf1 := hb.frozen (p := ⟨g, 1, none⟩) (by first | omega | (simp; done) | (simp; omega))
    have xf2 := hb.frozen (p := ⟨g, 2, none⟩) (by first | omega | (simp; done) | (simp; omega))
    have xk0 := hb.frozen (p := ⟨w.heap.size + 1 + 1, 0, none⟩) (by first | omega | (simp; done) | (simp; omega))
    have xk1 := hb.frozen (p := ⟨w.heap.size + 1 + 1, 1, none⟩) (by first | omega | (simp; done) | (simp; omega))
    have xk2 := hb.frozen (p := ⟨w.heap.size + 1 + 1, 2, none⟩) (by first | omega | (simp; done) | (simp; omega))
    have n2 : w.heap.size + 1 + 1 < w4.heap.size := by have := hb.size; first | omega | (simp at this; omega)
    have n3 : g < w4.heap.size := by have := hb.size; first | omega | (simp at this; omega)
    have HB := Lib.hid (below_of q hb (by first | omega | (simp; done) | (simp; omega)))
    clear hb q
    go_wp2_with fail
    have q := HB.out
    refine bodyPost_ret (v := .tuple #[.agg #[.string lo, .string _, .bool _], .int .i64 0]) (by simp [results, Try.results31, go_sem, xd0, xd1, xd2, r0, r1, r2]) rfl ⟨rfl, set3 ?_ (by omega) _ _ _⟩
    repeat' (first
      | (with_reducible exact q)
      | (with_reducible refine Below.setCell ?_ (by first | omega | (simp; omega)) _))

set_option maxRecDepth 100000 in
set_option maxHeartbeats 4000000 in
theorem rMeet_ok_taken_false_false (lo hi : ByteArray) (lo2 hi2 : ByteArray) (w : World) (h1 : lo.size ≤ 9223372036854775807) (h2 : hi.size ≤ 9223372036854775807) (h3 : lo2.size ≤ 9223372036854775807) (h4 : hi2.size ≤ 9223372036854775807) (hc : chkR lo hi false = 0) (hd : chkR lo2 hi2 false = 0) (hlo : Kl.lt (Kl.L lo) (Kl.L lo2) = true) :
    Calls Try.prog 31 #[.agg #[.string lo, .string hi, .bool false], .agg #[.string lo2, .string hi2, .bool false]] w fun e w' => e = .returned (.tuple #[.agg #[.string (meetV lo hi false lo2 hi2 false).1, .string (meetV lo hi false lo2 hi2 false).2.1, .bool (meetV lo hi false lo2 hi2 false).2.2], .int .i64 (mErr lo hi false lo2 hi2 false)]) ∧ Below w.heap.size w w' := by
  have K1 := fun w => rCheckRange_any lo hi false w h1 h2
  have K2 := fun w => rCheckRange_any lo2 hi2 false w h3 h4
  have K3 := fun w => Order_any lo2 lo w h3 h1
  have HE : mErr lo hi false lo2 hi2 false = 0 := by unfold mErr; rw [if_neg (by simpa using hc), hd]
  have HV : Hid (meetV lo hi false lo2 hi2 false = (mLo lo lo2, mHi hi false hi2 false, mB hi false hi2 false)) := Lib.hid (by unfold meetV; rw [HE, if_pos rfl])
  have HL : mLo lo lo2 = lo2 := by unfold mLo; rw [hlo]; rfl
  rw [HV.out, HE, HL]
  dsimp only
  rw [hc] at K1
  rw [hd] at K2
  have J1 := Lib.hid K1
  have J2 := Lib.hid K2
  have hp := Kl.ord_pos (a := Kl.L lo2) (b := Kl.L lo)
  obtain ⟨o, ho⟩ : ∃ o, Kl.ord (Kl.L lo2) (Kl.L lo) = o := ⟨_, rfl⟩
  rw [ho] at K3 hp
  have J3 := Lib.hid K3
  have d1 : decide ((0 : Int) < o) = true := by rw [Bool.eq_iff_iff, decide_eq_true_iff, hp, hlo]
  clear K1 K2 K3 hc hd HE HV HL hp ho hlo
  all_goals
    simp only [mHi, mB, mTake, Bool.not_false, Bool.true_or, Bool.and_true, Bool.false_eq_true, if_false]
    go_enter Try.func31, Try.ntmps31
    go_wp2_with fail
    refine (J1.out _).mono ?_
    rintro e w1 ⟨rfl, hb⟩
    obtain ⟨R0, R1, R2⟩ := rows3 hb
    have HB := Lib.hid (((((Below.refl w.heap.size w).alloc (Nat.le_refl _) _).alloc (by simp) _).alloc (by simp; omega) _).trans (hb.mono (by simp; omega)))
    have l0 := lt_of_row R0
    have l1 := lt_of_row R1
    have l2 := lt_of_row R2
    clear hb
    obtain ⟨p0, p1, p2, p3, p4, p5⟩ := row3 R0
    obtain ⟨q0, q1, q2, q3, q4, q5⟩ := row3 R1
    obtain ⟨r0, r1, r2, r3, r4, r5⟩ := row3 R2
    go_wp2_with fail
    clear p0 p1 p2 p3 p4 p5 q0 q1 q2 q3 q4 q5 r0 r1 r2 r3 r4 r5
    refine (J2.out _).mono ?_
    rintro e w2 ⟨rfl, hb⟩
    have R0 := row_below R0 hb
    have R1 := row_below R1 hb
    have R2 := row_below R2 hb
    have HB := Lib.hid (below_of HB.out hb (by omega))
    have l0 := lt_of_row R0
    have l1 := lt_of_row R1
    have l2 := lt_of_row R2
    clear hb
    obtain ⟨p0, p1, p2, p3, p4, p5⟩ := row3 R0
    obtain ⟨q0, q1, q2, q3, q4, q5⟩ := row3 R1
    obtain ⟨r0, r1, r2, r3, r4, r5⟩ := row3 R2
    go_wp2_with fail
    clear p0 p1 p2 p3 p4 p5 q0 q1 q2 q3 q4 q5 r0 r1 r2 r3 r4 r5
    refine (J3.out _).mono ?_
    rintro e w3 ⟨rfl, hb⟩
    have R3 := row_new hb
    have R0 := row_old R0 hb
    have R1 := row_old R1 hb
    have R2 := row_old R2 hb
    have HB := Lib.hid ((HB.out.alloc (by omega) _).trans (hb.mono (by simp; omega)))
    have l3 := lt_of_row R3
    obtain ⟨g, hg⟩ : ∃ g, w2.heap.size = g := ⟨_, rfl⟩
    have m0 := lt_of_row R0
    have m1 := lt_of_row R1
    have m2 := lt_of_row R2
    rw [hg] at R3 l3 l2 l1 l0
    rw [hg]
    clear hb hg
    obtain ⟨p0, p1, p2, p3, p4, p5⟩ := row3 R0
    obtain ⟨q0, q1, q2, q3, q4, q5⟩ := row3 R1
    obtain ⟨r0, r1, r2, r3, r4, r5⟩ := row3 R2
    obtain ⟨s0, s1, s2, s3, s4, s5⟩ := row3 R3
    go_wp2_with fail
    have q := HB.out
    refine bodyPost_ret (v := .tuple #[.agg #[.string lo2, .string _, .bool _], .int .i64 0]) (by simp [results, Try.results31, go_sem, r0, r1, r2]) rfl ⟨rfl, set3 ?_ (by omega) _ _ _⟩
    repeat' (first
      | (with_reducible exact q)
      | (with_reducible refine Below.setCell ?_ (by first | omega | (simp; omega)) _))

set_option maxRecDepth 100000 in
set_option maxHeartbeats 4000000 in
theorem rMeet_ok_taken_false_true (lo hi : ByteArray) (lo2 hi2 : ByteArray) (w : World) (h1 : lo.size ≤ 9223372036854775807) (h2 : hi.size ≤ 9223372036854775807) (h3 : lo2.size ≤ 9223372036854775807) (h4 : hi2.size ≤ 9223372036854775807) (hc : chkR lo hi false = 0) (hd : chkR lo2 hi2 true = 0) (hlo : Kl.lt (Kl.L lo) (Kl.L lo2) = true) :
    Calls Try.prog 31 #[.agg #[.string lo, .string hi, .bool false], .agg #[.string lo2, .string hi2, .bool true]] w fun e w' => e = .returned (.tuple #[.agg #[.string (meetV lo hi false lo2 hi2 true).1, .string (meetV lo hi false lo2 hi2 true).2.1, .bool (meetV lo hi false lo2 hi2 true).2.2], .int .i64 (mErr lo hi false lo2 hi2 true)]) ∧ Below w.heap.size w w' := by
  have K1 := fun w => rCheckRange_any lo hi false w h1 h2
  have K2 := fun w => rCheckRange_any lo2 hi2 true w h3 h4
  have K3 := fun w => Order_any lo2 lo w h3 h1
  have HE : mErr lo hi false lo2 hi2 true = 0 := by unfold mErr; rw [if_neg (by simpa using hc), hd]
  have HV : Hid (meetV lo hi false lo2 hi2 true = (mLo lo lo2, mHi hi false hi2 true, mB hi false hi2 true)) := Lib.hid (by unfold meetV; rw [HE, if_pos rfl])
  have HL : mLo lo lo2 = lo2 := by unfold mLo; rw [hlo]; rfl
  rw [HV.out, HE, HL]
  dsimp only
  rw [hc] at K1
  rw [hd] at K2
  have J1 := Lib.hid K1
  have J2 := Lib.hid K2
  have hp := Kl.ord_pos (a := Kl.L lo2) (b := Kl.L lo)
  obtain ⟨o, ho⟩ : ∃ o, Kl.ord (Kl.L lo2) (Kl.L lo) = o := ⟨_, rfl⟩
  rw [ho] at K3 hp
  have J3 := Lib.hid K3
  have d1 : decide ((0 : Int) < o) = true := by rw [Bool.eq_iff_iff, decide_eq_true_iff, hp, hlo]
  clear K1 K2 K3 hc hd HE HV HL hp ho hlo
  all_goals
    simp only [mHi, mB, mTake, Bool.not_false, Bool.true_or, Bool.and_true, if_true]
    go_enter Try.func31, Try.ntmps31
    go_wp2_with fail
    refine (J1.out _).mono ?_
    rintro e w1 ⟨rfl, hb⟩
    obtain ⟨R0, R1, R2⟩ := rows3 hb
    have HB := Lib.hid (((((Below.refl w.heap.size w).alloc (Nat.le_refl _) _).alloc (by simp) _).alloc (by simp; omega) _).trans (hb.mono (by simp; omega)))
    have l0 := lt_of_row R0
    have l1 := lt_of_row R1
    have l2 := lt_of_row R2
    clear hb
    obtain ⟨p0, p1, p2, p3, p4, p5⟩ := row3 R0
    obtain ⟨q0, q1, q2, q3, q4, q5⟩ := row3 R1
    obtain ⟨r0, r1, r2, r3, r4, r5⟩ := row3 R2
    go_wp2_with fail
    clear p0 p1 p2 p3 p4 p5 q0 q1 q2 q3 q4 q5 r0 r1 r2 r3 r4 r5
    refine (J2.out _).mono ?_
    rintro e w2 ⟨rfl, hb⟩
    have R0 := row_below R0 hb
    have R1 := row_below R1 hb
    have R2 := row_below R2 hb
    have HB := Lib.hid (below_of HB.out hb (by omega))
    have l0 := lt_of_row R0
    have l1 := lt_of_row R1
    have l2 := lt_of_row R2
    clear hb
    obtain ⟨p0, p1, p2, p3, p4, p5⟩ := row3 R0
    obtain ⟨q0, q1, q2, q3, q4, q5⟩ := row3 R1
    obtain ⟨r0, r1, r2, r3, r4, r5⟩ := row3 R2
    go_wp2_with fail
    clear p0 p1 p2 p3 p4 p5 q0 q1 q2 q3 q4 q5 r0 r1 r2 r3 r4 r5
    refine (J3.out _).mono ?_
    rintro e w3 ⟨rfl, hb⟩
    have R3 := row_new hb
    have R0 := row_old R0 hb
    have R1 := row_old R1 hb
    have R2 := row_old R2 hb
    have HB := Lib.hid ((HB.out.alloc (by omega) _).trans (hb.mono (by simp; omega)))
    have l3 := lt_of_row R3
    obtain ⟨g, hg⟩ : ∃ g, w2.heap.size = g := ⟨_, rfl⟩
    have m0 := lt_of_row R0
    have m1 := lt_of_row R1
    have m2 := lt_of_row R2
    rw [hg] at R3 l3 l2 l1 l0
    rw [hg]
    clear hb hg
    obtain ⟨p0, p1, p2, p3, p4, p5⟩ := row3 R0
    obtain ⟨q0, q1, q2, q3, q4, q5⟩ := row3 R1
    obtain ⟨r0, r1, r2, r3, r4, r5⟩ := row3 R2
    obtain ⟨s0, s1, s2, s3, s4, s5⟩ := row3 R3
    go_wp2_with fail
    have q := HB.out
    refine bodyPost_ret (v := .tuple #[.agg #[.string lo2, .string _, .bool _], .int .i64 0]) (by simp [results, Try.results31, go_sem, r0, r1, r2]) rfl ⟨rfl, set3 ?_ (by omega) _ _ _⟩
    repeat' (first
      | (with_reducible exact q)
      | (with_reducible refine Below.setCell ?_ (by first | omega | (simp; omega)) _))

set_option maxRecDepth 100000 in
set_option maxHeartbeats 4000000 in
theorem rMeet_ok_taken_true_false (lo hi : ByteArray) (lo2 hi2 : ByteArray) (w : World) (h1 : lo.size ≤ 9223372036854775807) (h2 : hi.size ≤ 9223372036854775807) (h3 : lo2.size ≤ 9223372036854775807) (h4 : hi2.size ≤ 9223372036854775807) (hc : chkR lo hi true = 0) (hd : chkR lo2 hi2 false = 0) (hlo : Kl.lt (Kl.L lo) (Kl.L lo2) = true) :
    Calls Try.prog 31 #[.agg #[.string lo, .string hi, .bool true], .agg #[.string lo2, .string hi2, .bool false]] w fun e w' => e = .returned (.tuple #[.agg #[.string (meetV lo hi true lo2 hi2 false).1, .string (meetV lo hi true lo2 hi2 false).2.1, .bool (meetV lo hi true lo2 hi2 false).2.2], .int .i64 (mErr lo hi true lo2 hi2 false)]) ∧ Below w.heap.size w w' := by
  have K1 := fun w => rCheckRange_any lo hi true w h1 h2
  have K2 := fun w => rCheckRange_any lo2 hi2 false w h3 h4
  have K3 := fun w => Order_any lo2 lo w h3 h1
  have HE : mErr lo hi true lo2 hi2 false = 0 := by unfold mErr; rw [if_neg (by simpa using hc), hd]
  have HV : Hid (meetV lo hi true lo2 hi2 false = (mLo lo lo2, mHi hi true hi2 false, mB hi true hi2 false)) := Lib.hid (by unfold meetV; rw [HE, if_pos rfl])
  have HL : mLo lo lo2 = lo2 := by unfold mLo; rw [hlo]; rfl
  rw [HV.out, HE, HL]
  dsimp only
  rw [hc] at K1
  rw [hd] at K2
  have J1 := Lib.hid K1
  have J2 := Lib.hid K2
  have hp := Kl.ord_pos (a := Kl.L lo2) (b := Kl.L lo)
  obtain ⟨o, ho⟩ : ∃ o, Kl.ord (Kl.L lo2) (Kl.L lo) = o := ⟨_, rfl⟩
  rw [ho] at K3 hp
  have J3 := Lib.hid K3
  have d1 : decide ((0 : Int) < o) = true := by rw [Bool.eq_iff_iff, decide_eq_true_iff, hp, hlo]
  clear K1 K2 K3 hc hd HE HV HL hp ho hlo
  all_goals
    simp only [mHi, mB, mTake, Bool.false_and, Bool.not_true, Bool.false_or, Bool.false_eq_true, if_false]
    go_enter Try.func31, Try.ntmps31
    go_wp2_with fail
    refine (J1.out _).mono ?_
    rintro e w1 ⟨rfl, hb⟩
    obtain ⟨R0, R1, R2⟩ := rows3 hb
    have HB := Lib.hid (((((Below.refl w.heap.size w).alloc (Nat.le_refl _) _).alloc (by simp) _).alloc (by simp; omega) _).trans (hb.mono (by simp; omega)))
    have l0 := lt_of_row R0
    have l1 := lt_of_row R1
    have l2 := lt_of_row R2
    clear hb
    obtain ⟨p0, p1, p2, p3, p4, p5⟩ := row3 R0
    obtain ⟨q0, q1, q2, q3, q4, q5⟩ := row3 R1
    obtain ⟨r0, r1, r2, r3, r4, r5⟩ := row3 R2
    go_wp2_with fail
    clear p0 p1 p2 p3 p4 p5 q0 q1 q2 q3 q4 q5 r0 r1 r2 r3 r4 r5
    refine (J2.out _).mono ?_
    rintro e w2 ⟨rfl, hb⟩
    have R0 := row_below R0 hb
    have R1 := row_below R1 hb
    have R2 := row_below R2 hb
    have HB := Lib.hid (below_of HB.out hb (by omega))
    have l0 := lt_of_row R0
    have l1 := lt_of_row R1
    have l2 := lt_of_row R2
    clear hb
    obtain ⟨p0, p1, p2, p3, p4, p5⟩ := row3 R0
    obtain ⟨q0, q1, q2, q3, q4, q5⟩ := row3 R1
    obtain ⟨r0, r1, r2, r3, r4, r5⟩ := row3 R2
    go_wp2_with fail
    clear p0 p1 p2 p3 p4 p5 q0 q1 q2 q3 q4 q5 r0 r1 r2 r3 r4 r5
    refine (J3.out _).mono ?_
    rintro e w3 ⟨rfl, hb⟩
    have R3 := row_new hb
    have R0 := row_old R0 hb
    have R1 := row_old R1 hb
    have R2 := row_old R2 hb
    have HB := Lib.hid ((HB.out.alloc (by omega) _).trans (hb.mono (by simp; omega)))
    have l3 := lt_of_row R3
    obtain ⟨g, hg⟩ : ∃ g, w2.heap.size = g := ⟨_, rfl⟩
    have m0 := lt_of_row R0
    have m1 := lt_of_row R1
    have m2 := lt_of_row R2
    rw [hg] at R3 l3 l2 l1 l0
    rw [hg]
    clear hb hg
    obtain ⟨p0, p1, p2, p3, p4, p5⟩ := row3 R0
    obtain ⟨q0, q1, q2, q3, q4, q5⟩ := row3 R1
    obtain ⟨r0, r1, r2, r3, r4, r5⟩ := row3 R2
    obtain ⟨s0, s1, s2, s3, s4, s5⟩ := row3 R3
    go_wp2_with fail
    have q := HB.out
    refine bodyPost_ret (v := .tuple #[.agg #[.string lo2, .string _, .bool _], .int .i64 0]) (by simp [results, Try.results31, go_sem, r0, r1, r2]) rfl ⟨rfl, set3 ?_ (by omega) _ _ _⟩
    repeat' (first
      | (with_reducible exact q)
      | (with_reducible refine Below.setCell ?_ (by first | omega | (simp; omega)) _))

set_option maxRecDepth 100000 in
set_option maxHeartbeats 4000000 in
theorem rMeet_ok_taken_true_true (lo hi : ByteArray) (lo2 hi2 : ByteArray) (w : World) (h1 : lo.size ≤ 9223372036854775807) (h2 : hi.size ≤ 9223372036854775807) (h3 : lo2.size ≤ 9223372036854775807) (h4 : hi2.size ≤ 9223372036854775807) (hc : chkR lo hi true = 0) (hd : chkR lo2 hi2 true = 0) (hlo : Kl.lt (Kl.L lo) (Kl.L lo2) = true) :
    Calls Try.prog 31 #[.agg #[.string lo, .string hi, .bool true], .agg #[.string lo2, .string hi2, .bool true]] w fun e w' => e = .returned (.tuple #[.agg #[.string (meetV lo hi true lo2 hi2 true).1, .string (meetV lo hi true lo2 hi2 true).2.1, .bool (meetV lo hi true lo2 hi2 true).2.2], .int .i64 (mErr lo hi true lo2 hi2 true)]) ∧ Below w.heap.size w w' := by
  have K1 := fun w => rCheckRange_any lo hi true w h1 h2
  have K2 := fun w => rCheckRange_any lo2 hi2 true w h3 h4
  have K3 := fun w => Order_any lo2 lo w h3 h1
  have HE : mErr lo hi true lo2 hi2 true = 0 := by unfold mErr; rw [if_neg (by simpa using hc), hd]
  have HV : Hid (meetV lo hi true lo2 hi2 true = (mLo lo lo2, mHi hi true hi2 true, mB hi true hi2 true)) := Lib.hid (by unfold meetV; rw [HE, if_pos rfl])
  have HL : mLo lo lo2 = lo2 := by unfold mLo; rw [hlo]; rfl
  rw [HV.out, HE, HL]
  dsimp only
  rw [hc] at K1
  rw [hd] at K2
  have J1 := Lib.hid K1
  have J2 := Lib.hid K2
  have hp := Kl.ord_pos (a := Kl.L lo2) (b := Kl.L lo)
  obtain ⟨o, ho⟩ : ∃ o, Kl.ord (Kl.L lo2) (Kl.L lo) = o := ⟨_, rfl⟩
  rw [ho] at K3 hp
  have J3 := Lib.hid K3
  have d1 : decide ((0 : Int) < o) = true := by rw [Bool.eq_iff_iff, decide_eq_true_iff, hp, hlo]
  clear K1 K2 K3 hc hd HE HV HL hp ho hlo
  have K4 := fun w => Order_any hi2 hi w h4 h2
  have hn := Kl.ord_neg (a := Kl.L hi2) (b := Kl.L hi)
  obtain ⟨o2, ho2⟩ : ∃ o, Kl.ord (Kl.L hi2) (Kl.L hi) = o := ⟨_, rfl⟩
  rw [ho2] at K4 hn
  have J4 := Lib.hid K4
  have d2 : decide (o2 < 0) = Kl.lt (Kl.L hi2) (Kl.L hi) := by rw [Bool.eq_iff_iff, decide_eq_true_iff]; exact hn
  clear K4 hn ho2
  cases p : Kl.lt (Kl.L hi2) (Kl.L hi)
  all_goals
    rw [p] at d2
    simp only [mHi, mB, mTake, p, Bool.true_and, Bool.not_true, Bool.or_true, Bool.false_or, Bool.and_true, Bool.false_eq_true, if_true, if_false]
    clear p
    go_enter Try.func31, Try.ntmps31
    go_wp2_with fail
    refine (J1.out _).mono ?_
    rintro e w1 ⟨rfl, hb⟩
    obtain ⟨R0, R1, R2⟩ := rows3 hb
    have HB := Lib.hid (((((Below.refl w.heap.size w).alloc (Nat.le_refl _) _).alloc (by simp) _).alloc (by simp; omega) _).trans (hb.mono (by simp; omega)))
    have l0 := lt_of_row R0
    have l1 := lt_of_row R1
    have l2 := lt_of_row R2
    clear hb
    obtain ⟨p0, p1, p2, p3, p4, p5⟩ := row3 R0
    obtain ⟨q0, q1, q2, q3, q4, q5⟩ := row3 R1
    obtain ⟨r0, r1, r2, r3, r4, r5⟩ := row3 R2
    go_wp2_with fail
    clear p0 p1 p2 p3 p4 p5 q0 q1 q2 q3 q4 q5 r0 r1 r2 r3 r4 r5
    refine (J2.out _).mono ?_
    rintro e w2 ⟨rfl, hb⟩
    have R0 := row_below R0 hb
    have R1 := row_below R1 hb
    have R2 := row_below R2 hb
    have HB := Lib.hid (below_of HB.out hb (by omega))
    have l0 := lt_of_row R0
    have l1 := lt_of_row R1
    have l2 := lt_of_row R2
    clear hb
    obtain ⟨p0, p1, p2, p3, p4, p5⟩ := row3 R0
    obtain ⟨q0, q1, q2, q3, q4, q5⟩ := row3 R1
    obtain ⟨r0, r1, r2, r3, r4, r5⟩ := row3 R2
    go_wp2_with fail
    clear p0 p1 p2 p3 p4 p5 q0 q1 q2 q3 q4 q5 r0 r1 r2 r3 r4 r5
    refine (J3.out _).mono ?_
    rintro e w3 ⟨rfl, hb⟩
    have R3 := row_new hb
    have R0 := row_old R0 hb
    have R1 := row_old R1 hb
    have R2 := row_old R2 hb
    have HB := Lib.hid ((HB.out.alloc (by omega) _).trans (hb.mono (by simp; omega)))
    have l3 := lt_of_row R3
    obtain ⟨g, hg⟩ : ∃ g, w2.heap.size = g := ⟨_, rfl⟩
    have m0 := lt_of_row R0
    have m1 := lt_of_row R1
    have m2 := lt_of_row R2
    rw [hg] at R3 l3 l2 l1 l0
    rw [hg]
    clear hb hg
    obtain ⟨p0, p1, p2, p3, p4, p5⟩ := row3 R0
    obtain ⟨q0, q1, q2, q3, q4, q5⟩ := row3 R1
    obtain ⟨r0, r1, r2, r3, r4, r5⟩ := row3 R2
    obtain ⟨s0, s1, s2, s3, s4, s5⟩ := row3 R3
    go_wp2_with fail
    have q := HB.out
    refine (J4.out _).mono ?_
    rintro e w4 ⟨rfl, hb⟩
    have xa1 := hb.cell (p := ⟨w.heap.size + 1, 1, none⟩) (by first | omega | (simp; done) | (simp; omega))
    have xb0 := hb.cell (p := ⟨g, 0, none⟩) (by first | omega | (simp; done) | (simp; omega))
    have xb1 := hb.cell (p := ⟨g, 1, none⟩) (by first | omega | (simp; done) | (simp; omega))
    have xb2 := hb.cell (p := ⟨g, 2, none⟩) (by first | omega | (simp; done) | (simp; omega))
    have xd0 := hb.cell (p := ⟨w.heap.size + 1 + 1, 0, none⟩) (by first | omega | (simp; done) | (simp; omega))
    have xd1 := hb.cell (p := ⟨w.heap.size + 1 + 1, 1, none⟩) (by first | omega | (simp; done) | (simp; omega))
    have xd2 := hb.cell (p := ⟨w.heap.size + 1 + 1, 2, none⟩) (by first | omega | (simp; done) | (simp; omega))
    have xf1 := hb.frozen (p := ⟨g, 1, none⟩) (by first | omega | (simp; done) | (simp; omega))
    have xf2 := hb.frozen (p := ⟨g, 2, none⟩) (by first | omega | (simp; done) | (simp; omega))
    have xk0 := hb.frozen (p := ⟨w.heap.size + 1 + 1, 0, none⟩) (by first | omega | (simp; done) | (simp; omega))
    have xk1 := hb.frozen (p := ⟨w.heap.size + 1 + 1, 1, none⟩) (by first | omega | (simp; done) | (simp; omega))
    have xk2 := hb.frozen (p := ⟨w.heap.size + 1 + 1, 2, none⟩) (by first | omega | (simp; done) | (simp; omega))
    have n2 : w.heap.size + 1 + 1 < w4.heap.size := by have := hb.size; first | omega | (simp at this; omega)
    have n3 : g < w4.heap.size := by have := hb.size; first | omega | (simp at this; omega)
    have HB := Lib.hid (below_of (q.setCell (p := ⟨g, 0, none⟩) (by show w.heap.size ≤ g; omega) _) hb (by first | omega | (simp; done) | (simp; omega)))
    clear hb q
    go_wp2_with fail
    have q := HB.out
    refine bodyPost_ret (v := .tuple #[.agg #[.string lo2, .string _, .bool _], .int .i64 0]) (by simp [results, Try.results31, go_sem, xd0, xd1, xd2, r0, r1, r2]) rfl ⟨rfl, set3 ?_ (by omega) _ _ _⟩
    repeat' (first
      | (with_reducible exact q)
      | (with_reducible refine Below.setCell ?_ (by first | omega | (simp; omega)) _))

theorem kMeet_any (lo hi : ByteArray) (b : Bool) (lo2 hi2 : ByteArray) (b2 : Bool) (w : World) (h1 : lo.size ≤ 9223372036854775807) (h2 : hi.size ≤ 9223372036854775807) (h3 : lo2.size ≤ 9223372036854775807) (h4 : hi2.size ≤ 9223372036854775807) :
    Calls Try.prog 44 #[.agg #[.string lo, .string hi, .bool b], .agg #[.string lo2, .string hi2, .bool b2]] w fun e w' => e = .returned (.tuple #[.agg #[.string (meetV lo hi b lo2 hi2 b2).1, .string (meetV lo hi b lo2 hi2 b2).2.1, .bool (meetV lo hi b lo2 hi2 b2).2.2], .int .i64 (mErr lo hi b lo2 hi2 b2)]) ∧ Below w.heap.size w w' := by
  by_cases hc : chkR lo hi b = 0
  · by_cases hd : chkR lo2 hi2 b2 = 0
    · exact kMeet_ok lo hi b lo2 hi2 b2 w h1 h2 h3 h4 hc hd
    · exact kMeet_err2 lo hi b lo2 hi2 b2 w h1 h2 h3 h4 hc hd
  · exact kMeet_err1 lo hi b lo2 hi2 b2 w h1 h2 h3 h4 hc
theorem rMeet_any (lo hi : ByteArray) (b : Bool) (lo2 hi2 : ByteArray) (b2 : Bool) (w : World) (h1 : lo.size ≤ 9223372036854775807) (h2 : hi.size ≤ 9223372036854775807) (h3 : lo2.size ≤ 9223372036854775807) (h4 : hi2.size ≤ 9223372036854775807) :
    Calls Try.prog 31 #[.agg #[.string lo, .string hi, .bool b], .agg #[.string lo2, .string hi2, .bool b2]] w fun e w' => e = .returned (.tuple #[.agg #[.string (meetV lo hi b lo2 hi2 b2).1, .string (meetV lo hi b lo2 hi2 b2).2.1, .bool (meetV lo hi b lo2 hi2 b2).2.2], .int .i64 (mErr lo hi b lo2 hi2 b2)]) ∧ Below w.heap.size w w' := by
  by_cases hc : chkR lo hi b = 0
  · by_cases hd : chkR lo2 hi2 b2 = 0
    · cases hl : Kl.lt (Kl.L lo) (Kl.L lo2) <;> cases b <;> cases b2
      · exact rMeet_ok_kept_false_false lo hi lo2 hi2 w h1 h2 h3 h4 hc hd hl
      · exact rMeet_ok_kept_false_true lo hi lo2 hi2 w h1 h2 h3 h4 hc hd hl
      · exact rMeet_ok_kept_true_false lo hi lo2 hi2 w h1 h2 h3 h4 hc hd hl
      · exact rMeet_ok_kept_true_true lo hi lo2 hi2 w h1 h2 h3 h4 hc hd hl
      · exact rMeet_ok_taken_false_false lo hi lo2 hi2 w h1 h2 h3 h4 hc hd hl
      · exact rMeet_ok_taken_false_true lo hi lo2 hi2 w h1 h2 h3 h4 hc hd hl
      · exact rMeet_ok_taken_true_false lo hi lo2 hi2 w h1 h2 h3 h4 hc hd hl
      · exact rMeet_ok_taken_true_true lo hi lo2 hi2 w h1 h2 h3 h4 hc hd hl
    · exact rMeet_err2 lo hi b lo2 hi2 b2 w h1 h2 h3 h4 hc hd
  · exact rMeet_err1 lo hi b lo2 hi2 b2 w h1 h2 h3 h4 hc
end Go.Proofs.Ytjnbdeahmbkbnaa.KK
