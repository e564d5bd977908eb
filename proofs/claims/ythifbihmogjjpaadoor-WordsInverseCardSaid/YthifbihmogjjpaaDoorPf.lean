/-
  Plain functions: quoted forms in the midst of a string.
-/
import Derived.Test.YthifbihmogjjpaaDoorPe
namespace Go.Proofs.YthifbihmogjjpaaDoor.Pl
open Go.Lib

/-- what has been read so far, and what is still to come -/
def More (s : ByteArray) (k0 k : Nat) (t : List UInt8) : Prop :=
  bq ((L s).drop k0) = match bq ((L s).drop k) with | none => none | some (t', m) => some (t ++ t', (k - k0) + m)
theorem More.start (s : ByteArray) (k : Nat) : More s k k [] := by
  unfold More
  cases bq ((L s).drop k) with
  | none => rfl
  | some x => simp
theorem More.stop {s : ByteArray} {k0 k : Nat} {t : List UInt8} (h : More s k0 k t) (hk : k < s.size) (hc : ¬ s[k] = 34) (hr : rb ((L s).drop k) = none) : bq ((L s).drop k0) = none := by
  rw [h]; rw [drop_cons s k hk] at hr ⊢; rw [bq_stop _ _ hc hr]
theorem More.end_ {s : ByteArray} {k0 k : Nat} {t : List UInt8} (h : More s k0 k t) (hk : s.size ≤ k) : bq ((L s).drop k0) = none := by
  rw [h, drop_end s k hk]; rfl
theorem More.quote {s : ByteArray} {k0 k : Nat} {t : List UInt8} (h : More s k0 k t) (hk : k < s.size) (hc : s[k] = 34) : bq ((L s).drop k0) = some (t, k - k0 + 1) := by
  rw [h, drop_cons s k hk, hc, bq_quote]; simp
theorem More.step {s : ByteArray} {k0 k : Nat} {t : List UInt8} (h : More s k0 k t) (hk : k < s.size) (hle : k0 ≤ k) (hc : ¬ s[k] = 34) {v : UInt8} {n : Nat} (hr : rb ((L s).drop k) = some (v, n)) : More s k0 (k + n) (t ++ [v]) := by
  unfold More at h ⊢
  rw [h]
  have e : (L s).drop (k + n) = ((L s).drop k).drop n := by rw [List.drop_drop]
  rw [e]
  rw [drop_cons s k hk] at hr ⊢
  rw [bq_step _ _ hc hr]
  cases bq ((s[k] :: (L s).drop (k + 1)).drop n) with
  | none => rfl
  | some x =>
    simp only [List.append_assoc, List.cons_append, List.nil_append, Option.some.injEq, Prod.mk.injEq, true_and]
    omega
theorem rb_bound {s : ByteArray} {k : Nat} {v : UInt8} {n : Nat} (hk : k < s.size) (hr : rb ((L s).drop k) = some (v, n)) : 1 ≤ n ∧ k + n ≤ s.size := by
  obtain ⟨a, b⟩ := rb_pos hr
  rw [List.length_drop, L_length] at b
  omega
theorem rq_end (s : ByteArray) (k : Nat) (h : s.size ≤ k) : rq ((L s).drop k) = none := by rw [drop_end s k h]; rfl
theorem rq_not (s : ByteArray) (k : Nat) (h : k < s.size) (hc : ¬ s[k] = 34) : rq ((L s).drop k) = none := by
  rw [drop_cons s k h, rq, if_neg hc]
theorem rq_none (s : ByteArray) (k : Nat) (h : k < s.size) (hb : bq ((L s).drop (k + 1)) = none) : rq ((L s).drop k) = none := by
  rw [drop_cons s k h, rq, hb]; split <;> rfl
theorem rq_some (s : ByteArray) (k : Nat) (h : k < s.size) (hc : s[k] = 34) {t : List UInt8} {m : Nat} (hb : bq ((L s).drop (k + 1)) = some (t, m)) : rq ((L s).drop k) = some (t, m + 1) := by
  rw [drop_cons s k h, rq, hb, if_pos hc]

theorem body_len : ∀ (f : Nat) (l : List UInt8) {t : List UInt8} {m : Nat}, body f l = some (t, m) → m ≤ l.length
  | 0, _, _, _, h => by cases h
  | f + 1, [], _, _, h => by cases h
  | f + 1, c :: r, t, m, h => by
    rw [body] at h
    split at h
    · simp only [Option.some.injEq, Prod.mk.injEq] at h
      simp only [List.length_cons]; omega
    · split at h
      · cases h
      · rename_i v n hr
        have hn := rb_pos hr
        split at h
        · cases h
        · rename_i t' m' hb
          have := body_len f _ hb
          simp only [Option.some.injEq, Prod.mk.injEq] at h
          simp only [List.length_cons, List.length_drop] at this hn ⊢; omega
theorem rq_len {l : List UInt8} {t : List UInt8} {m : Nat} (h : rq l = some (t, m)) : m ≤ l.length ∧ 1 ≤ m := by
  cases l with
  | nil => cases h
  | cons c r =>
    rw [rq] at h
    split at h
    · cases hb : bq r with
      | none => rw [hb] at h; cases h
      | some x =>
        obtain ⟨t', m'⟩ := x
        rw [hb] at h
        have := body_len _ _ hb
        simp only [Option.some.injEq, Prod.mk.injEq] at h
        simp only [List.length_cons]; omega
    · cases h
/-- the string of a quoted form -/
def unq (l : List UInt8) : Option (List UInt8) := match rq l with | none => none | some (t, m) => if m = l.length then some t else none
theorem unq_rq {s : ByteArray} {t : List UInt8} (h : unq (L s) = some t) : rq ((L s).drop 0) = some (t, s.size) := by
  rw [List.drop_zero]
  unfold unq at h
  cases hr : rq (L s) with
  | none => rw [hr] at h; cases h
  | some x =>
    obtain ⟨t', m⟩ := x
    rw [hr] at h
    simp only [L_length] at h
    split at h
    · rename_i e; cases h; rw [e]
    · cases h
theorem unq_short {s : ByteArray} {t : List UInt8} {m : Nat} (h : unq (L s) = none) (hr : rq ((L s).drop 0) = some (t, m)) : m < s.size := by
  rw [List.drop_zero] at hr
  have := (rq_len hr).1
  unfold unq at h
  rw [hr] at h
  simp only [L_length] at h this
  split at h
  · cases h
  · omega
end Go.Proofs.YthifbihmogjjpaaDoor.Pl
