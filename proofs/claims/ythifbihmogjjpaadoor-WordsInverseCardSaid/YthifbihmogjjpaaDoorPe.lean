/-
  Plain functions: what readByte and readQuoted come to.
-/
import Derived.Test.YthifbihmogjjpaaDoorPd
namespace Go.Proofs.YthifbihmogjjpaaDoor.Pl
open Go.Lib

theorem hex_two (s : ByteArray) (b1 : 1 < s.size) : hex (L s) = if hv s[0] < 0 ∨ hv s[1] < 0 then none else if (letter (hexv s[0] s[1])).isSome || plain (hexv s[0] s[1]) then none else some (hexv s[0] s[1]) := by
  rw [L_two s b1]; rfl
theorem rb_plain (s : ByteArray) (k : Nat) (h : k < s.size) (hc : ¬ s[k] = 92) : rb ((L s).drop k) = if plain s[k] then some (s[k], 1) else none := by
  rw [drop_cons s k h, rb_cons, if_neg hc]
theorem rb_end (s : ByteArray) (k : Nat) (h : k < s.size) (hc : s[k] = 92) (h1 : s.size ≤ k + 1) : rb ((L s).drop k) = none := by
  rw [drop_cons s k h, rb_cons, if_pos hc, drop_end s _ h1]; rfl
theorem rb_hex (s : ByteArray) (k : Nat) (h : k < s.size) (hc : s[k] = 92) (h1 : k + 1 < s.size) (hx : s[k + 1] = 120) :
    rb ((L s).drop k) = (hex (L (s.extract (k + 2) s.size))).map (fun v => (v, 4)) := by
  rw [drop_cons s k h, rb_cons, if_pos hc, drop_cons s (k + 1) h1, L_extract, rb92_cons, if_pos hx]
theorem rb_raw (s : ByteArray) (k : Nat) (h : k < s.size) (hc : s[k] = 92) (h1 : k + 1 < s.size) (hx : ¬ s[k + 1] = 120) :
    rb ((L s).drop k) = (raw s[k + 1]).map (fun v => (v, 2)) := by
  rw [drop_cons s k h, rb_cons, if_pos hc, drop_cons s (k + 1) h1, rb92_cons, if_neg hx]
theorem num_eq (c n : UInt8) (h : c = n) : ((c.toNat : Int) == (n.toNat : Int)) = true := by rw [h]; simp
theorem num_ne (c n : UInt8) (h : ¬ c = n) : ((c.toNat : Int) == (n.toNat : Int)) = false := by
  rw [beq_eq_false_iff_ne]; intro e; apply h; apply UInt8.toNat_inj.1; omega
theorem num_bne (c n : UInt8) (h : ¬ c = n) : ((c.toNat : Int) != (n.toNat : Int)) = true := by
  rw [bne_iff_ne]; intro e; apply h; apply UInt8.toNat_inj.1; omega
theorem num_nbne (c n : UInt8) (h : c = n) : ((c.toNat : Int) != (n.toNat : Int)) = false := by rw [h]; simp

/-- the content up to the closing quote, and how many places it takes with this -/
def body : Nat → List UInt8 → Option (List UInt8 × Nat)
  | 0, _ => none
  | _ + 1, [] => none
  | f + 1, c :: r => if c = 34 then some ([], 1) else match rb (c :: r) with
    | none => none
    | some (v, n) => match body f (r.drop (n - 1)) with
      | none => none
      | some (t, m) => some (v :: t, n + m)
theorem hex_len {l : List UInt8} {v : UInt8} (h : hex l = some v) : 2 ≤ l.length := by
  match l, h with
  | a :: b :: r, _ => simp
theorem rb_pos {l : List UInt8} {v : UInt8} {n : Nat} (h : rb l = some (v, n)) : 1 ≤ n ∧ n ≤ l.length := by
  cases l with
  | nil => cases h
  | cons c r =>
    rw [rb_cons] at h
    split at h
    · cases r with
      | nil => cases h
      | cons x r' =>
        rw [rb92_cons] at h
        split at h
        · cases hx : hex r' with
          | none => rw [hx] at h; cases h
          | some v' =>
            rw [hx] at h
            have := hex_len hx
            simp only [Option.map_some, Option.some.injEq, Prod.mk.injEq] at h
            simp only [List.length_cons]; omega
        · cases hx : raw x with
          | none => rw [hx] at h; cases h
          | some v' =>
            rw [hx] at h
            simp only [Option.map_some, Option.some.injEq, Prod.mk.injEq] at h
            simp only [List.length_cons]; omega
    · split at h
      · simp only [Option.some.injEq, Prod.mk.injEq] at h
        simp only [List.length_cons]; omega
      · cases h
theorem body_more : ∀ (f : Nat) (l : List UInt8), l.length < f → body (f + 1) l = body f l
  | 0, _, h => absurd h (Nat.not_lt_zero _)
  | f + 1, [], _ => rfl
  | f + 1, c :: r, h => by
    have e : ∀ n, body (f + 1) (r.drop n) = body f (r.drop n) := fun n => body_more f (r.drop n) (by simp at h ⊢; omega)
    rw [body, body]
    simp only [e]
theorem body_enough : ∀ (d f : Nat) (l : List UInt8), l.length < f → body (f + d) l = body f l
  | 0, _, _, _ => rfl
  | d + 1, f, l, h => by rw [← Nat.add_assoc, body_more (f + d) l (by omega), body_enough d f l h]
/-- the same, with as many steps as are wanted -/
def bq (l : List UInt8) : Option (List UInt8 × Nat) := body (l.length + 1) l
theorem body_bq (f : Nat) (l : List UInt8) (h : l.length < f) : body f l = bq l := by
  have := body_enough (f - (l.length + 1)) (l.length + 1) l (by omega)
  rw [show l.length + 1 + (f - (l.length + 1)) = f by omega] at this
  exact this
theorem bq_nil : bq [] = none := rfl
theorem bq_quote (r : List UInt8) : bq (34 :: r) = some ([], 1) := by simp [bq, body]
theorem bq_step (c : UInt8) (r : List UInt8) (hc : ¬ c = 34) {v : UInt8} {n : Nat} (h : rb (c :: r) = some (v, n)) :
    bq (c :: r) = match bq ((c :: r).drop n) with | none => none | some (t, m) => some (v :: t, n + m) := by
  have hn := (rb_pos h).1
  have e : (c :: r).drop n = r.drop (n - 1) := by
    obtain ⟨k, rfl⟩ : ∃ k, n = k + 1 := ⟨n - 1, by omega⟩
    simp
  rw [e, bq, List.length_cons, body, if_neg hc, h]
  simp only
  rw [body_bq _ (r.drop (n - 1)) (by simp; omega)]
theorem bq_stop (c : UInt8) (r : List UInt8) (hc : ¬ c = 34) (h : rb (c :: r) = none) : bq (c :: r) = none := by
  rw [bq, List.length_cons, body, if_neg hc, h]
/-- a quoted form at the head: its string, and how many places it takes -/
def rq : List UInt8 → Option (List UInt8 × Nat)
  | [] => none
  | c :: r => if c = 34 then (match bq r with | none => none | some (t, m) => some (t, m + 1)) else none
end Go.Proofs.YthifbihmogjjpaaDoor.Pl
