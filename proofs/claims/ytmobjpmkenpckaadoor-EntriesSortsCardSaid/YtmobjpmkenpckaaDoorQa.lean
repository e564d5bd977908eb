/-
  Plain functions, joined into one text.
-/
import Derived.Lib.Hide
import Derived.Lib.Strings
import Derived.Lib.Bytealg
import Derived.Lib.ParseIntBCases
import Derived.Lib.ItoaNum
import Derived.Lib.ItoaLen
import Derived.Test.YtmobjpmkenpckaaDoorProg
import Derived.WalkKit
import Derived.ProofKit
import Derived.BigQuiet
import Derived.WalkLawsBesides
import Derived.WalkSpells
import Derived.LoopN
import Derived.Handy
import Derived.Test.YtmobjpmkenpckaaDoorShelf
import Derived.Deep.QuietTactic
import Derived.WalkSmall
import Derived.Maps.AppendAt
import Derived.Lib.AtoiErrMem
import Derived.Lib.SmallJoins
import Derived.Lib.AppendIntMem
import Derived.Deep.RegionHeld3
import Derived.Deep.AppendLies
import Derived.OwnWalk
import Derived.Laws.OwnMore
/-
  Plain functions on bytes and lists of bytes that the contracts of this seat speak of. They import nothing of the program.
-/
namespace Go.Proofs.YtmobjpmkenpckaaDoor.Pl
open Go.Lib
def low (c : UInt8) : Bool := decide (97 ≤ (c.toNat : Int)) && decide ((c.toNat : Int) ≤ 122)
def dig (c : UInt8) : Bool := decide (48 ≤ (c.toNat : Int)) && decide ((c.toNat : Int) ≤ 57)
def plain (c : UInt8) : Bool := decide (32 ≤ (c.toNat : Int)) && decide ((c.toNat : Int) ≤ 126) && ((c.toNat : Int) != 34) && ((c.toNat : Int) != 92)
def bareC (c : UInt8) : Bool := plain c && ((c.toNat : Int) != 32)
def nameC (c : UInt8) : Bool := low c || dig c || ((c.toNat : Int) == 45)

/-- the bytes of a string -/
def L (s : ByteArray) : List UInt8 := s.data.toList

theorem L_length (s : ByteArray) : (L s).length = s.size := (size_eq s).symm
theorem L_get (s : ByteArray) (k : Nat) (h : k < s.size) : (L s)[k]'(by rw [L_length]; exact h) = s[k] := rfl
theorem L_get? (s : ByteArray) (k : Nat) (h : k < s.size) : (L s)[k]? = some s[k] := by
  rw [List.getElem?_eq_getElem (by rw [L_length]; exact h), L_get s k h]
theorem L_cons (s : ByteArray) (h : 0 < s.size) : L s = s[0] :: (L s).drop 1 := by
  have h' : 0 < (L s).length := by rw [L_length]; exact h
  have e := List.drop_eq_getElem_cons h'
  rw [List.drop_zero] at e
  exact e
theorem take_succ (s : ByteArray) (k : Nat) (h : k < s.size) : (L s).take (k + 1) = (L s).take k ++ [s[k]] := by
  have h' : k < (L s).length := by rw [L_length]; exact h
  rw [List.take_succ_eq_append_getElem h']; rfl
theorem all_succ (p : UInt8 → Bool) (s : ByteArray) (k : Nat) (h : k < s.size) (ha : ((L s).take k).all p = true) (hk : p s[k] = true) : ((L s).take (k + 1)).all p = true := by
  rw [take_succ s k h, List.all_append, ha]; simp [hk]
theorem all_whole (p : UInt8 → Bool) (s : ByteArray) (k : Nat) (h : s.size ≤ k) (ha : ((L s).take k).all p = true) : (L s).all p = true := by
  rwa [List.take_of_length_le (by rw [L_length]; exact h)] at ha
theorem all_not (p : UInt8 → Bool) (s : ByteArray) (k : Nat) (h : k < s.size) (hk : p s[k] = false) : (L s).all p = false := by
  rw [Bool.eq_false_iff]
  intro ha
  have := (List.all_eq_true.1 ha) s[k] (List.mem_of_getElem? (L_get? s k h))
  rw [hk] at this; cases this
theorem empty_facts (s : ByteArray) (h : s.size = 0) : s.toList = [] := by
  rw [toList_data]; exact List.eq_nil_of_length_eq_zero (by rw [← size_eq]; exact h)
theorem full_facts (s : ByteArray) (h : 0 < s.size) : s.toList ≠ [] ∧ s.toList.isEmpty = false := by
  have : s.toList ≠ [] := by
    rw [toList_data]; intro e
    have := size_eq s; rw [e, List.length_nil] at this; omega
  exact ⟨this, by simpa using this⟩
theorem L_nil (s : ByteArray) (h : s.size = 0) : L s = [] := List.eq_nil_of_length_eq_zero (by rw [L_length]; exact h)

/-- the decimal form of a number that is not negative, of any size -/
def nat (l : List UInt8) : Bool := !l.isEmpty && !(l.head? == some 48 && decide (1 < l.length)) && l.all dig

theorem nat_nil (s : ByteArray) (h : s.size = 0) : nat (L s) = false := by rw [L_nil s h]; rfl
theorem byte_eq (c : UInt8) (n : Nat) (hn : n < 256) (h : (c.toNat : Int) = n) : c = UInt8.ofNat n := by
  apply UInt8.toNat_inj.1; rw [UInt8.toNat_ofNat_of_lt' (by simpa using hn)]; omega
theorem head_eq (s : ByteArray) (h : 0 < s.size) : (L s).head? = some s[0] := by rw [L_cons s h]; rfl
theorem nat_zero (s : ByteArray) (h : 1 < s.size) (h0 : (s[0].toNat : Int) = 48) : nat (L s) = false := by
  have e : s[0] = 48 := byte_eq _ 48 (by omega) (by simpa using h0)
  have : (L s).head? = some 48 := by rw [head_eq s (by omega), e]
  simp [nat, this, L_length, h]
theorem nat_of (s : ByteArray) (h : 0 < s.size) (h0 : ¬ ((s[0].toNat : Int) = 48) ∨ s.size ≤ 1) : nat (L s) = (L s).all dig := by
  have e1 : (L s).isEmpty = false := by rw [L_cons s h]; rfl
  have e2 : ((L s).head? == some 48 && decide (1 < (L s).length)) = false := by
    rw [head_eq s h, L_length]
    rcases h0 with h0 | h0
    · have : (s[0] == 48) = false := by
        rw [beq_eq_false_iff_ne]; intro e; apply h0; rw [e]; rfl
      simp [this]
    · simp; intro _; omega
  simp [nat, e1, e2]
theorem L_extract (s : ByteArray) (a : Nat) : L (s.extract a s.size) = (L s).drop a := by
  show (s.extract a s.size).data.toList = _
  rw [extract_data]
  exact List.take_of_length_le (by rw [List.length_drop]; show (L s).length - a ≤ _; rw [L_length]; exact Nat.le_refl _)

/-- the decimal form of an integer, of any size -/
def dec (l : List UInt8) : Bool := if l.head? = some 45 then (l != [45, 48]) && nat (l.drop 1) else nat l
theorem dec_plain (s : ByteArray) (h : s.size = 0 ∨ ∃ h : 0 < s.size, ¬ ((s[0].toNat : Int) = 45)) : dec (L s) = nat (L s) := by
  unfold dec
  rw [if_neg]
  rcases h with h | ⟨h, h1⟩
  · rw [L_nil s h]; simp
  · rw [head_eq s h]; intro e; apply h1; injection e with e; rw [e]; rfl
theorem dec_minus0 (s : ByteArray) (h : s.toList = [45, 48]) : dec (L s) = false := by
  have : L s = [45, 48] := by rw [← h, toList_data]; rfl
  rw [this]; rfl
theorem dec_minus (s : ByteArray) (h : 0 < s.size) (h0 : (s[0].toNat : Int) = 45) (h1 : ¬ s.toList = [45, 48]) : dec (L s) = nat (L (s.extract 1 s.size)) := by
  have e : s[0] = 45 := byte_eq _ 45 (by omega) (by simpa using h0)
  have e2 : (L s != [45, 48]) = true := by
    rw [toList_data] at h1; simpa [L] using h1
  unfold dec
  rw [if_pos (by rw [head_eq s h, e]), e2, L_extract]; rfl

/-- a name -/
def name (l : List UInt8) : Bool := decide (1 ≤ l.length ∧ l.length ≤ 16) && (match l.head? with | some c => low c | none => false) && l.all nameC
theorem name_nil (s : ByteArray) (h : s.size = 0) : name (L s) = false := by rw [L_nil s h]; rfl
theorem name_long (s : ByteArray) (h : 16 < s.size) : name (L s) = false := by
  unfold name; rw [L_length]
  have : decide (1 ≤ s.size ∧ s.size ≤ 16) = false := by simp; omega
  rw [this]; rfl
theorem name_head (s : ByteArray) (h : 0 < s.size) (h0 : low s[0] = false) : name (L s) = false := by
  unfold name; rw [head_eq s h]; simp [h0]
theorem name_of (s : ByteArray) (h : 0 < s.size) (h1 : s.size ≤ 16) (h0 : low s[0] = true) : name (L s) = (L s).all nameC := by
  unfold name; rw [head_eq s h, L_length]
  have : decide (1 ≤ s.size ∧ s.size ≤ 16) = true := by simp; omega
  simp [this, h0]
theorem name_one (s : ByteArray) (h : 0 < s.size) (h0 : low s[0] = true) : ((L s).take 1).all nameC = true := by
  rw [L_cons s h]; simp [nameC, h0]

/-- the letter behind the backslash -/
def letter (c : UInt8) : Option UInt8 := if c = 34 then some 34 else if c = 92 then some 92 else if c = 10 then some 110 else if c = 13 then some 114 else if c = 9 then some 116 else none
/-- the byte of a letter -/
def raw (c : UInt8) : Option UInt8 := if c = 34 then some 34 else if c = 92 then some 92 else if c = 110 then some 10 else if c = 114 then some 13 else if c = 116 then some 9 else none
def num (o : Option UInt8) : Int := match o with | some x => (x.toNat : Int) | none => 0
theorem ne_num (c : UInt8) (n : UInt8) (h : ¬ c = n) : ((n.toNat : Int) == (c.toNat : Int)) = false := by
  rw [beq_eq_false_iff_ne]; intro e; apply h; apply UInt8.toNat_inj.1; omega
end Go.Proofs.YtmobjpmkenpckaaDoor.Pl

/-
  Plain functions: the quoted form.
-/
namespace Go.Proofs.YtmobjpmkenpckaaDoor.Pl
open Go.Lib

/-- the sixteen digits -/
def hexL : List UInt8 := [48, 49, 50, 51, 52, 53, 54, 55, 56, 57, 97, 98, 99, 100, 101, 102]
def hv (c : UInt8) : Int := Go.Lib.indexByte hexL c
theorem indexByte_lt : ∀ (l : List UInt8) (c : UInt8), Go.Lib.indexByte l c < l.length ∨ l = [] := by
  intro l c
  induction l with
  | nil => exact .inr rfl
  | cons b r ih =>
    left
    unfold Go.Lib.indexByte
    have hg := indexByte_ge r c
    rcases ih with h | h
    · split
      · simp only [List.length_cons]; omega
      · split
        · simp; omega
        · simp; omega
    · subst h; unfold Go.Lib.indexByte; split <;> simp
theorem hv_range (c : UInt8) : -1 ≤ hv c ∧ hv c ≤ 15 := by
  refine ⟨indexByte_ge _ _, ?_⟩
  have := indexByte_lt hexL c
  rcases this with h | h
  · have e : hexL.length = 16 := rfl
    rw [e] at h; unfold hv; omega
  · cases h
def hexv (a b : UInt8) : UInt8 := UInt8.ofNat (hv a * 16 + hv b).toNat
/-- the byte of two digits, where it has no shorter form -/
def hex : List UInt8 → Option UInt8
  | a :: b :: _ => if hv a < 0 ∨ hv b < 0 then none else if (letter (hexv a b)).isSome || plain (hexv a b) then none else some (hexv a b)
  | _ => none
theorem hexv_toNat (a b : UInt8) (h : 0 ≤ hv a) (h' : 0 ≤ hv b) : ((hexv a b).toNat : Int) = hv a * 16 + hv b := by
  have h1 := hv_range a
  have h2 := hv_range b
  unfold hexv
  rw [UInt8.toNat_ofNat_of_lt' (by simp; omega)]; omega
theorem L_two (s : ByteArray) (h : 1 < s.size) : L s = s[0] :: s[1] :: (L s).drop 2 := by
  have h' : 1 < (L s).length := by rw [L_length]; exact h
  rw [L_cons s (by omega)]
  have e := List.drop_eq_getElem_cons h'
  simp only [List.drop_succ_cons, List.drop_zero]
  rw [e]; rfl
theorem L_one (s : ByteArray) (h : s.size < 2) : hex (L s) = none := by
  have : (L s).length < 2 := by rw [L_length]; exact h
  match hl : L s with
  | [] => rfl
  | [_] => rfl
  | a :: b :: r => rw [hl] at this; simp at this; exact absurd this (by omega)

/-- what is written behind a backslash -/
def rb92 : List UInt8 → Option (UInt8 × Nat)
  | [] => none
  | x :: r' => if x = 120 then (hex r').map (fun v => (v, 4)) else (raw x).map (fun v => (v, 2))
/-- what is written at the head: the byte, and how many places it takes -/
def rb : List UInt8 → Option (UInt8 × Nat)
  | [] => none
  | c :: r => if c = 92 then rb92 r else if plain c then some (c, 1) else none
theorem rb_cons (c : UInt8) (r : List UInt8) : rb (c :: r) = if c = 92 then rb92 r else if plain c then some (c, 1) else none := rfl
theorem rb92_cons (x : UInt8) (r' : List UInt8) : rb92 (x :: r') = if x = 120 then (hex r').map (fun v => (v, 4)) else (raw x).map (fun v => (v, 2)) := rfl
theorem drop_cons (s : ByteArray) (k : Nat) (h : k < s.size) : (L s).drop k = s[k] :: (L s).drop (k + 1) := by
  have h' : k < (L s).length := by rw [L_length]; exact h
  rw [List.drop_eq_getElem_cons h']; rfl
theorem drop_end (s : ByteArray) (k : Nat) (h : s.size ≤ k) : (L s).drop k = [] := by
  apply List.drop_eq_nil_of_le; rw [L_length]; exact h
end Go.Proofs.YtmobjpmkenpckaaDoor.Pl

/-
  Plain functions: what readByte and readQuoted come to.
-/
namespace Go.Proofs.YtmobjpmkenpckaaDoor.Pl
open Go.Lib

theorem hex_two (s : ByteArray) (b1 : 1 < s.size) : hex (L s) = if hv s[0] < 0 ∨ hv s[1] < 0 then none else if (letter (hexv s[0] s[1])).isSome || plain (hexv s[0] s[1]) then none else some (hexv s[0] s[1]) := by
  rw [L_two s b1]; rfl
theorem rb_plain (s : ByteArray) (k : Nat) (h : k < s.size) (hc : ¬ s[k] = 92) : rb ((L s).drop k) = if plain s[k] then some (s[k], 1) else none := by
  rw [drop_cons s k h, rb_cons, if_neg hc]
theorem rb_end (s : ByteArray) (k : Nat) (h : k < s.size) (hc : s[k] = 92) (h1 : s.size ≤ k + 1) : rb ((L s).drop k) = none := by
  rw [drop_cons s k h, rb_cons, if_pos hc, drop_end s _ h1]; rfl
theorem rb_hex (s : ByteArray) (k : Nat) (h : k < s.size) (hc : s[k] = 92) (h1 : k + 1 < s.size) (hx : s[k + 1] = 120) :
    rb ((L s).drop k) = (hex (L (s.extract (k + 2) s.size))).map (fun v => (v, 4)) := by
  rw [drop_cons s k h, rb_cons, if_pos hc, drop_cons s (k + 1) h1, L_extract, rb92_cons, if_pos hx]
theorem rb_raw (s : ByteArray) (k : Nat) (h : k < s.size) (hc : s[k] = 92) (h1 : k + 1 < s.size) (hx : ¬ s[k + 1] = 120) :
    rb ((L s).drop k) = (raw s[k + 1]).map (fun v => (v, 2)) := by
  rw [drop_cons s k h, rb_cons, if_pos hc, drop_cons s (k + 1) h1, rb92_cons, if_neg hx]
theorem num_eq (c n : UInt8) (h : c = n) : ((c.toNat : Int) == (n.toNat : Int)) = true := by rw [h]; simp
theorem num_ne (c n : UInt8) (h : ¬ c = n) : ((c.toNat : Int) == (n.toNat : Int)) = false := by
  rw [beq_eq_false_iff_ne]; intro e; apply h; apply UInt8.toNat_inj.1; omega
theorem num_bne (c n : UInt8) (h : ¬ c = n) : ((c.toNat : Int) != (n.toNat : Int)) = true := by
  rw [bne_iff_ne]; intro e; apply h; apply UInt8.toNat_inj.1; omega
theorem num_nbne (c n : UInt8) (h : c = n) : ((c.toNat : Int) != (n.toNat : Int)) = false := by rw [h]; simp

/-- the content up to the closing quote, and how many places it takes with this -/
def body : Nat → List UInt8 → Option (List UInt8 × Nat)
  | 0, _ => none
  | _ + 1, [] => none
  | f + 1, c :: r => if c = 34 then some ([], 1) else match rb (c :: r) with
    | none => none
    | some (v, n) => match body f (r.drop (n - 1)) with
      | none => none
      | some (t, m) => some (v :: t, n + m)
theorem hex_len {l : List UInt8} {v : UInt8} (h : hex l = some v) : 2 ≤ l.length := by
  match l, h with
  | a :: b :: r, _ => simp
theorem rb_pos {l : List UInt8} {v : UInt8} {n : Nat} (h : rb l = some (v, n)) : 1 ≤ n ∧ n ≤ l.length := by
  cases l with
  | nil => cases h
  | cons c r =>
    rw [rb_cons] at h
    split at h
    · cases r with
      | nil => cases h
      | cons x r' =>
        rw [rb92_cons] at h
        split at h
        · cases hx : hex r' with
          | none => rw [hx] at h; cases h
          | some v' =>
            rw [hx] at h
            have := hex_len hx
            simp only [Option.map_some, Option.some.injEq, Prod.mk.injEq] at h
            simp only [List.length_cons]; omega
        · cases hx : raw x with
          | none => rw [hx] at h; cases h
          | some v' =>
            rw [hx] at h
            simp only [Option.map_some, Option.some.injEq, Prod.mk.injEq] at h
            simp only [List.length_cons]; omega
    · split at h
      · simp only [Option.some.injEq, Prod.mk.injEq] at h
        simp only [List.length_cons]; omega
      · cases h
theorem body_more : ∀ (f : Nat) (l : List UInt8), l.length < f → body (f + 1) l = body f l
  | 0, _, h => absurd h (Nat.not_lt_zero _)
  | f + 1, [], _ => rfl
  | f + 1, c :: r, h => by
    have e : ∀ n, body (f + 1) (r.drop n) = body f (r.drop n) := fun n => body_more f (r.drop n) (by simp at h ⊢; omega)
    rw [body, body]
    simp only [e]
theorem body_enough : ∀ (d f : Nat) (l : List UInt8), l.length < f → body (f + d) l = body f l
  | 0, _, _, _ => rfl
  | d + 1, f, l, h => by rw [← Nat.add_assoc, body_more (f + d) l (by omega), body_enough d f l h]
/-- the same, with as many steps as are wanted -/
def bq (l : List UInt8) : Option (List UInt8 × Nat) := body (l.length + 1) l
theorem body_bq (f : Nat) (l : List UInt8) (h : l.length < f) : body f l = bq l := by
  have := body_enough (f - (l.length + 1)) (l.length + 1) l (by omega)
  rw [show l.length + 1 + (f - (l.length + 1)) = f by omega] at this
  exact this
theorem bq_nil : bq [] = none := rfl
theorem bq_quote (r : List UInt8) : bq (34 :: r) = some ([], 1) := by simp [bq, body]
theorem bq_step (c : UInt8) (r : List UInt8) (hc : ¬ c = 34) {v : UInt8} {n : Nat} (h : rb (c :: r) = some (v, n)) :
    bq (c :: r) = match bq ((c :: r).drop n) with | none => none | some (t, m) => some (v :: t, n + m) := by
  have hn := (rb_pos h).1
  have e : (c :: r).drop n = r.drop (n - 1) := by
    obtain ⟨k, rfl⟩ : ∃ k, n = k + 1 := ⟨n - 1, by omega⟩
    simp
  rw [e, bq, List.length_cons, body, if_neg hc, h]
  simp only
  rw [body_bq _ (r.drop (n - 1)) (by simp; omega)]
theorem bq_stop (c : UInt8) (r : List UInt8) (hc : ¬ c = 34) (h : rb (c :: r) = none) : bq (c :: r) = none := by
  rw [bq, List.length_cons, body, if_neg hc, h]
/-- a quoted form at the head: its string, and how many places it takes -/
def rq : List UInt8 → Option (List UInt8 × Nat)
  | [] => none
  | c :: r => if c = 34 then (match bq r with | none => none | some (t, m) => some (t, m + 1)) else none
end Go.Proofs.YtmobjpmkenpckaaDoor.Pl

/-
  Plain functions: quoted forms in the midst of a string.
-/
namespace Go.Proofs.YtmobjpmkenpckaaDoor.Pl
open Go.Lib

/-- what has been read so far, and what is still to come -/
def More (s : ByteArray) (k0 k : Nat) (t : List UInt8) : Prop :=
  bq ((L s).drop k0) = match bq ((L s).drop k) with | none => none | some (t', m) => some (t ++ t', (k - k0) + m)
theorem More.start (s : ByteArray) (k : Nat) : More s k k [] := by
  unfold More
  cases bq ((L s).drop k) with
  | none => rfl
  | some x => simp
theorem More.stop {s : ByteArray} {k0 k : Nat} {t : List UInt8} (h : More s k0 k t) (hk : k < s.size) (hc : ¬ s[k] = 34) (hr : rb ((L s).drop k) = none) : bq ((L s).drop k0) = none := by
  rw [h]; rw [drop_cons s k hk] at hr ⊢; rw [bq_stop _ _ hc hr]
theorem More.end_ {s : ByteArray} {k0 k : Nat} {t : List UInt8} (h : More s k0 k t) (hk : s.size ≤ k) : bq ((L s).drop k0) = none := by
  rw [h, drop_end s k hk]; rfl
theorem More.quote {s : ByteArray} {k0 k : Nat} {t : List UInt8} (h : More s k0 k t) (hk : k < s.size) (hc : s[k] = 34) : bq ((L s).drop k0) = some (t, k - k0 + 1) := by
  rw [h, drop_cons s k hk, hc, bq_quote]; simp
theorem More.step {s : ByteArray} {k0 k : Nat} {t : List UInt8} (h : More s k0 k t) (hk : k < s.size) (hle : k0 ≤ k) (hc : ¬ s[k] = 34) {v : UInt8} {n : Nat} (hr : rb ((L s).drop k) = some (v, n)) : More s k0 (k + n) (t ++ [v]) := by
  unfold More at h ⊢
  rw [h]
  have e : (L s).drop (k + n) = ((L s).drop k).drop n := by rw [List.drop_drop]
  rw [e]
  rw [drop_cons s k hk] at hr ⊢
  rw [bq_step _ _ hc hr]
  cases bq ((s[k] :: (L s).drop (k + 1)).drop n) with
  | none => rfl
  | some x =>
    simp only [List.append_assoc, List.cons_append, List.nil_append, Option.some.injEq, Prod.mk.injEq, true_and]
    omega
theorem rb_bound {s : ByteArray} {k : Nat} {v : UInt8} {n : Nat} (hk : k < s.size) (hr : rb ((L s).drop k) = some (v, n)) : 1 ≤ n ∧ k + n ≤ s.size := by
  obtain ⟨a, b⟩ := rb_pos hr
  rw [List.length_drop, L_length] at b
  omega
theorem rq_end (s : ByteArray) (k : Nat) (h : s.size ≤ k) : rq ((L s).drop k) = none := by rw [drop_end s k h]; rfl
theorem rq_not (s : ByteArray) (k : Nat) (h : k < s.size) (hc : ¬ s[k] = 34) : rq ((L s).drop k) = none := by
  rw [drop_cons s k h, rq, if_neg hc]
theorem rq_none (s : ByteArray) (k : Nat) (h : k < s.size) (hb : bq ((L s).drop (k + 1)) = none) : rq ((L s).drop k) = none := by
  rw [drop_cons s k h, rq, hb]; split <;> rfl
theorem rq_some (s : ByteArray) (k : Nat) (h : k < s.size) (hc : s[k] = 34) {t : List UInt8} {m : Nat} (hb : bq ((L s).drop (k + 1)) = some (t, m)) : rq ((L s).drop k) = some (t, m + 1) := by
  rw [drop_cons s k h, rq, hb, if_pos hc]

theorem body_len : ∀ (f : Nat) (l : List UInt8) {t : List UInt8} {m : Nat}, body f l = some (t, m) → m ≤ l.length
  | 0, _, _, _, h => by cases h
  | f + 1, [], _, _, h => by cases h
  | f + 1, c :: r, t, m, h => by
    rw [body] at h
    split at h
    · simp only [Option.some.injEq, Prod.mk.injEq] at h
      simp only [List.length_cons]; omega
    · split at h
      · cases h
      · rename_i v n hr
        have hn := rb_pos hr
        split at h
        · cases h
        · rename_i t' m' hb
          have := body_len f _ hb
          simp only [Option.some.injEq, Prod.mk.injEq] at h
          simp only [List.length_cons, List.length_drop] at this hn ⊢; omega
theorem rq_len {l : List UInt8} {t : List UInt8} {m : Nat} (h : rq l = some (t, m)) : m ≤ l.length ∧ 1 ≤ m := by
  cases l with
  | nil => cases h
  | cons c r =>
    rw [rq] at h
    split at h
    · cases hb : bq r with
      | none => rw [hb] at h; cases h
      | some x =>
        obtain ⟨t', m'⟩ := x
        rw [hb] at h
        have := body_len _ _ hb
        simp only [Option.some.injEq, Prod.mk.injEq] at h
        simp only [List.length_cons]; omega
    · cases h
/-- the string of a quoted form -/
def unq (l : List UInt8) : Option (List UInt8) := match rq l with | none => none | some (t, m) => if m = l.length then some t else none
theorem unq_rq {s : ByteArray} {t : List UInt8} (h : unq (L s) = some t) : rq ((L s).drop 0) = some (t, s.size) := by
  rw [List.drop_zero]
  unfold unq at h
  cases hr : rq (L s) with
  | none => rw [hr] at h; cases h
  | some x =>
    obtain ⟨t', m⟩ := x
    rw [hr] at h
    simp only [L_length] at h
    split at h
    · rename_i e; cases h; rw [e]
    · cases h
theorem unq_short {s : ByteArray} {t : List UInt8} {m : Nat} (h : unq (L s) = none) (hr : rq ((L s).drop 0) = some (t, m)) : m < s.size := by
  rw [List.drop_zero] at hr
  have := (rq_len hr).1
  unfold unq at h
  rw [hr] at h
  simp only [L_length] at h this
  split at h
  · cases h
  · omega
end Go.Proofs.YtmobjpmkenpckaaDoor.Pl

/-
  Plain functions: the fields of a line.
-/
namespace Go.Proofs.YtmobjpmkenpckaaDoor.Pl
open Go.Lib

def bareN (l : List UInt8) : Nat := (l.takeWhile bareC).length
theorem bareN_le (l : List UInt8) : bareN l ≤ l.length := (List.takeWhile_sublist _).length_le
theorem bareN_of : ∀ (l : List UInt8) (m : Nat), m ≤ l.length → (l.take m).all bareC = true → (l.drop m).head?.map bareC ≠ some true → bareN l = m
  | [], m, h, _, _ => by simp at h; subst h; rfl
  | c :: r, 0, _, _, h => by
    simp only [List.drop_zero, List.head?_cons, Option.map_some] at h
    unfold bareN
    rw [List.takeWhile_cons, if_neg (by simpa using h)]; rfl
  | c :: r, m + 1, hl, ha, h => by
    simp only [List.take_succ_cons, List.all_cons, Bool.and_eq_true] at ha
    have := bareN_of r m (by simpa using hl) ha.2 (by simpa using h)
    unfold bareN at this ⊢
    rw [List.takeWhile_cons, if_pos ha.1, List.length_cons, this]
/-- one field at the head: its string, whether it is quoted, and how many places it takes -/
def fld (l : List UInt8) : Option ((List UInt8 × Bool) × Nat) :=
  if l.head? = some 34 then (rq l).map (fun x => ((x.1, true), x.2)) else if bareN l = 0 then none else some ((l.take (bareN l), false), bareN l)
theorem fld_len {l : List UInt8} {x : List UInt8 × Bool} {n : Nat} (h : fld l = some (x, n)) : 1 ≤ n ∧ n ≤ l.length := by
  unfold fld at h
  split at h
  · cases hr : rq l with
    | none => rw [hr] at h; cases h
    | some y =>
      obtain ⟨t, m⟩ := y
      rw [hr] at h
      have := rq_len hr
      simp only [Option.map_some, Option.some.injEq, Prod.mk.injEq] at h
      omega
  · split at h
    · cases h
    · have := bareN_le l
      simp only [Option.some.injEq, Prod.mk.injEq] at h
      omega
/-- what is yielded from here on: the fields; none at the end where the form is broken -/
def its' : Nat → List UInt8 → List (Option (List UInt8 × Bool))
  | 0, _ => []
  | f + 1, l => match fld l with
    | none => [none]
    | some (x, n) => some x :: (match l.drop n with | [] => [] | c :: r => if c = 32 then its' f r else [none])
theorem its'_more : ∀ (f : Nat) (l : List UInt8), l.length < f → its' (f + 1) l = its' f l
  | 0, _, h => absurd h (Nat.not_lt_zero _)
  | f + 1, l, h => by
    rw [its', its']
    cases hf : fld l with
    | none => rfl
    | some y =>
      obtain ⟨x, n⟩ := y
      have hn := fld_len hf
      simp only
      cases hd : l.drop n with
      | nil => rfl
      | cons c r =>
        simp only
        have : r.length < f := by
          have e : (l.drop n).length = r.length + 1 := by rw [hd]; rfl
          rw [List.length_drop] at e; omega
        rw [its'_more f r this]
theorem its'_enough : ∀ (d f : Nat) (l : List UInt8), l.length < f → its' (f + d) l = its' f l
  | 0, _, _, _ => rfl
  | d + 1, f, l, h => by rw [← Nat.add_assoc, its'_more (f + d) l (by omega), its'_enough d f l h]
def its (l : List UInt8) : List (Option (List UInt8 × Bool)) := its' (l.length + 1) l
theorem its_of (f : Nat) (l : List UInt8) (h : l.length < f) : its' f l = its l := by
  have := its'_enough (f - (l.length + 1)) (l.length + 1) l (by omega)
  rw [show l.length + 1 + (f - (l.length + 1)) = f by omega] at this
  exact this
def tail (l : List UInt8) : List (Option (List UInt8 × Bool)) := match l with | [] => [] | c :: r => if c = 32 then its r else [none]
theorem its_none {l : List UInt8} (h : fld l = none) : its l = [none] := by rw [its, its', h]
theorem its_some {l : List UInt8} {x : List UInt8 × Bool} {n : Nat} (h : fld l = some (x, n)) : its l = some x :: tail (l.drop n) := by
  have hn := fld_len h
  rw [its, its', h]
  simp only
  congr 1
  cases hd : l.drop n with
  | nil => rfl
  | cons c r =>
    simp only [tail]
    rw [its_of _ r (by
      have e : (l.drop n).length = r.length + 1 := by rw [hd]; rfl
      rw [List.length_drop] at e; omega)]
theorem tail_end (s : ByteArray) (k : Nat) (h : s.size ≤ k) : tail ((L s).drop k) = [] := by rw [drop_end s k h]; rfl
theorem tail_sp (s : ByteArray) (k : Nat) (h : k < s.size) (hc : s[k] = 32) : tail ((L s).drop k) = its ((L s).drop (k + 1)) := by rw [drop_cons s k h, tail, if_pos hc]
theorem tail_no (s : ByteArray) (k : Nat) (h : k < s.size) (hc : ¬ s[k] = 32) : tail ((L s).drop k) = [none] := by rw [drop_cons s k h, tail, if_neg hc]
theorem fld_q (s : ByteArray) (k : Nat) (h : k < s.size) (hc : s[k] = 34) : fld ((L s).drop k) = (rq ((L s).drop k)).map (fun x => ((x.1, true), x.2)) := by
  unfold fld; rw [if_pos (by rw [drop_cons s k h, hc]; rfl)]
theorem fld_b (s : ByteArray) (k : Nat) (h : s.size ≤ k ∨ ∃ h : k < s.size, ¬ s[k] = 34) : fld ((L s).drop k) = if bareN ((L s).drop k) = 0 then none else some ((((L s).drop k).take (bareN ((L s).drop k)), false), bareN ((L s).drop k)) := by
  unfold fld
  rw [if_neg]
  rcases h with h | ⟨h, hc⟩
  · rw [drop_end s k h]; simp
  · rw [drop_cons s k h]; simpa using hc
theorem bare_step (s : ByteArray) (k0 k : Nat) (h0 : k0 ≤ k) (h : k < s.size) (ha : (((L s).drop k0).take (k - k0)).all bareC = true) (hk : bareC s[k] = true) : (((L s).drop k0).take (k + 1 - k0)).all bareC = true := by
  have hl : k - k0 < ((L s).drop k0).length := by rw [List.length_drop, L_length]; omega
  have e : ((L s).drop k0)[k - k0] = s[k] := by
    rw [List.getElem_drop]
    have : k0 + (k - k0) = k := by omega
    simp only [this]; rfl
  rw [show k + 1 - k0 = (k - k0) + 1 by omega, List.take_succ_eq_append_getElem hl, List.all_append, ha, e]
  simp [hk]
theorem bare_stop (s : ByteArray) (k0 k : Nat) (h0 : k0 ≤ k) (h : k < s.size) (ha : (((L s).drop k0).take (k - k0)).all bareC = true) (hk : bareC s[k] = false) : bareN ((L s).drop k0) = k - k0 := by
  apply bareN_of _ _ (by rw [List.length_drop, L_length]; omega) ha
  rw [List.drop_drop, show k0 + (k - k0) = k by omega, drop_cons s k h]
  simp [hk]
theorem bare_end (s : ByteArray) (k0 k : Nat) (h0 : k0 ≤ k) (h1 : k ≤ s.size) (h : s.size ≤ k) (ha : (((L s).drop k0).take (k - k0)).all bareC = true) : bareN ((L s).drop k0) = k - k0 := by
  apply bareN_of _ _ (by rw [List.length_drop, L_length]; omega) ha
  rw [List.drop_drop, show k0 + (k - k0) = k by omega, drop_end s k h]
  simp
theorem its'_len : ∀ (f : Nat) (l : List UInt8), (its' f l).length ≤ f + 1
  | 0, _ => Nat.zero_le _
  | f + 1, l => by
    rw [its']
    cases hf : fld l with
    | none => simp
    | some y =>
      obtain ⟨x, n⟩ := y
      simp only
      cases hd : l.drop n with
      | nil => simp
      | cons c r =>
        simp only
        have := its'_len f r
        split <;> simp only [List.length_cons, List.length_nil] <;> omega
theorem its_len (l : List UInt8) : (its l).length ≤ l.length + 2 := its'_len _ _
end Go.Proofs.YtmobjpmkenpckaaDoor.Pl

/-
  Plain functions: numbers in decimal form.
-/
namespace Go.Proofs.YtmobjpmkenpckaaDoor.Pl
open Go.Lib

/-- the number that digits spell, behind others -/
def dstep (a : Nat) (c : UInt8) : Nat := a * 10 + (c.toNat - 48)
theorem dstep_ge (a : Nat) (c : UInt8) : a ≤ dstep a c := by
  unfold dstep
  generalize c.toNat - 48 = k
  omega
def dval (acc : Nat) (l : List UInt8) : Nat := l.foldl dstep acc
theorem dval_nil (acc : Nat) : dval acc [] = acc := rfl
theorem dval_cons (acc : Nat) (c : UInt8) (r : List UInt8) : dval acc (c :: r) = dval (dstep acc c) r := by unfold dval; rw [List.foldl_cons]
theorem dval_ge (l : List UInt8) : ∀ (acc : Nat), acc ≤ dval acc l := by
  induction l with
  | nil => intro acc; exact Nat.le_refl _
  | cons c r ih =>
    intro acc
    rw [dval_cons]
    exact Nat.le_trans (dstep_ge acc c) (ih _)
theorem dig_iff (c : UInt8) : dig c = true ↔ 48 ≤ c.toNat ∧ c.toNat ≤ 57 := by
  unfold dig; simp only [Bool.and_eq_true, decide_eq_true_eq]; omega
theorem parseM_all (M : Nat) (hM : M ≤ 18446744073709551615) (l : List UInt8) : ∀ (acc : Nat), acc ≤ M → l.all dig = true →
    parseUintM M acc l = if dval acc l ≤ M then .ok (dval acc l) else .range := by
  induction l with
  | nil => intro acc h _; rw [parseUintM, dval_nil, if_pos h]
  | cons c r ih =>
    intro acc h ha
    simp only [List.all_cons, Bool.and_eq_true] at ha
    have hc := (dig_iff c).1 ha.1
    have hge := dval_ge r (dstep acc c)
    rw [parseUintM, if_pos hc, dval_cons]
    have hd : dstep acc c = acc * 10 + (c.toNat - 48) := by unfold dstep; exact rfl
    rw [← hd]
    have hd2 : acc * 10 ≤ dstep acc c := by rw [hd]; exact Nat.le_add_right _ _
    clear hd
    generalize dstep acc c = q at *
    split
    · rw [if_neg (by omega)]
    · split
      · rw [if_neg (by omega)]
      · exact ih _ (by omega) ha.2
/-- the integer of a decimal form -/
def ival (l : List UInt8) : Int := if l.head? = some 45 then -(dval 0 (l.drop 1) : Int) else (dval 0 l : Int)
theorem nat_parts {l : List UInt8} (h : nat l = true) : ∃ c r, l = c :: r ∧ l.all dig = true := by
  unfold nat at h
  cases l with
  | nil => cases h
  | cons c r =>
    simp only [Bool.and_eq_true] at h
    exact ⟨c, r, rfl, h.2⟩
theorem parse_dec (l : List UInt8) (h : dec l = true) : parseIntB 64 l = if -9223372036854775808 ≤ ival l ∧ ival l ≤ 9223372036854775807 then .ok (ival l) else .range := by
  unfold dec at h
  split at h
  · rename_i hm
    cases l with
    | nil => cases hm
    | cons c r =>
      have hc : c = 45 := by simpa using hm
      subst hc
      simp only [Bool.and_eq_true, List.drop_succ_cons, List.drop_zero] at h
      obtain ⟨c', r', hr, ha⟩ := nat_parts h.2
      have hr0 : r ≠ [] := by rw [hr]; simp
      rw [parseIntB_minus, parseUintB, if_neg hr0, parseM_all _ (by decide) r 0 (Nat.zero_le _) ha]
      have hi : ival (45 :: r) = -(dval 0 r : Int) := by simp [ival]
      rw [hi]
      have e1 : (2 : Nat) ^ 64 - 1 = 18446744073709551615 := by decide
      have e2 : (2 : Nat) ^ (64 - 1) = 9223372036854775808 := by decide
      rw [e1, e2]
      by_cases h1 : dval 0 r ≤ 9223372036854775808
      · rw [if_pos (by omega), if_pos (by omega)]
        show (if 9223372036854775808 < dval 0 r then NumEnd.range else NumEnd.ok (-(dval 0 r : Int))) = _
        rw [if_neg (by omega)]
      · rw [if_neg (c := -9223372036854775808 ≤ -(dval 0 r : Int) ∧ _) (by omega)]
        split
        · show (if 9223372036854775808 < dval 0 r then NumEnd.range else NumEnd.ok (-(dval 0 r : Int))) = _
          rw [if_pos (by omega)]
        · rfl
  · rename_i hm
    obtain ⟨c, r, hr, ha⟩ := nat_parts h
    have hi : ival l = (dval 0 l : Int) := by unfold ival; rw [if_neg hm]
    subst hr
    have hc := (dig_iff c).1 (by simp only [List.all_cons, Bool.and_eq_true] at ha; exact ha.1)
    rw [parseIntB_plain 64 c r (by omega) (by omega), parseUintB, if_neg (by simp), parseM_all _ (by decide) (c :: r) 0 (Nat.zero_le _) ha]
    rw [hi]
    have e1 : (2 : Nat) ^ 64 - 1 = 18446744073709551615 := by decide
    have e2 : (2 : Nat) ^ (64 - 1) = 9223372036854775808 := by decide
    rw [e1, e2]
    by_cases h1 : dval 0 (c :: r) < 9223372036854775808
    · rw [if_pos (by omega), if_pos (by omega)]
      show (if 9223372036854775808 ≤ dval 0 (c :: r) then NumEnd.range else NumEnd.ok (dval 0 (c :: r) : Int)) = _
      rw [if_neg (by omega)]
    · rw [if_neg (c := -9223372036854775808 ≤ (dval 0 (c :: r) : Int) ∧ _) (by omega)]
      split
      · show (if 9223372036854775808 ≤ dval 0 (c :: r) then NumEnd.range else NumEnd.ok (dval 0 (c :: r) : Int)) = _
        rw [if_pos (by omega)]
      · rfl
/-- Int: the error, and the number -/
def intE (l : List UInt8) (lo hi : Int) : Int × Int := if dec l then (if lo ≤ ival l ∧ ival l ≤ hi then (0, ival l) else (7, 0)) else (6, 0)
theorem nat_none : nat [] = false := rfl
end Go.Proofs.YtmobjpmkenpckaaDoor.Pl

/-
  Plain functions: decimal numerals, digit by digit.
-/
namespace Go.Proofs.YtmobjpmkenpckaaDoor.Pl
open Go.Lib

theorem dg_byte (d : Nat) : ((48 + d : Nat) : Int).toNat = 48 + d := by omega
theorem itoa_last (n : Int) (h : 9 < n ∨ n < -9) : itoa n = itoa (Int.tdiv n 10) ++ [UInt8.ofNat (48 + n.natAbs % 10)] := by
  rcases h with h | h
  · obtain ⟨u, rfl⟩ : ∃ u : Nat, n = u := ⟨n.toNat, by omega⟩
    have e : Int.tdiv (u : Int) 10 = ((u / 10 : Nat) : Int) := by rw [Int.tdiv_eq_ediv_of_nonneg (by omega)]; omega
    rw [e, itoa_nonneg, itoa_nonneg, decDigits, dif_neg (by omega)]
    simp
  · obtain ⟨u, rfl⟩ : ∃ u : Nat, n = -(u : Int) := ⟨n.natAbs, by omega⟩
    have e : Int.tdiv (-(u : Int)) 10 = -((u / 10 : Nat) : Int) := by rw [Int.neg_tdiv, Int.tdiv_eq_ediv_of_nonneg (by omega)]; omega
    rw [e, itoa_neg u (by omega), itoa_neg (u / 10) (by omega), decDigits, dif_neg (by omega)]
    simp
theorem itoa_minus (n : Int) (h : n < 0) : itoa n = 45 :: itoa (-n) := by
  obtain ⟨u, rfl⟩ : ∃ u : Nat, n = -(u : Int) := ⟨n.natAbs, by omega⟩
  rw [itoa_neg u (by omega), Int.neg_neg, itoa_nonneg]
theorem itoa_one (n : Int) (h0 : 0 ≤ n) (h : n ≤ 9) : itoa n = [UInt8.ofNat (48 + n).toNat] := by
  obtain ⟨u, rfl⟩ : ∃ u : Nat, n = u := ⟨n.toNat, by omega⟩
  rw [itoa_nonneg, decDigits, dif_pos (by omega)]
  congr 2
end Go.Proofs.YtmobjpmkenpckaaDoor.Pl

/-
  Plain functions: the quoted form of a string.
-/
namespace Go.Proofs.YtmobjpmkenpckaaDoor.Pl
open Go.Lib

def hexd (n : Nat) : UInt8 := hexL.getD n 0
/-- how a byte stands between quotes -/
def esc (c : UInt8) : List UInt8 := if plain c then [c] else match letter c with
  | some l => [92, l]
  | none => [92, 120, hexd (c.toNat / 16), hexd (c.toNat % 16)]
theorem esc_plain (c : UInt8) (h : plain c = true) : esc c = [c] := by unfold esc; rw [if_pos h]
theorem esc_letter (c l : UInt8) (h : plain c = false) (hl : letter c = some l) : esc c = [92, l] := by unfold esc; rw [h, hl]; rfl
theorem esc_hex (c : UInt8) (h : plain c = false) (hl : letter c = none) : esc c = [92, 120, hexd (c.toNat / 16), hexd (c.toNat % 16)] := by unfold esc; rw [h, hl]; rfl
theorem esc_len (c : UInt8) : (esc c).length ≤ 4 ∧ 1 ≤ (esc c).length := by
  unfold esc
  split
  · simp
  · split <;> simp
def qbody (l : List UInt8) : List UInt8 := l.flatMap esc
def quote (l : List UInt8) : List UInt8 := 34 :: (qbody l ++ [34])
theorem qbody_snoc (s : ByteArray) (k : Nat) (h : k < s.size) : qbody ((L s).take (k + 1)) = qbody ((L s).take k) ++ esc s[k] := by
  have e : (L s).take (k + 1) = (L s).take k ++ [s[k]] := List.take_succ_eq_append_getElem h
  unfold qbody
  rw [e, List.flatMap_append]
  simp
theorem qbody_len (l : List UInt8) : (qbody l).length ≤ 4 * l.length := by
  induction l with
  | nil => simp [qbody]
  | cons c r ih =>
    have := (esc_len c).1
    unfold qbody at ih ⊢
    rw [List.flatMap_cons, List.length_append, List.length_cons]
    omega
end Go.Proofs.YtmobjpmkenpckaaDoor.Pl

/-
  Contracts of the functions on single bytes.
-/
namespace Go.Proofs.YtmobjpmkenpckaaDoor
open Go.ChangeShapes Go.WideShapes Go.ChangeAt Go.RowKit Go.Proofs

theorem isPlain_any (c : UInt8) (w : World) :
    Calls Tryd.prog 102 #[.int .u8 (c.toNat : Int)] w fun e w' => e = .returned (.bool (Pl.plain c)) ∧ w = w' := by
  have hb : c.toNat < 256 := c.toNat_lt
  by_cases h1 : 32 ≤ (c.toNat : Int) <;> by_cases h2 : (c.toNat : Int) ≤ 126
  all_goals
    go_enter Tryd.func102, Tryd.ntmps102
    go_wp2
    all_goals
      go_ret
      exact ⟨by first | (simp [Pl.plain, *]; done) | (simp [Pl.plain, *]; omega), rfl⟩



end Go.Proofs.YtmobjpmkenpckaaDoor

/-
  Contracts of the functions that only scan a string.
-/
namespace Go.Proofs.YtmobjpmkenpckaaDoor
open Go.ChangeShapes Go.WideShapes Go.ChangeAt Go.RowKit Go.Proofs

theorem retB {a b : Bool} (h : a = b) : Ending.returned (.bool a) = Ending.returned (.bool b) := by rw [h]
theorem retBW {a b : Bool} {w : World} (h : b = a) : Ending.returned (.bool a) = Ending.returned (.bool b) ∧ w = w := ⟨by rw [h], rfl⟩

end Go.Proofs.YtmobjpmkenpckaaDoor

/-
  Contracts of the functions on quoted strings.
-/
namespace Go.Proofs.YtmobjpmkenpckaaDoor
open Go.ChangeShapes Go.WideShapes Go.ChangeAt Go.RowKit Go.Proofs

def escCells : Array Value := #[.int .u8 34, .int .u8 34, .int .u8 92, .int .u8 92, .int .u8 10, .int .u8 110, .int .u8 13, .int .u8 114, .int .u8 9, .int .u8 116]
def EscAt (w : World) : Prop := ∃ t fr, w.heap[4]? = some (.cells escCells t fr)
theorem EscAt.lt {w : World} (h : EscAt w) : 4 < w.heap.size := by
  obtain ⟨t, fr, h⟩ := h
  rcases Nat.lt_or_ge 4 w.heap.size with hlt | hge
  · exact hlt
  · rw [Array.getElem?_eq_none hge] at h; cases h
theorem EscAt.below {B : Nat} {w w' : World} (h : EscAt w) (hb : Below B w w') (hB : 4 < B) : EscAt w' := by
  obtain ⟨t, fr, h⟩ := h
  exact ⟨t, fr, (hb.block _ hB).trans h⟩
theorem esc0 : ∀ w, (Instr.index 133 (.agg escCells) (.int .i64 0)).run Tryd.prog w = .ok (.agg #[.int .u8 34, .int .u8 34]) w := fun _ => by kernel_rfl
theorem esc1 : ∀ w, (Instr.index 133 (.agg escCells) (.int .i64 1)).run Tryd.prog w = .ok (.agg #[.int .u8 92, .int .u8 92]) w := fun _ => by kernel_rfl
theorem esc2 : ∀ w, (Instr.index 133 (.agg escCells) (.int .i64 2)).run Tryd.prog w = .ok (.agg #[.int .u8 10, .int .u8 110]) w := fun _ => by kernel_rfl
theorem esc3 : ∀ w, (Instr.index 133 (.agg escCells) (.int .i64 3)).run Tryd.prog w = .ok (.agg #[.int .u8 13, .int .u8 114]) w := fun _ => by kernel_rfl
theorem esc4 : ∀ w, (Instr.index 133 (.agg escCells) (.int .i64 4)).run Tryd.prog w = .ok (.agg #[.int .u8 9, .int .u8 116]) w := fun _ => by kernel_rfl

set_option maxHeartbeats 800000 in
theorem letterOf_any (c : UInt8) (w : World) (he : EscAt w) :
    Calls Tryd.prog 103 #[.int .u8 (c.toNat : Int)] w fun e w' => e = .returned (.tuple #[.int .u8 (Pl.num (Pl.letter c)), .bool (Pl.letter c).isSome]) ∧ Below w.heap.size w w' := by
  obtain ⟨t, fr, hg⟩ := he
  have HG := Lib.hid hg
  clear hg
  have j0 := esc0
  have j1 := esc1
  have j2 := esc2
  have j3 := esc3
  have j4 := esc4
  by_cases e0 : c = 34
  · subst e0
    go_enter Tryd.func103, Tryd.ntmps103
    go_wp2_with (refine wpList_load_row rfl 133 _ rfl 4 rfl t _ fr _ HG.out Tryd.underlying133 rfl (by kernel_rfl) ?_)
    refine wp_loop_rounds 6 ?_
    rw [rounds_succ]
    go_wp2
    go_ret2
    exact ⟨rfl, ((Below.refl _ _).alloc (by first | (simp; done) | (simp; omega)) _)⟩
  have f0 : ((34 : Int) == (c.toNat : Int)) = false := Pl.ne_num c 34 e0
  by_cases e1 : c = 92
  · subst e1
    go_enter Tryd.func103, Tryd.ntmps103
    go_wp2_with (refine wpList_load_row rfl 133 _ rfl 4 rfl t _ fr _ HG.out Tryd.underlying133 rfl (by kernel_rfl) ?_)
    refine wp_loop_rounds 6 ?_
    rw [rounds_succ]
    go_wp2
    rw [rounds_succ]
    go_wp2
    go_ret2
    exact ⟨rfl, (((Below.refl _ _).alloc (by first | (simp; done) | (simp; omega)) _).alloc (by first | (simp; done) | (simp; omega)) _)⟩
  have f1 : ((92 : Int) == (c.toNat : Int)) = false := Pl.ne_num c 92 e1
  by_cases e2 : c = 10
  · subst e2
    go_enter Tryd.func103, Tryd.ntmps103
    go_wp2_with (refine wpList_load_row rfl 133 _ rfl 4 rfl t _ fr _ HG.out Tryd.underlying133 rfl (by kernel_rfl) ?_)
    refine wp_loop_rounds 6 ?_
    rw [rounds_succ]
    go_wp2
    rw [rounds_succ]
    go_wp2
    rw [rounds_succ]
    go_wp2
    go_ret2
    exact ⟨rfl, ((((Below.refl _ _).alloc (by first | (simp; done) | (simp; omega)) _).alloc (by first | (simp; done) | (simp; omega)) _).alloc (by first | (simp; done) | (simp; omega)) _)⟩
  have f2 : ((10 : Int) == (c.toNat : Int)) = false := Pl.ne_num c 10 e2
  by_cases e3 : c = 13
  · subst e3
    go_enter Tryd.func103, Tryd.ntmps103
    go_wp2_with (refine wpList_load_row rfl 133 _ rfl 4 rfl t _ fr _ HG.out Tryd.underlying133 rfl (by kernel_rfl) ?_)
    refine wp_loop_rounds 6 ?_
    rw [rounds_succ]
    go_wp2
    rw [rounds_succ]
    go_wp2
    rw [rounds_succ]
    go_wp2
    rw [rounds_succ]
    go_wp2
    go_ret2
    exact ⟨rfl, (((((Below.refl _ _).alloc (by first | (simp; done) | (simp; omega)) _).alloc (by first | (simp; done) | (simp; omega)) _).alloc (by first | (simp; done) | (simp; omega)) _).alloc (by first | (simp; done) | (simp; omega)) _)⟩
  have f3 : ((13 : Int) == (c.toNat : Int)) = false := Pl.ne_num c 13 e3
  by_cases e4 : c = 9
  · subst e4
    go_enter Tryd.func103, Tryd.ntmps103
    go_wp2_with (refine wpList_load_row rfl 133 _ rfl 4 rfl t _ fr _ HG.out Tryd.underlying133 rfl (by kernel_rfl) ?_)
    refine wp_loop_rounds 6 ?_
    rw [rounds_succ]
    go_wp2
    rw [rounds_succ]
    go_wp2
    rw [rounds_succ]
    go_wp2
    rw [rounds_succ]
    go_wp2
    rw [rounds_succ]
    go_wp2
    go_ret2
    exact ⟨rfl, ((((((Below.refl _ _).alloc (by first | (simp; done) | (simp; omega)) _).alloc (by first | (simp; done) | (simp; omega)) _).alloc (by first | (simp; done) | (simp; omega)) _).alloc (by first | (simp; done) | (simp; omega)) _).alloc (by first | (simp; done) | (simp; omega)) _)⟩
  have f4 : ((9 : Int) == (c.toNat : Int)) = false := Pl.ne_num c 9 e4
  have H : Hid (Pl.letter c = none) := Lib.hid (by simp [Pl.letter, *])
  clear e0 e1 e2 e3 e4
  go_enter Tryd.func103, Tryd.ntmps103
  go_wp2_with (refine wpList_load_row rfl 133 _ rfl 4 rfl t _ fr _ HG.out Tryd.underlying133 rfl (by kernel_rfl) ?_)
  refine wp_loop_rounds 6 ?_
  rw [rounds_succ]
  go_wp2
  rw [rounds_succ]
  go_wp2
  rw [rounds_succ]
  go_wp2
  rw [rounds_succ]
  go_wp2
  rw [rounds_succ]
  go_wp2
  rw [rounds_succ]
  go_wp2
  go_ret2
  exact ⟨by rw [H.out]; rfl, ((((((Below.refl _ _).alloc (by first | (simp; done) | (simp; omega)) _).alloc (by first | (simp; done) | (simp; omega)) _).alloc (by first | (simp; done) | (simp; omega)) _).alloc (by first | (simp; done) | (simp; omega)) _).alloc (by first | (simp; done) | (simp; omega)) _)⟩

end Go.Proofs.YtmobjpmkenpckaaDoor

/-
  Contracts of the functions on quoted strings: two digits, one byte.
-/
namespace Go.Proofs.YtmobjpmkenpckaaDoor
open Go.ChangeShapes Go.WideShapes Go.ChangeAt Go.RowKit Go.Proofs

theorem or_fin : ∀ x y : Fin 16, bits BinOp.or IntKind.i64 ((x.val : Int) * 16) (y.val : Int) = (x.val : Int) * 16 + (y.val : Int) := by decide +kernel
theorem or_nib (x y : Int) (h0 : 0 ≤ x) (h1 : x ≤ 15) (h2 : 0 ≤ y) (h3 : y ≤ 15) : bits BinOp.or IntKind.i64 (x * 16) y % 256 = x * 16 + y := by
  have := or_fin ⟨x.toNat, by omega⟩ ⟨y.toNat, by omega⟩
  simp only [Int.toNat_of_nonneg h0, Int.toNat_of_nonneg h2] at this
  rw [this]; omega
theorem EscAt.drewN {w : World} (h : EscAt w) (n : Nat) : EscAt (w.drewN n) := h
theorem below_drewN' {w : World} (n : Nat) : Below w.heap.size w (w.drewN n) := below_drewN (Below.refl _ _) n
theorem hv_eq (c : UInt8) : Lib.indexByte ([48, 49, 50, 51, 52, 53, 54, 55, 56, 57, 97, 98, 99, 100, 101, 102] : List UInt8) ((c.toNat : Int)).toNat.toUInt8 = Pl.hv c := by
  have : ((c.toNat : Int)).toNat.toUInt8 = c := by simp
  rw [this]; rfl
end Go.Proofs.YtmobjpmkenpckaaDoor

/-
  Contracts of the functions on quoted strings: one byte.
-/
namespace Go.Proofs.YtmobjpmkenpckaaDoor
open Go.ChangeShapes Go.WideShapes Go.ChangeAt Go.RowKit Go.Proofs

def ByteOut (w : World) (k : Int) (ok : Bool) (V : Option UInt8) (e : Ending) (w' : World) : Prop :=
  ∃ n : Int, e = .returned (.tuple #[.int .u8 n, .int .i64 k, .bool ok]) ∧ Below w.heap.size w w' ∧ ∀ v, V = some v → n = (v.toNat : Int)

end Go.Proofs.YtmobjpmkenpckaaDoor

/-
  Contracts of the functions on quoted strings: readQuoted, Unquote.
-/
namespace Go.Proofs.YtmobjpmkenpckaaDoor
open Go.ChangeShapes Go.WideShapes Go.ChangeAt Go.RowKit Go.Proofs

def B8 (c : UInt8) : Value := .int .u8 (c.toNat : Int)
theorem B8_one (c : UInt8) : ∀ u ∈ [B8 c], u.oneCell' = true := by simp [B8, Value.oneCell']
theorem infoB : (Tryd.prog.info? 5).map (fun i => (i.zero, i.size, i.bytes)) = some (some (.int .u8 0), 1, 1) := by kernel_rfl
theorem str_nums (t : List UInt8) : strOfNums (t.map fun c => (c.toNat : Int)) = ⟨t.toArray⟩ := by
  have : (strOfNums (t.map fun c => (c.toNat : Int))).data.toList = t := by
    rw [strOfNums_data, List.map_map]
    conv => rhs; rw [← List.map_id t]
    apply List.map_congr_left
    intro c _
    simp
  rw [← Lib.mk_data (strOfNums _), this]
/-- string(b) of a row of the call's own -/
theorem conv_own {w : World} {base : Nat} {v : Value} {n : Nat} {t : List UInt8} (hown : w.ownsRow base 5 1 v n (t.map B8)) :
    (convert 59 9 v).run Tryd.prog w = .ok (.string ⟨t.toArray⟩) w := by
  have hn : n = t.length := by have := hown.1; simpa using this.symm
  rcases hown.2 with ⟨rfl, h0⟩ | ⟨g, cap, cur, rfl, _⟩
  · have : t = [] := List.eq_nil_of_length_eq_zero (by omega)
    subst this
    exact run_convert_bytes_nil w _ _ Tryd.underlying59 Tryd.underlying5 0 0 _ Tryd.underlying9
  · rw [run_convert_bytes_arg w _ _ Tryd.underlying59 Tryd.underlying5 g 0 n cap (t.map fun c => (c.toNat : Int)) (by simp [hn]) (fun i hi => ?_) _ Tryd.underlying9, str_nums]
    have hc := hown.cells (g := g) rfl i (B8 (t[i]'(by omega))) (by rw [List.getElem?_map, List.getElem?_eq_getElem (by omega)]; rfl)
    rw [Nat.zero_add]
    have hadd : (⟨g, 0, none⟩ : Addr).add i = ⟨g, i, none⟩ := by unfold Addr.add; split <;> simp_all
    rw [hadd] at hc
    rw [hc, B8]
    congr 2
    rw [List.getD_eq_getElem?_getD, List.getElem?_map, List.getElem?_eq_getElem (by omega)]
    rfl

theorem own_below {w w' : World} {B e size n : Nat} {v : Value} {xs : List Value} (h : w.ownsRow B e size v n xs) (hb : Below w.heap.size w w') : w'.ownsRow B e size v n xs := by
  obtain ⟨h1, h2⟩ := h
  refine ⟨h1, ?_⟩
  rcases h2 with h2 | ⟨g, cap, cur, hv, hg, hh, r⟩
  · exact .inl h2
  · refine .inr ⟨g, cap, cur, hv, hg, ?_, r⟩
    rw [hb.block g (by
      rcases Nat.lt_or_ge g w.heap.size with h | h
      · exact h
      · rw [Array.getElem?_eq_none h] at hh; cases hh)]
    exact hh
theorem below_of {B : Nat} {w w1 w2 : World} (hb : Below B w w1) (h : Below w1.heap.size w1 w2) (hB : B ≤ w.heap.size) : Below B w w2 := hb.trans (h.mono (Nat.le_trans hB hb.size))
theorem own_snoc {w : World} {base : Nat} {v : Value} {t : List UInt8} {c : UInt8} (h : w.ownsRow base 5 1 v (t.length + 1) (t.map B8 ++ [.int .u8 (c.toNat : Int)])) : w.ownsRow base 5 1 v (t ++ [c]).length ((t ++ [c]).map B8) := by
  simpa [B8] using h

end Go.Proofs.YtmobjpmkenpckaaDoor

/-
  Contracts of the functions on quoted strings: readQuoted where there is no quoted form; Unquote.
-/
namespace Go.Proofs.YtmobjpmkenpckaaDoor
open Go.ChangeShapes Go.WideShapes Go.ChangeAt Go.RowKit Go.Proofs

end Go.Proofs.YtmobjpmkenpckaaDoor

/-
  Contracts of Int and Digits.
-/
namespace Go.Proofs.YtmobjpmkenpckaaDoor
open Go.ChangeShapes Go.WideShapes Go.ChangeAt Go.RowKit Go.Proofs

/-- the variables of the library that are read -/
def LibAt (w : World) : Prop := True ∧ Lib.TabIs Tryd.prog w "internal/strconv.uint64pow10" .u64 Lib.pow10Tab
theorem gPow : Tryd.prog.globalNamed "internal/strconv.uint64pow10" = some 1 := by kernel_rfl
theorem LibAt.below {B : Nat} {w w' : World} (h : LibAt w) (hb : Below B w w') (hB : 5 ≤ B) : LibAt w' := by
  exact ⟨trivial, var?_below hb gPow (by omega) h.2⟩

theorem FormatInt_any (n : Int) (w : World) (hl : LibAt w) (h0 : -9223372036854775808 ≤ n) (h1 : n ≤ 9223372036854775807) :
    Calls Tryd.prog 63 #[.int .i64 n, .int .i64 10] w fun e w' => e = .returned (.string ⟨(Lib.itoa n).toArray⟩) ∧ Below w.heap.size w w' :=
  (Tryd.strconv_FormatInt_10 n h0 h1 w hl.2).mono fun e w' ⟨a, k, os, b⟩ => ⟨a, by rw [b]; exact Lib.below_grow _ _ (Nat.le_refl _) _ _⟩
theorem Digits_any (n : Int) (w : World) (hl : LibAt w) (h0 : -9223372036854775808 ≤ n) (h1 : n ≤ 9223372036854775807) :
    Calls Tryd.prog 56 #[.int .i64 n] w fun e w' => e = .returned (.string ⟨(Lib.itoa n).toArray⟩) ∧ Below w.heap.size w w' := by
  have HL := Lib.hid hl
  clear hl
  go_enter Tryd.func56, Tryd.ntmps56
  go_wp2_with (go_at_call 63; refine (FormatInt_any n _ HL.out h0 h1).mono ?_; rintro e w1 ⟨rfl, hb⟩; have HB := Lib.hid hb; clear hb)
  go_ret
  exact ⟨rfl, HB.out⟩
end Go.Proofs.YtmobjpmkenpckaaDoor

/-
  The contract of the reference's Digits.
-/
namespace Go.Proofs.YtmobjpmkenpckaaDoor
open Go.ChangeShapes Go.WideShapes Go.ChangeAt Go.RowKit Go.Proofs

/-- string([]byte{c}) -/
theorem conv_at (w : World) (B : Nat) (m : Int) (c : UInt8) (hm : m = c.toNat) (h : w.cell? ⟨B, 0, none⟩ = some (.int .u8 m)) :
    (convert 59 9 (.slice (some ⟨B, 0, none⟩) 1 1)).run Tryd.prog w = .ok (.string ⟨[c].toArray⟩) w := by
  subst hm
  rw [run_convert_bytes_arg _ _ _ Tryd.underlying59 Tryd.underlying5 B 0 1 1 [(c.toNat : Int)] rfl (fun i hi => ?_) _ Tryd.underlying9]
  · exact congrArg (fun t => Result.ok (Value.string t) _) (str_nums [c])
  · have : i = 0 := by simpa using hi
    subst this
    exact h
theorem cell_new (w : World) (m : Value) (t : TypeId) : (w.alloc (.cells #[m] t)).cell? ⟨w.heap.size, 0, none⟩ = some m :=
  World.news_of_block (cs := #[m]) (t := t) (fr := (0, 0)) (heap_alloc_new w _) 0 _ rfl
theorem conv_new (w : World) (m : Int) (c : UInt8) (hm : m = c.toNat) :
    (convert 59 9 (.slice (some ⟨w.heap.size, 0, none⟩) 1 1)).run Tryd.prog (w.alloc (.cells #[.int .u8 m] 5)) = .ok (.string ⟨[c].toArray⟩) (w.alloc (.cells #[.int .u8 m] 5)) :=
  conv_at _ _ m c hm (cell_new _ _ _)


theorem undrew {w w1 : World} (h : Below w.drew.heap.size w.drew w1) : Below w.heap.size w w1 := ⟨h.os, h.tape, h.output, h.size, h.block⟩
def digM (n : Int) : Nat := 2 * n.natAbs + (if n < 0 then 1 else 0)
theorem bytes_app (a b : List UInt8) : (⟨a.toArray⟩ : ByteArray) ++ ⟨b.toArray⟩ = ⟨(a ++ b).toArray⟩ := by
  apply ByteArray.ext; simp


end Go.Proofs.YtmobjpmkenpckaaDoor

/-
  Contracts of appendByte and Quote.
-/
namespace Go.Proofs.YtmobjpmkenpckaaDoor
open Go.ChangeShapes Go.WideShapes Go.ChangeAt Go.RowKit Go.Proofs

theorem hexi0 : ∀ w, (Instr.index 9 (.string ⟨#[48, 49, 50, 51, 52, 53, 54, 55, 56, 57, 97, 98, 99, 100, 101, 102]⟩) (.int .u8 ((0 : Nat) : Int))).run Tryd.prog w = .ok (.int .u8 ((Pl.hexd 0).toNat : Int)) w := fun _ => by kernel_rfl
theorem hexi1 : ∀ w, (Instr.index 9 (.string ⟨#[48, 49, 50, 51, 52, 53, 54, 55, 56, 57, 97, 98, 99, 100, 101, 102]⟩) (.int .u8 ((1 : Nat) : Int))).run Tryd.prog w = .ok (.int .u8 ((Pl.hexd 1).toNat : Int)) w := fun _ => by kernel_rfl
theorem hexi2 : ∀ w, (Instr.index 9 (.string ⟨#[48, 49, 50, 51, 52, 53, 54, 55, 56, 57, 97, 98, 99, 100, 101, 102]⟩) (.int .u8 ((2 : Nat) : Int))).run Tryd.prog w = .ok (.int .u8 ((Pl.hexd 2).toNat : Int)) w := fun _ => by kernel_rfl
theorem hexi3 : ∀ w, (Instr.index 9 (.string ⟨#[48, 49, 50, 51, 52, 53, 54, 55, 56, 57, 97, 98, 99, 100, 101, 102]⟩) (.int .u8 ((3 : Nat) : Int))).run Tryd.prog w = .ok (.int .u8 ((Pl.hexd 3).toNat : Int)) w := fun _ => by kernel_rfl
theorem hexi4 : ∀ w, (Instr.index 9 (.string ⟨#[48, 49, 50, 51, 52, 53, 54, 55, 56, 57, 97, 98, 99, 100, 101, 102]⟩) (.int .u8 ((4 : Nat) : Int))).run Tryd.prog w = .ok (.int .u8 ((Pl.hexd 4).toNat : Int)) w := fun _ => by kernel_rfl
theorem hexi5 : ∀ w, (Instr.index 9 (.string ⟨#[48, 49, 50, 51, 52, 53, 54, 55, 56, 57, 97, 98, 99, 100, 101, 102]⟩) (.int .u8 ((5 : Nat) : Int))).run Tryd.prog w = .ok (.int .u8 ((Pl.hexd 5).toNat : Int)) w := fun _ => by kernel_rfl
theorem hexi6 : ∀ w, (Instr.index 9 (.string ⟨#[48, 49, 50, 51, 52, 53, 54, 55, 56, 57, 97, 98, 99, 100, 101, 102]⟩) (.int .u8 ((6 : Nat) : Int))).run Tryd.prog w = .ok (.int .u8 ((Pl.hexd 6).toNat : Int)) w := fun _ => by kernel_rfl
theorem hexi7 : ∀ w, (Instr.index 9 (.string ⟨#[48, 49, 50, 51, 52, 53, 54, 55, 56, 57, 97, 98, 99, 100, 101, 102]⟩) (.int .u8 ((7 : Nat) : Int))).run Tryd.prog w = .ok (.int .u8 ((Pl.hexd 7).toNat : Int)) w := fun _ => by kernel_rfl
theorem hexi8 : ∀ w, (Instr.index 9 (.string ⟨#[48, 49, 50, 51, 52, 53, 54, 55, 56, 57, 97, 98, 99, 100, 101, 102]⟩) (.int .u8 ((8 : Nat) : Int))).run Tryd.prog w = .ok (.int .u8 ((Pl.hexd 8).toNat : Int)) w := fun _ => by kernel_rfl
theorem hexi9 : ∀ w, (Instr.index 9 (.string ⟨#[48, 49, 50, 51, 52, 53, 54, 55, 56, 57, 97, 98, 99, 100, 101, 102]⟩) (.int .u8 ((9 : Nat) : Int))).run Tryd.prog w = .ok (.int .u8 ((Pl.hexd 9).toNat : Int)) w := fun _ => by kernel_rfl
theorem hexi10 : ∀ w, (Instr.index 9 (.string ⟨#[48, 49, 50, 51, 52, 53, 54, 55, 56, 57, 97, 98, 99, 100, 101, 102]⟩) (.int .u8 ((10 : Nat) : Int))).run Tryd.prog w = .ok (.int .u8 ((Pl.hexd 10).toNat : Int)) w := fun _ => by kernel_rfl
theorem hexi11 : ∀ w, (Instr.index 9 (.string ⟨#[48, 49, 50, 51, 52, 53, 54, 55, 56, 57, 97, 98, 99, 100, 101, 102]⟩) (.int .u8 ((11 : Nat) : Int))).run Tryd.prog w = .ok (.int .u8 ((Pl.hexd 11).toNat : Int)) w := fun _ => by kernel_rfl
theorem hexi12 : ∀ w, (Instr.index 9 (.string ⟨#[48, 49, 50, 51, 52, 53, 54, 55, 56, 57, 97, 98, 99, 100, 101, 102]⟩) (.int .u8 ((12 : Nat) : Int))).run Tryd.prog w = .ok (.int .u8 ((Pl.hexd 12).toNat : Int)) w := fun _ => by kernel_rfl
theorem hexi13 : ∀ w, (Instr.index 9 (.string ⟨#[48, 49, 50, 51, 52, 53, 54, 55, 56, 57, 97, 98, 99, 100, 101, 102]⟩) (.int .u8 ((13 : Nat) : Int))).run Tryd.prog w = .ok (.int .u8 ((Pl.hexd 13).toNat : Int)) w := fun _ => by kernel_rfl
theorem hexi14 : ∀ w, (Instr.index 9 (.string ⟨#[48, 49, 50, 51, 52, 53, 54, 55, 56, 57, 97, 98, 99, 100, 101, 102]⟩) (.int .u8 ((14 : Nat) : Int))).run Tryd.prog w = .ok (.int .u8 ((Pl.hexd 14).toNat : Int)) w := fun _ => by kernel_rfl
theorem hexi15 : ∀ w, (Instr.index 9 (.string ⟨#[48, 49, 50, 51, 52, 53, 54, 55, 56, 57, 97, 98, 99, 100, 101, 102]⟩) (.int .u8 ((15 : Nat) : Int))).run Tryd.prog w = .ok (.int .u8 ((Pl.hexd 15).toNat : Int)) w := fun _ => by kernel_rfl
theorem hex_index (n : Nat) (h : n < 16) : ∀ w, (Instr.index 9 (.string ⟨#[48, 49, 50, 51, 52, 53, 54, 55, 56, 57, 97, 98, 99, 100, 101, 102]⟩) (.int .u8 (n : Int))).run Tryd.prog w = .ok (.int .u8 ((Pl.hexd n).toNat : Int)) w :=
  match n, h with
  | 0, _ => hexi0
  | 1, _ => hexi1
  | 2, _ => hexi2
  | 3, _ => hexi3
  | 4, _ => hexi4
  | 5, _ => hexi5
  | 6, _ => hexi6
  | 7, _ => hexi7
  | 8, _ => hexi8
  | 9, _ => hexi9
  | 10, _ => hexi10
  | 11, _ => hexi11
  | 12, _ => hexi12
  | 13, _ => hexi13
  | 14, _ => hexi14
  | 15, _ => hexi15
  | m + 16, h => absurd h (by omega)

theorem redrew {B : Nat} {w w1 : World} (h : Below B w w1) : Below B w w1.drew := ⟨h.os, h.tape, h.output, h.size, h.block⟩
theorem own_app {w : World} {base : Nat} {v : Value} {n m : Nat} {t u : List UInt8} {xs : List Value} (hn : n = t.length) (hm : m = u.length) (hx : xs = u.map B8) (h : w.ownsRow base 5 1 v (n + m) (t.map B8 ++ xs)) : w.ownsRow base 5 1 v (t ++ u).length ((t ++ u).map B8) := by
  subst hn hm hx
  simpa using h

set_option maxRecDepth 100000 in
theorem appendByte_plain (c : UInt8) (v : Value) (t : List UInt8) (base : Nat) (w : World) (hown : w.ownsRow base 5 1 v t.length (t.map B8)) (hb : base ≤ w.heap.size) (hl : t.length ≤ 17179869184) (hp : Pl.plain c = true) :
    Calls Tryd.prog 101 #[v, .int .u8 (c.toNat : Int)] w fun e w' => ∃ v', e = .returned v' ∧ w'.ownsRow base 5 1 v' (t ++ Pl.esc c).length ((t ++ Pl.esc c).map B8) ∧ Below base w w' := by
  have H := Lib.hid (Pl.esc_plain c hp)
  have HP := Lib.hid hp
  clear hp
  obtain ⟨i0, hi, hz0, hz1, hz2⟩ := info_parts infoB
  go_enter Tryd.func101, Tryd.ntmps101
  go_wp2_with (first
    | (go_at_call 102; refine (isPlain_any _ _).mono ?_; rw [HP.out]; rintro e w' ⟨rfl, rfl⟩)
    | (at_builtin; refine wpList_append_own _ rfl (.tmp 9) (.tmp 11) 59 rfl base 5 i0 (.int .u8 0) 1 1 Tryd.underlying59 hi hz0 hz1 hz2 rfl (by decide) _ t.length _ rfl (hown.alloc _) ⟨w.heap.size, 0, none⟩ 1 1 [.int .u8 (c.toNat : Int)] rfl rfl (cell_one_new _ _ _) (by simp [Value.oneCell']) (by unfold maxLen; omega) (by omega) (by simp; omega) ?_; intro v2 w2 hown2 hg2 _; have HG2 := Lib.hid hg2; clear hg2))
  go_ret
  exact ⟨v2, rfl, by rw [H.out]; exact own_app rfl rfl rfl hown2, ((Below.refl base w).alloc hb _).grown HG2.out (by simp; omega) (fun g hg => (hown.lt g hg).1)⟩

theorem two_new (w : World) (a b : Value) : ∀ (j : Nat) (u : Value), [a, b][j]? = some u → (w.alloc (.cells #[a, b] 5)).cell? ((⟨w.heap.size, 0, none⟩ : Addr).add j) = some u :=
  World.news_of_block (cs := #[a, b]) (t := 5) (fr := (0, 0)) (heap_alloc_new w _)
theorem four_new (w : World) (a b c d : Value) : ∀ (j : Nat) (u : Value), [a, b, c, d][j]? = some u → (w.alloc (.cells #[a, b, c, d] 5)).cell? ((⟨w.heap.size, 0, none⟩ : Addr).add j) = some u :=
  World.news_of_block (cs := #[a, b, c, d]) (t := 5) (fr := (0, 0)) (heap_alloc_new w _)

set_option maxRecDepth 100000 in
theorem appendByte_letter (c l : UInt8) (v : Value) (t : List UInt8) (base : Nat) (w : World) (he : EscAt w) (hown : w.ownsRow base 5 1 v t.length (t.map B8)) (hb : base ≤ w.heap.size) (hl : t.length ≤ 17179869184) (hp : Pl.plain c = false) (hlt : Pl.letter c = some l) :
    Calls Tryd.prog 101 #[v, .int .u8 (c.toNat : Int)] w fun e w' => ∃ v', e = .returned v' ∧ w'.ownsRow base 5 1 v' (t ++ Pl.esc c).length ((t ++ Pl.esc c).map B8) ∧ Below base w w' := by
  have H := Lib.hid (Pl.esc_letter c l hp hlt)
  have HP := Lib.hid hp
  have HL := Lib.hid hlt
  have HE := Lib.hid he
  clear hp hlt he
  obtain ⟨i0, hi, hz0, hz1, hz2⟩ := info_parts infoB
  go_enter Tryd.func101, Tryd.ntmps101
  go_wp2_with (first
    | (go_at_call 102; refine (isPlain_any _ _).mono ?_; rw [HP.out]; rintro e w' ⟨rfl, rfl⟩)
    | (go_at_call 103; refine (letterOf_any _ _ HE.out).mono ?_; rw [HL.out]; rintro e w1 ⟨rfl, hb1⟩; have hown1 := own_below hown hb1; have hsz1 := hb1.size; have HB1 := Lib.hid hb1; clear hb1)
    | (at_builtin; refine wpList_append_own _ rfl (.tmp 19) (.tmp 21) 59 rfl base 5 i0 (.int .u8 0) 1 1 Tryd.underlying59 hi hz0 hz1 hz2 rfl (by decide) _ t.length _ rfl (hown1.alloc _) ⟨w1.heap.size, 0, none⟩ 2 2 [.int .u8 92, .int .u8 (l.toNat : Int)] rfl rfl (two_new _ _ _) (by simp [Value.oneCell']) (by unfold maxLen; omega) (by omega) (by simp; omega) ?_; intro v2 w2 hown2 hg2 _; have HG2 := Lib.hid hg2; clear hg2))
  go_ret
  exact ⟨v2, rfl, by rw [H.out]; exact own_app rfl rfl rfl hown2, (((Below.refl base w).trans (HB1.out.mono hb)).alloc (by omega) _).grown HG2.out (by simp; omega) (fun g hg => (hown1.lt g hg).1)⟩

theorem and_fin : ∀ x : Fin 256, bits BinOp.and IntKind.u8 (x.val : Int) 15 = ((x.val % 16 : Nat) : Int) := by decide +kernel

set_option maxRecDepth 100000 in
set_option maxHeartbeats 1000000 in
theorem appendByte_hex (c : UInt8) (v : Value) (t : List UInt8) (base : Nat) (w : World) (he : EscAt w) (hown : w.ownsRow base 5 1 v t.length (t.map B8)) (hb : base ≤ w.heap.size) (hl : t.length ≤ 17179869184) (hp : Pl.plain c = false) (hlt : Pl.letter c = none) :
    Calls Tryd.prog 101 #[v, .int .u8 (c.toNat : Int)] w fun e w' => ∃ v', e = .returned v' ∧ w'.ownsRow base 5 1 v' (t ++ Pl.esc c).length ((t ++ Pl.esc c).map B8) ∧ Below base w w' := by
  have hh := Pl.esc_hex c hp hlt
  have HP := Lib.hid hp
  have HL := Lib.hid hlt
  have HE := Lib.hid he
  clear hp hlt he
  obtain ⟨i0, hi, hz0, hz1, hz2⟩ := info_parts infoB
  have hb256 : c.toNat < 256 := c.toNat_lt
  have a2 := and_fin ⟨c.toNat, hb256⟩
  simp only at a2
  obtain ⟨n1, hn1⟩ : ∃ n1, c.toNat / 16 = n1 := ⟨_, rfl⟩
  obtain ⟨n2, hn2⟩ : ∃ n2, c.toNat % 16 = n2 := ⟨_, rfl⟩
  have l1 : n1 < 16 := by omega
  have l2 : n2 < 16 := by omega
  have a1 : (c.toNat : Int) / 16 = (n1 : Int) := by omega
  rw [hn1, hn2] at hh
  rw [hn2] at a2
  clear hn1 hn2
  have H := Lib.hid hh
  clear hh
  have x1 := hex_index n1 l1
  have x2 := hex_index n2 l2
  go_enter Tryd.func101, Tryd.ntmps101
  go_wp2_with (first
    | (go_at_call 102; refine (isPlain_any _ _).mono ?_; rw [HP.out]; rintro e w' ⟨rfl, rfl⟩)
    | (go_at_call 103; refine (letterOf_any _ _ HE.out).mono ?_; rw [HL.out]; rintro e w1 ⟨rfl, hb1⟩; have hown1 := own_below hown hb1; have hsz1 := hb1.size; have HB1 := Lib.hid hb1; clear hb1))
  go_region_held3 (fun w' => True)
    (first
      | go_keep
      | trivial)
    (first
      | (refine step_append_lies _ (by rfl) _ _ _ (by rfl) base 5 i0 _ 1 1 Tryd.underlying59 hi hz0 hz1 hz2 rfl (by omega) v t.length (t.map B8) (by rfl) (hown1.alloc _)
              ⟨w1.heap.size, 0, none⟩ 4 4 [.int .u8 92, .int .u8 120, .int .u8 ((Pl.hexd n1).toNat : Int), .int .u8 ((Pl.hexd n2).toNat : Int)] (by rfl) (by rfl) (four_new _ _ _ _ _) (by simp [Value.oneCell'])
              (by omega) (by unfold maxLen; omega) (by omega) (by simp; omega) (w1.heap.size + 1) (by simp) ?_; intro g9 cap9 w4 hown4 hgrow hat hlt4))
  all_goals
    go_wp2_with fail
    go_ret
    exact ⟨_, rfl, by rw [H.out]; exact own_app rfl rfl rfl hown4, (redrew (((Below.refl base w).trans (HB1.out.mono hb)).alloc (by omega) _)).grown hgrow (by simp; omega) (fun g hg => (hown1.lt g hg).1)⟩

theorem appendByte_any (c : UInt8) (v : Value) (t : List UInt8) (base : Nat) (w : World) (he : EscAt w) (hown : w.ownsRow base 5 1 v t.length (t.map B8)) (hb : base ≤ w.heap.size) (hl : t.length ≤ 17179869184) :
    Calls Tryd.prog 101 #[v, .int .u8 (c.toNat : Int)] w fun e w' => ∃ v', e = .returned v' ∧ w'.ownsRow base 5 1 v' (t ++ Pl.esc c).length ((t ++ Pl.esc c).map B8) ∧ Below base w w' := by
  cases hp : Pl.plain c with
  | true => exact appendByte_plain c v t base w hown hb hl hp
  | false =>
    cases hlt : Pl.letter c with
    | some l => exact appendByte_letter c l v t base w he hown hb hl hp hlt
    | none => exact appendByte_hex c v t base w he hown hb hl hp hlt

/-- Quote -/
theorem Quote_any (s : ByteArray) (w : World) (he : EscAt w) (hs : s.size ≤ 4294967295) :
    Calls Tryd.prog 100 #[.string s] w fun e w' => e = .returned (.string ⟨(Pl.quote (Pl.L s)).toArray⟩) ∧ Below w.heap.size w w' := by
  have HE := Lib.hid he
  have hlt0 := he.lt
  clear he
  obtain ⟨i0, hi, hz0, hz1, hz2⟩ := info_parts infoB
  go_enter Tryd.func100, Tryd.ntmps100
  go_wp2_with fail
  go_loopw [3, 4, 8] (fun v _ i wr => ∃ (k : Nat) (t : List UInt8), k ≤ s.size ∧ i = .int .i64 k ∧ t = 34 :: Pl.qbody ((Pl.L s).take k) ∧ wr.ownsRow w.heap.size 5 1 v t.length (t.map B8) ∧ Below w.heap.size w wr) (fun _ _ i _ => s.size - (intOf i).toNat)
  case atStart => exact ⟨0, [34], Nat.zero_le _, rfl, rfl, World.ownsRow_lit w #[.int .u8 34] 1 (Nat.le_refl _) (by decide) rfl, (Below.refl _ w).alloc (Nat.le_refl _) _⟩
  case round =>
    obtain ⟨k, t, hk, rfl, ht, hown, hb⟩ := hrel
    have HT := Lib.hid ht
    have hsz := hb.size
    have HB := Lib.hid hb
    have htl : t.length ≤ 17179869181 := by
      rw [ht, List.length_cons]
      have := Pl.qbody_len ((Pl.L s).take k)
      rw [List.length_take, Pl.L_length] at this
      omega
    clear ht hb
    by_cases hlt : k < s.size
    · have HN : Hid (t ++ Pl.esc s[k] = 34 :: Pl.qbody ((Pl.L s).take (k + 1))) := Lib.hid (by rw [Pl.qbody_snoc s k hlt, HT.out]; rfl)
      go_wp2_with (go_at_call 101; refine (appendByte_any s[k] _ t w.heap.size _ (HE.out.below HB.out hlt0) hown hsz (by omega)).mono ?_; rintro e w1 ⟨v1, rfl, hown1, hb1⟩; have HB1 := Lib.hid hb1; clear hb1)
      go_roundw
      case rel => exact ⟨k + 1, t ++ Pl.esc s[k], by omega, by go_num, HN.out, hown1, HB.out.trans HB1.out⟩
      case measure => simp [intOf]; omega
    · have HN : Hid (t ++ [34] = Pl.quote (Pl.L s)) := Lib.hid (by rw [HT.out, List.take_of_length_le (by rw [Pl.L_length]; omega)]; rfl)
      go_wp2_with (at_builtin; refine wpList_append_own _ rfl (.tmp 17) (.tmp 18) 59 rfl w.heap.size 5 i0 (.int .u8 0) 1 1 Tryd.underlying59 hi hz0 hz1 hz2 rfl (by decide) _ t.length _ rfl (hown.alloc _) ⟨wr.heap.size, 0, none⟩ 1 1 [.int .u8 34] rfl rfl (cell_one_new _ _ _) (by simp [Value.oneCell']) (by unfold maxLen; omega) (by omega) (by simp; omega) ?_; intro v2 w2 hown2 hg2 _; have HG2 := Lib.hid hg2; clear hg2; have hcv := conv_own (own_app (u := [34]) rfl rfl rfl hown2))
      go_ret
      exact ⟨by rw [← HN.out]; rfl, (HB.out.alloc (by omega) _).grown HG2.out (by simp; omega) (fun g hg => (hown.lt g hg).1)⟩
end Go.Proofs.YtmobjpmkenpckaaDoor
