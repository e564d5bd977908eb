/-
  Plain functions, joined into one text.
-/
import Derived.Lib.Hide
import Derived.Lib.Strings
import Derived.Lib.Bytealg
import Derived.Lib.ParseIntBCases
import Derived.Lib.ItoaNum
import Derived.Lib.Join
import Derived.Lib.ItoaLen
import Derived.Lib.Split
import Derived.Lib.CountLaws
import Derived.Lib.IndexBytes
import Derived.Lib.IndexLaws
import Derived.Lib.CutLaws
import Derived.Lib.IndexMore
import GoSem.Op.String
/-
  Plain functions on bytes and lists of bytes that the contracts of this seat speak of. They import nothing of the program.
-/
namespace Go.Proofs.YthifbihmogjjpaaGreatDoor.Pl
open Go.Lib
def low (c : UInt8) : Bool := decide (97 ≤ (c.toNat : Int)) && decide ((c.toNat : Int) ≤ 122)
def dig (c : UInt8) : Bool := decide (48 ≤ (c.toNat : Int)) && decide ((c.toNat : Int) ≤ 57)
def plain (c : UInt8) : Bool := decide (32 ≤ (c.toNat : Int)) && decide ((c.toNat : Int) ≤ 126) && ((c.toNat : Int) != 34) && ((c.toNat : Int) != 92)
def bareC (c : UInt8) : Bool := plain c && ((c.toNat : Int) != 32)
def nameC (c : UInt8) : Bool := low c || dig c || ((c.toNat : Int) == 45)

/-- the bytes of a string -/
def L (s : ByteArray) : List UInt8 := s.data.toList

theorem L_length (s : ByteArray) : (L s).length = s.size := (size_eq s).symm
theorem L_get (s : ByteArray) (k : Nat) (h : k < s.size) : (L s)[k]'(by rw [L_length]; exact h) = s[k] := rfl
theorem L_get? (s : ByteArray) (k : Nat) (h : k < s.size) : (L s)[k]? = some s[k] := by
  rw [List.getElem?_eq_getElem (by rw [L_length]; exact h), L_get s k h]
theorem L_cons (s : ByteArray) (h : 0 < s.size) : L s = s[0] :: (L s).drop 1 := by
  have h' : 0 < (L s).length := by rw [L_length]; exact h
  have e := List.drop_eq_getElem_cons h'
  rw [List.drop_zero] at e
  exact e
theorem take_succ (s : ByteArray) (k : Nat) (h : k < s.size) : (L s).take (k + 1) = (L s).take k ++ [s[k]] := by
  have h' : k < (L s).length := by rw [L_length]; exact h
  rw [List.take_succ_eq_append_getElem h']; rfl
theorem all_succ (p : UInt8 → Bool) (s : ByteArray) (k : Nat) (h : k < s.size) (ha : ((L s).take k).all p = true) (hk : p s[k] = true) : ((L s).take (k + 1)).all p = true := by
  rw [take_succ s k h, List.all_append, ha]; simp [hk]
theorem all_whole (p : UInt8 → Bool) (s : ByteArray) (k : Nat) (h : s.size ≤ k) (ha : ((L s).take k).all p = true) : (L s).all p = true := by
  rwa [List.take_of_length_le (by rw [L_length]; exact h)] at ha
theorem all_not (p : UInt8 → Bool) (s : ByteArray) (k : Nat) (h : k < s.size) (hk : p s[k] = false) : (L s).all p = false := by
  rw [Bool.eq_false_iff]
  intro ha
  have := (List.all_eq_true.1 ha) s[k] (List.mem_of_getElem? (L_get? s k h))
  rw [hk] at this; cases this
theorem empty_facts (s : ByteArray) (h : s.size = 0) : s.toList = [] := by
  rw [toList_data]; exact List.eq_nil_of_length_eq_zero (by rw [← size_eq]; exact h)
theorem full_facts (s : ByteArray) (h : 0 < s.size) : s.toList ≠ [] ∧ s.toList.isEmpty = false := by
  have : s.toList ≠ [] := by
    rw [toList_data]; intro e
    have := size_eq s; rw [e, List.length_nil] at this; omega
  exact ⟨this, by simpa using this⟩
theorem L_nil (s : ByteArray) (h : s.size = 0) : L s = [] := List.eq_nil_of_length_eq_zero (by rw [L_length]; exact h)

/-- the decimal form of a number that is not negative, of any size -/
def nat (l : List UInt8) : Bool := !l.isEmpty && !(l.head? == some 48 && decide (1 < l.length)) && l.all dig

theorem nat_nil (s : ByteArray) (h : s.size = 0) : nat (L s) = false := by rw [L_nil s h]; rfl
theorem byte_eq (c : UInt8) (n : Nat) (hn : n < 256) (h : (c.toNat : Int) = n) : c = UInt8.ofNat n := by
  apply UInt8.toNat_inj.1; rw [UInt8.toNat_ofNat_of_lt' (by simpa using hn)]; omega
theorem head_eq (s : ByteArray) (h : 0 < s.size) : (L s).head? = some s[0] := by rw [L_cons s h]; rfl
theorem nat_zero (s : ByteArray) (h : 1 < s.size) (h0 : (s[0].toNat : Int) = 48) : nat (L s) = false := by
  have e : s[0] = 48 := byte_eq _ 48 (by omega) (by simpa using h0)
  have : (L s).head? = some 48 := by rw [head_eq s (by omega), e]
  simp [nat, this, L_length, h]
theorem nat_of (s : ByteArray) (h : 0 < s.size) (h0 : ¬ ((s[0].toNat : Int) = 48) ∨ s.size ≤ 1) : nat (L s) = (L s).all dig := by
  have e1 : (L s).isEmpty = false := by rw [L_cons s h]; rfl
  have e2 : ((L s).head? == some 48 && decide (1 < (L s).length)) = false := by
    rw [head_eq s h, L_length]
    rcases h0 with h0 | h0
    · have : (s[0] == 48) = false := by
        rw [beq_eq_false_iff_ne]; intro e; apply h0; rw [e]; rfl
      simp [this]
    · simp; intro _; omega
  simp [nat, e1, e2]
theorem L_extract (s : ByteArray) (a : Nat) : L (s.extract a s.size) = (L s).drop a := by
  show (s.extract a s.size).data.toList = _
  rw [extract_data]
  exact List.take_of_length_le (by rw [List.length_drop]; show (L s).length - a ≤ _; rw [L_length]; exact Nat.le_refl _)

/-- the decimal form of an integer, of any size -/
def dec (l : List UInt8) : Bool := if l.head? = some 45 then (l != [45, 48]) && nat (l.drop 1) else nat l
theorem dec_plain (s : ByteArray) (h : s.size = 0 ∨ ∃ h : 0 < s.size, ¬ ((s[0].toNat : Int) = 45)) : dec (L s) = nat (L s) := by
  unfold dec
  rw [if_neg]
  rcases h with h | ⟨h, h1⟩
  · rw [L_nil s h]; simp
  · rw [head_eq s h]; intro e; apply h1; injection e with e; rw [e]; rfl
theorem dec_minus0 (s : ByteArray) (h : s.toList = [45, 48]) : dec (L s) = false := by
  have : L s = [45, 48] := by rw [← h, toList_data]; rfl
  rw [this]; rfl
theorem dec_minus (s : ByteArray) (h : 0 < s.size) (h0 : (s[0].toNat : Int) = 45) (h1 : ¬ s.toList = [45, 48]) : dec (L s) = nat (L (s.extract 1 s.size)) := by
  have e : s[0] = 45 := byte_eq _ 45 (by omega) (by simpa using h0)
  have e2 : (L s != [45, 48]) = true := by
    rw [toList_data] at h1; simpa [L] using h1
  unfold dec
  rw [if_pos (by rw [head_eq s h, e]), e2, L_extract]; rfl

/-- a name -/
def name (l : List UInt8) : Bool := decide (1 ≤ l.length ∧ l.length ≤ 16) && (match l.head? with | some c => low c | none => false) && l.all nameC
theorem name_nil (s : ByteArray) (h : s.size = 0) : name (L s) = false := by rw [L_nil s h]; rfl
theorem name_long (s : ByteArray) (h : 16 < s.size) : name (L s) = false := by
  unfold name; rw [L_length]
  have : decide (1 ≤ s.size ∧ s.size ≤ 16) = false := by simp; omega
  rw [this]; rfl
theorem name_head (s : ByteArray) (h : 0 < s.size) (h0 : low s[0] = false) : name (L s) = false := by
  unfold name; rw [head_eq s h]; simp [h0]
theorem name_of (s : ByteArray) (h : 0 < s.size) (h1 : s.size ≤ 16) (h0 : low s[0] = true) : name (L s) = (L s).all nameC := by
  unfold name; rw [head_eq s h, L_length]
  have : decide (1 ≤ s.size ∧ s.size ≤ 16) = true := by simp; omega
  simp [this, h0]
theorem name_one (s : ByteArray) (h : 0 < s.size) (h0 : low s[0] = true) : ((L s).take 1).all nameC = true := by
  rw [L_cons s h]; simp [nameC, h0]

/-- the letter behind the backslash -/
def letter (c : UInt8) : Option UInt8 := if c = 34 then some 34 else if c = 92 then some 92 else if c = 10 then some 110 else if c = 13 then some 114 else if c = 9 then some 116 else none
/-- the byte of a letter -/
def raw (c : UInt8) : Option UInt8 := if c = 34 then some 34 else if c = 92 then some 92 else if c = 110 then some 10 else if c = 114 then some 13 else if c = 116 then some 9 else none
def num (o : Option UInt8) : Int := match o with | some x => (x.toNat : Int) | none => 0
theorem ne_num (c : UInt8) (n : UInt8) (h : ¬ c = n) : ((n.toNat : Int) == (c.toNat : Int)) = false := by
  rw [beq_eq_false_iff_ne]; intro e; apply h; apply UInt8.toNat_inj.1; omega
end Go.Proofs.YthifbihmogjjpaaGreatDoor.Pl

/-
  Plain functions: the quoted form.
-/
namespace Go.Proofs.YthifbihmogjjpaaGreatDoor.Pl
open Go.Lib

/-- the sixteen digits -/
def hexL : List UInt8 := [48, 49, 50, 51, 52, 53, 54, 55, 56, 57, 97, 98, 99, 100, 101, 102]
def hv (c : UInt8) : Int := Go.Lib.indexByte hexL c
theorem indexByte_lt : ∀ (l : List UInt8) (c : UInt8), Go.Lib.indexByte l c < l.length ∨ l = [] := by
  intro l c
  induction l with
  | nil => exact .inr rfl
  | cons b r ih =>
    left
    unfold Go.Lib.indexByte
    have hg := indexByte_ge r c
    rcases ih with h | h
    · split
      · simp only [List.length_cons]; omega
      · split
        · simp; omega
        · simp; omega
    · subst h; unfold Go.Lib.indexByte; split <;> simp
theorem hv_range (c : UInt8) : -1 ≤ hv c ∧ hv c ≤ 15 := by
  refine ⟨indexByte_ge _ _, ?_⟩
  have := indexByte_lt hexL c
  rcases this with h | h
  · have e : hexL.length = 16 := rfl
    rw [e] at h; unfold hv; omega
  · cases h
def hexv (a b : UInt8) : UInt8 := UInt8.ofNat (hv a * 16 + hv b).toNat
/-- the byte of two digits, where it has no shorter form -/
def hex : List UInt8 → Option UInt8
  | a :: b :: _ => if hv a < 0 ∨ hv b < 0 then none else if (letter (hexv a b)).isSome || plain (hexv a b) then none else some (hexv a b)
  | _ => none
theorem hexv_toNat (a b : UInt8) (h : 0 ≤ hv a) (h' : 0 ≤ hv b) : ((hexv a b).toNat : Int) = hv a * 16 + hv b := by
  have h1 := hv_range a
  have h2 := hv_range b
  unfold hexv
  rw [UInt8.toNat_ofNat_of_lt' (by simp; omega)]; omega
theorem L_two (s : ByteArray) (h : 1 < s.size) : L s = s[0] :: s[1] :: (L s).drop 2 := by
  have h' : 1 < (L s).length := by rw [L_length]; exact h
  rw [L_cons s (by omega)]
  have e := List.drop_eq_getElem_cons h'
  simp only [List.drop_succ_cons, List.drop_zero]
  rw [e]; rfl
theorem L_one (s : ByteArray) (h : s.size < 2) : hex (L s) = none := by
  have : (L s).length < 2 := by rw [L_length]; exact h
  match hl : L s with
  | [] => rfl
  | [_] => rfl
  | a :: b :: r => rw [hl] at this; simp at this; exact absurd this (by omega)

/-- what is written behind a backslash -/
def rb92 : List UInt8 → Option (UInt8 × Nat)
  | [] => none
  | x :: r' => if x = 120 then (hex r').map (fun v => (v, 4)) else (raw x).map (fun v => (v, 2))
/-- what is written at the head: the byte, and how many places it takes -/
def rb : List UInt8 → Option (UInt8 × Nat)
  | [] => none
  | c :: r => if c = 92 then rb92 r else if plain c then some (c, 1) else none
theorem rb_cons (c : UInt8) (r : List UInt8) : rb (c :: r) = if c = 92 then rb92 r else if plain c then some (c, 1) else none := rfl
theorem rb92_cons (x : UInt8) (r' : List UInt8) : rb92 (x :: r') = if x = 120 then (hex r').map (fun v => (v, 4)) else (raw x).map (fun v => (v, 2)) := rfl
theorem drop_cons (s : ByteArray) (k : Nat) (h : k < s.size) : (L s).drop k = s[k] :: (L s).drop (k + 1) := by
  have h' : k < (L s).length := by rw [L_length]; exact h
  rw [List.drop_eq_getElem_cons h']; rfl
theorem drop_end (s : ByteArray) (k : Nat) (h : s.size ≤ k) : (L s).drop k = [] := by
  apply List.drop_eq_nil_of_le; rw [L_length]; exact h
end Go.Proofs.YthifbihmogjjpaaGreatDoor.Pl

/-
  Plain functions: what readByte and readQuoted come to.
-/
namespace Go.Proofs.YthifbihmogjjpaaGreatDoor.Pl
open Go.Lib

theorem hex_two (s : ByteArray) (b1 : 1 < s.size) : hex (L s) = if hv s[0] < 0 ∨ hv s[1] < 0 then none else if (letter (hexv s[0] s[1])).isSome || plain (hexv s[0] s[1]) then none else some (hexv s[0] s[1]) := by
  rw [L_two s b1]; rfl
theorem rb_plain (s : ByteArray) (k : Nat) (h : k < s.size) (hc : ¬ s[k] = 92) : rb ((L s).drop k) = if plain s[k] then some (s[k], 1) else none := by
  rw [drop_cons s k h, rb_cons, if_neg hc]
theorem rb_end (s : ByteArray) (k : Nat) (h : k < s.size) (hc : s[k] = 92) (h1 : s.size ≤ k + 1) : rb ((L s).drop k) = none := by
  rw [drop_cons s k h, rb_cons, if_pos hc, drop_end s _ h1]; rfl
theorem rb_hex (s : ByteArray) (k : Nat) (h : k < s.size) (hc : s[k] = 92) (h1 : k + 1 < s.size) (hx : s[k + 1] = 120) :
    rb ((L s).drop k) = (hex (L (s.extract (k + 2) s.size))).map (fun v => (v, 4)) := by
  rw [drop_cons s k h, rb_cons, if_pos hc, drop_cons s (k + 1) h1, L_extract, rb92_cons, if_pos hx]
theorem rb_raw (s : ByteArray) (k : Nat) (h : k < s.size) (hc : s[k] = 92) (h1 : k + 1 < s.size) (hx : ¬ s[k + 1] = 120) :
    rb ((L s).drop k) = (raw s[k + 1]).map (fun v => (v, 2)) := by
  rw [drop_cons s k h, rb_cons, if_pos hc, drop_cons s (k + 1) h1, rb92_cons, if_neg hx]
theorem num_eq (c n : UInt8) (h : c = n) : ((c.toNat : Int) == (n.toNat : Int)) = true := by rw [h]; simp
theorem num_ne (c n : UInt8) (h : ¬ c = n) : ((c.toNat : Int) == (n.toNat : Int)) = false := by
  rw [beq_eq_false_iff_ne]; intro e; apply h; apply UInt8.toNat_inj.1; omega
theorem num_bne (c n : UInt8) (h : ¬ c = n) : ((c.toNat : Int) != (n.toNat : Int)) = true := by
  rw [bne_iff_ne]; intro e; apply h; apply UInt8.toNat_inj.1; omega
theorem num_nbne (c n : UInt8) (h : c = n) : ((c.toNat : Int) != (n.toNat : Int)) = false := by rw [h]; simp

/-- the content up to the closing quote, and how many places it takes with this -/
def body : Nat → List UInt8 → Option (List UInt8 × Nat)
  | 0, _ => none
  | _ + 1, [] => none
  | f + 1, c :: r => if c = 34 then some ([], 1) else match rb (c :: r) with
    | none => none
    | some (v, n) => match body f (r.drop (n - 1)) with
      | none => none
      | some (t, m) => some (v :: t, n + m)
theorem hex_len {l : List UInt8} {v : UInt8} (h : hex l = some v) : 2 ≤ l.length := by
  match l, h with
  | a :: b :: r, _ => simp
theorem rb_pos {l : List UInt8} {v : UInt8} {n : Nat} (h : rb l = some (v, n)) : 1 ≤ n ∧ n ≤ l.length := by
  cases l with
  | nil => cases h
  | cons c r =>
    rw [rb_cons] at h
    split at h
    · cases r with
      | nil => cases h
      | cons x r' =>
        rw [rb92_cons] at h
        split at h
        · cases hx : hex r' with
          | none => rw [hx] at h; cases h
          | some v' =>
            rw [hx] at h
            have := hex_len hx
            simp only [Option.map_some, Option.some.injEq, Prod.mk.injEq] at h
            simp only [List.length_cons]; omega
        · cases hx : raw x with
          | none => rw [hx] at h; cases h
          | some v' =>
            rw [hx] at h
            simp only [Option.map_some, Option.some.injEq, Prod.mk.injEq] at h
            simp only [List.length_cons]; omega
    · split at h
      · simp only [Option.some.injEq, Prod.mk.injEq] at h
        simp only [List.length_cons]; omega
      · cases h
theorem body_more : ∀ (f : Nat) (l : List UInt8), l.length < f → body (f + 1) l = body f l
  | 0, _, h => absurd h (Nat.not_lt_zero _)
  | f + 1, [], _ => rfl
  | f + 1, c :: r, h => by
    have e : ∀ n, body (f + 1) (r.drop n) = body f (r.drop n) := fun n => body_more f (r.drop n) (by simp at h ⊢; omega)
    rw [body, body]
    simp only [e]
theorem body_enough : ∀ (d f : Nat) (l : List UInt8), l.length < f → body (f + d) l = body f l
  | 0, _, _, _ => rfl
  | d + 1, f, l, h => by rw [← Nat.add_assoc, body_more (f + d) l (by omega), body_enough d f l h]
/-- the same, with as many steps as are wanted -/
def bq (l : List UInt8) : Option (List UInt8 × Nat) := body (l.length + 1) l
theorem body_bq (f : Nat) (l : List UInt8) (h : l.length < f) : body f l = bq l := by
  have := body_enough (f - (l.length + 1)) (l.length + 1) l (by omega)
  rw [show l.length + 1 + (f - (l.length + 1)) = f by omega] at this
  exact this
theorem bq_nil : bq [] = none := rfl
theorem bq_quote (r : List UInt8) : bq (34 :: r) = some ([], 1) := by simp [bq, body]
theorem bq_step (c : UInt8) (r : List UInt8) (hc : ¬ c = 34) {v : UInt8} {n : Nat} (h : rb (c :: r) = some (v, n)) :
    bq (c :: r) = match bq ((c :: r).drop n) with | none => none | some (t, m) => some (v :: t, n + m) := by
  have hn := (rb_pos h).1
  have e : (c :: r).drop n = r.drop (n - 1) := by
    obtain ⟨k, rfl⟩ : ∃ k, n = k + 1 := ⟨n - 1, by omega⟩
    simp
  rw [e, bq, List.length_cons, body, if_neg hc, h]
  simp only
  rw [body_bq _ (r.drop (n - 1)) (by simp; omega)]
theorem bq_stop (c : UInt8) (r : List UInt8) (hc : ¬ c = 34) (h : rb (c :: r) = none) : bq (c :: r) = none := by
  rw [bq, List.length_cons, body, if_neg hc, h]
/-- a quoted form at the head: its string, and how many places it takes -/
def rq : List UInt8 → Option (List UInt8 × Nat)
  | [] => none
  | c :: r => if c = 34 then (match bq r with | none => none | some (t, m) => some (t, m + 1)) else none
end Go.Proofs.YthifbihmogjjpaaGreatDoor.Pl

/-
  Plain functions: quoted forms in the midst of a string.
-/
namespace Go.Proofs.YthifbihmogjjpaaGreatDoor.Pl
open Go.Lib

/-- what has been read so far, and what is still to come -/
def More (s : ByteArray) (k0 k : Nat) (t : List UInt8) : Prop :=
  bq ((L s).drop k0) = match bq ((L s).drop k) with | none => none | some (t', m) => some (t ++ t', (k - k0) + m)
theorem More.start (s : ByteArray) (k : Nat) : More s k k [] := by
  unfold More
  cases bq ((L s).drop k) with
  | none => rfl
  | some x => simp
theorem More.stop {s : ByteArray} {k0 k : Nat} {t : List UInt8} (h : More s k0 k t) (hk : k < s.size) (hc : ¬ s[k] = 34) (hr : rb ((L s).drop k) = none) : bq ((L s).drop k0) = none := by
  rw [h]; rw [drop_cons s k hk] at hr ⊢; rw [bq_stop _ _ hc hr]
theorem More.end_ {s : ByteArray} {k0 k : Nat} {t : List UInt8} (h : More s k0 k t) (hk : s.size ≤ k) : bq ((L s).drop k0) = none := by
  rw [h, drop_end s k hk]; rfl
theorem More.quote {s : ByteArray} {k0 k : Nat} {t : List UInt8} (h : More s k0 k t) (hk : k < s.size) (hc : s[k] = 34) : bq ((L s).drop k0) = some (t, k - k0 + 1) := by
  rw [h, drop_cons s k hk, hc, bq_quote]; simp
theorem More.step {s : ByteArray} {k0 k : Nat} {t : List UInt8} (h : More s k0 k t) (hk : k < s.size) (hle : k0 ≤ k) (hc : ¬ s[k] = 34) {v : UInt8} {n : Nat} (hr : rb ((L s).drop k) = some (v, n)) : More s k0 (k + n) (t ++ [v]) := by
  unfold More at h ⊢
  rw [h]
  have e : (L s).drop (k + n) = ((L s).drop k).drop n := by rw [List.drop_drop]
  rw [e]
  rw [drop_cons s k hk] at hr ⊢
  rw [bq_step _ _ hc hr]
  cases bq ((s[k] :: (L s).drop (k + 1)).drop n) with
  | none => rfl
  | some x =>
    simp only [List.append_assoc, List.cons_append, List.nil_append, Option.some.injEq, Prod.mk.injEq, true_and]
    omega
theorem rb_bound {s : ByteArray} {k : Nat} {v : UInt8} {n : Nat} (hk : k < s.size) (hr : rb ((L s).drop k) = some (v, n)) : 1 ≤ n ∧ k + n ≤ s.size := by
  obtain ⟨a, b⟩ := rb_pos hr
  rw [List.length_drop, L_length] at b
  omega
theorem rq_end (s : ByteArray) (k : Nat) (h : s.size ≤ k) : rq ((L s).drop k) = none := by rw [drop_end s k h]; rfl
theorem rq_not (s : ByteArray) (k : Nat) (h : k < s.size) (hc : ¬ s[k] = 34) : rq ((L s).drop k) = none := by
  rw [drop_cons s k h, rq, if_neg hc]
theorem rq_none (s : ByteArray) (k : Nat) (h : k < s.size) (hb : bq ((L s).drop (k + 1)) = none) : rq ((L s).drop k) = none := by
  rw [drop_cons s k h, rq, hb]; split <;> rfl
theorem rq_some (s : ByteArray) (k : Nat) (h : k < s.size) (hc : s[k] = 34) {t : List UInt8} {m : Nat} (hb : bq ((L s).drop (k + 1)) = some (t, m)) : rq ((L s).drop k) = some (t, m + 1) := by
  rw [drop_cons s k h, rq, hb, if_pos hc]

theorem body_len : ∀ (f : Nat) (l : List UInt8) {t : List UInt8} {m : Nat}, body f l = some (t, m) → m ≤ l.length
  | 0, _, _, _, h => by cases h
  | f + 1, [], _, _, h => by cases h
  | f + 1, c :: r, t, m, h => by
    rw [body] at h
    split at h
    · simp only [Option.some.injEq, Prod.mk.injEq] at h
      simp only [List.length_cons]; omega
    · split at h
      · cases h
      · rename_i v n hr
        have hn := rb_pos hr
        split at h
        · cases h
        · rename_i t' m' hb
          have := body_len f _ hb
          simp only [Option.some.injEq, Prod.mk.injEq] at h
          simp only [List.length_cons, List.length_drop] at this hn ⊢; omega
theorem rq_len {l : List UInt8} {t : List UInt8} {m : Nat} (h : rq l = some (t, m)) : m ≤ l.length ∧ 1 ≤ m := by
  cases l with
  | nil => cases h
  | cons c r =>
    rw [rq] at h
    split at h
    · cases hb : bq r with
      | none => rw [hb] at h; cases h
      | some x =>
        obtain ⟨t', m'⟩ := x
        rw [hb] at h
        have := body_len _ _ hb
        simp only [Option.some.injEq, Prod.mk.injEq] at h
        simp only [List.length_cons]; omega
    · cases h
/-- the string of a quoted form -/
def unq (l : List UInt8) : Option (List UInt8) := match rq l with | none => none | some (t, m) => if m = l.length then some t else none
theorem unq_rq {s : ByteArray} {t : List UInt8} (h : unq (L s) = some t) : rq ((L s).drop 0) = some (t, s.size) := by
  rw [List.drop_zero]
  unfold unq at h
  cases hr : rq (L s) with
  | none => rw [hr] at h; cases h
  | some x =>
    obtain ⟨t', m⟩ := x
    rw [hr] at h
    simp only [L_length] at h
    split at h
    · rename_i e; cases h; rw [e]
    · cases h
theorem unq_short {s : ByteArray} {t : List UInt8} {m : Nat} (h : unq (L s) = none) (hr : rq ((L s).drop 0) = some (t, m)) : m < s.size := by
  rw [List.drop_zero] at hr
  have := (rq_len hr).1
  unfold unq at h
  rw [hr] at h
  simp only [L_length] at h this
  split at h
  · cases h
  · omega
end Go.Proofs.YthifbihmogjjpaaGreatDoor.Pl

/-
  Plain functions: the fields of a line.
-/
namespace Go.Proofs.YthifbihmogjjpaaGreatDoor.Pl
open Go.Lib

def bareN (l : List UInt8) : Nat := (l.takeWhile bareC).length
theorem bareN_le (l : List UInt8) : bareN l ≤ l.length := (List.takeWhile_sublist _).length_le
theorem bareN_of : ∀ (l : List UInt8) (m : Nat), m ≤ l.length → (l.take m).all bareC = true → (l.drop m).head?.map bareC ≠ some true → bareN l = m
  | [], m, h, _, _ => by simp at h; subst h; rfl
  | c :: r, 0, _, _, h => by
    simp only [List.drop_zero, List.head?_cons, Option.map_some] at h
    unfold bareN
    rw [List.takeWhile_cons, if_neg (by simpa using h)]; rfl
  | c :: r, m + 1, hl, ha, h => by
    simp only [List.take_succ_cons, List.all_cons, Bool.and_eq_true] at ha
    have := bareN_of r m (by simpa using hl) ha.2 (by simpa using h)
    unfold bareN at this ⊢
    rw [List.takeWhile_cons, if_pos ha.1, List.length_cons, this]
/-- one field at the head: its string, whether it is quoted, and how many places it takes -/
def fld (l : List UInt8) : Option ((List UInt8 × Bool) × Nat) :=
  if l.head? = some 34 then (rq l).map (fun x => ((x.1, true), x.2)) else if bareN l = 0 then none else some ((l.take (bareN l), false), bareN l)
theorem fld_len {l : List UInt8} {x : List UInt8 × Bool} {n : Nat} (h : fld l = some (x, n)) : 1 ≤ n ∧ n ≤ l.length := by
  unfold fld at h
  split at h
  · cases hr : rq l with
    | none => rw [hr] at h; cases h
    | some y =>
      obtain ⟨t, m⟩ := y
      rw [hr] at h
      have := rq_len hr
      simp only [Option.map_some, Option.some.injEq, Prod.mk.injEq] at h
      omega
  · split at h
    · cases h
    · have := bareN_le l
      simp only [Option.some.injEq, Prod.mk.injEq] at h
      omega
/-- what is yielded from here on: the fields; none at the end where the form is broken -/
def its' : Nat → List UInt8 → List (Option (List UInt8 × Bool))
  | 0, _ => []
  | f + 1, l => match fld l with
    | none => [none]
    | some (x, n) => some x :: (match l.drop n with | [] => [] | c :: r => if c = 32 then its' f r else [none])
theorem its'_more : ∀ (f : Nat) (l : List UInt8), l.length < f → its' (f + 1) l = its' f l
  | 0, _, h => absurd h (Nat.not_lt_zero _)
  | f + 1, l, h => by
    rw [its', its']
    cases hf : fld l with
    | none => rfl
    | some y =>
      obtain ⟨x, n⟩ := y
      have hn := fld_len hf
      simp only
      cases hd : l.drop n with
      | nil => rfl
      | cons c r =>
        simp only
        have : r.length < f := by
          have e : (l.drop n).length = r.length + 1 := by rw [hd]; rfl
          rw [List.length_drop] at e; omega
        rw [its'_more f r this]
theorem its'_enough : ∀ (d f : Nat) (l : List UInt8), l.length < f → its' (f + d) l = its' f l
  | 0, _, _, _ => rfl
  | d + 1, f, l, h => by rw [← Nat.add_assoc, its'_more (f + d) l (by omega), its'_enough d f l h]
def its (l : List UInt8) : List (Option (List UInt8 × Bool)) := its' (l.length + 1) l
theorem its_of (f : Nat) (l : List UInt8) (h : l.length < f) : its' f l = its l := by
  have := its'_enough (f - (l.length + 1)) (l.length + 1) l (by omega)
  rw [show l.length + 1 + (f - (l.length + 1)) = f by omega] at this
  exact this
def tail (l : List UInt8) : List (Option (List UInt8 × Bool)) := match l with | [] => [] | c :: r => if c = 32 then its r else [none]
theorem its_none {l : List UInt8} (h : fld l = none) : its l = [none] := by rw [its, its', h]
theorem its_some {l : List UInt8} {x : List UInt8 × Bool} {n : Nat} (h : fld l = some (x, n)) : its l = some x :: tail (l.drop n) := by
  have hn := fld_len h
  rw [its, its', h]
  simp only
  congr 1
  cases hd : l.drop n with
  | nil => rfl
  | cons c r =>
    simp only [tail]
    rw [its_of _ r (by
      have e : (l.drop n).length = r.length + 1 := by rw [hd]; rfl
      rw [List.length_drop] at e; omega)]
theorem tail_end (s : ByteArray) (k : Nat) (h : s.size ≤ k) : tail ((L s).drop k) = [] := by rw [drop_end s k h]; rfl
theorem tail_sp (s : ByteArray) (k : Nat) (h : k < s.size) (hc : s[k] = 32) : tail ((L s).drop k) = its ((L s).drop (k + 1)) := by rw [drop_cons s k h, tail, if_pos hc]
theorem tail_no (s : ByteArray) (k : Nat) (h : k < s.size) (hc : ¬ s[k] = 32) : tail ((L s).drop k) = [none] := by rw [drop_cons s k h, tail, if_neg hc]
theorem fld_q (s : ByteArray) (k : Nat) (h : k < s.size) (hc : s[k] = 34) : fld ((L s).drop k) = (rq ((L s).drop k)).map (fun x => ((x.1, true), x.2)) := by
  unfold fld; rw [if_pos (by rw [drop_cons s k h, hc]; rfl)]
theorem fld_b (s : ByteArray) (k : Nat) (h : s.size ≤ k ∨ ∃ h : k < s.size, ¬ s[k] = 34) : fld ((L s).drop k) = if bareN ((L s).drop k) = 0 then none else some ((((L s).drop k).take (bareN ((L s).drop k)), false), bareN ((L s).drop k)) := by
  unfold fld
  rw [if_neg]
  rcases h with h | ⟨h, hc⟩
  · rw [drop_end s k h]; simp
  · rw [drop_cons s k h]; simpa using hc
theorem bare_step (s : ByteArray) (k0 k : Nat) (h0 : k0 ≤ k) (h : k < s.size) (ha : (((L s).drop k0).take (k - k0)).all bareC = true) (hk : bareC s[k] = true) : (((L s).drop k0).take (k + 1 - k0)).all bareC = true := by
  have hl : k - k0 < ((L s).drop k0).length := by rw [List.length_drop, L_length]; omega
  have e : ((L s).drop k0)[k - k0] = s[k] := by
    rw [List.getElem_drop]
    have : k0 + (k - k0) = k := by omega
    simp only [this]; rfl
  rw [show k + 1 - k0 = (k - k0) + 1 by omega, List.take_succ_eq_append_getElem hl, List.all_append, ha, e]
  simp [hk]
theorem bare_stop (s : ByteArray) (k0 k : Nat) (h0 : k0 ≤ k) (h : k < s.size) (ha : (((L s).drop k0).take (k - k0)).all bareC = true) (hk : bareC s[k] = false) : bareN ((L s).drop k0) = k - k0 := by
  apply bareN_of _ _ (by rw [List.length_drop, L_length]; omega) ha
  rw [List.drop_drop, show k0 + (k - k0) = k by omega, drop_cons s k h]
  simp [hk]
theorem bare_end (s : ByteArray) (k0 k : Nat) (h0 : k0 ≤ k) (h1 : k ≤ s.size) (h : s.size ≤ k) (ha : (((L s).drop k0).take (k - k0)).all bareC = true) : bareN ((L s).drop k0) = k - k0 := by
  apply bareN_of _ _ (by rw [List.length_drop, L_length]; omega) ha
  rw [List.drop_drop, show k0 + (k - k0) = k by omega, drop_end s k h]
  simp
theorem its'_len : ∀ (f : Nat) (l : List UInt8), (its' f l).length ≤ f + 1
  | 0, _ => Nat.zero_le _
  | f + 1, l => by
    rw [its']
    cases hf : fld l with
    | none => simp
    | some y =>
      obtain ⟨x, n⟩ := y
      simp only
      cases hd : l.drop n with
      | nil => simp
      | cons c r =>
        simp only
        have := its'_len f r
        split <;> simp only [List.length_cons, List.length_nil] <;> omega
theorem its_len (l : List UInt8) : (its l).length ≤ l.length + 2 := its'_len _ _
end Go.Proofs.YthifbihmogjjpaaGreatDoor.Pl

/-
  Plain functions: numbers in decimal form.
-/
namespace Go.Proofs.YthifbihmogjjpaaGreatDoor.Pl
open Go.Lib

/-- the number that digits spell, behind others -/
def dstep (a : Nat) (c : UInt8) : Nat := a * 10 + (c.toNat - 48)
theorem dstep_ge (a : Nat) (c : UInt8) : a ≤ dstep a c := by
  unfold dstep
  generalize c.toNat - 48 = k
  omega
def dval (acc : Nat) (l : List UInt8) : Nat := l.foldl dstep acc
theorem dval_nil (acc : Nat) : dval acc [] = acc := rfl
theorem dval_cons (acc : Nat) (c : UInt8) (r : List UInt8) : dval acc (c :: r) = dval (dstep acc c) r := by unfold dval; rw [List.foldl_cons]
theorem dval_ge (l : List UInt8) : ∀ (acc : Nat), acc ≤ dval acc l := by
  induction l with
  | nil => intro acc; exact Nat.le_refl _
  | cons c r ih =>
    intro acc
    rw [dval_cons]
    exact Nat.le_trans (dstep_ge acc c) (ih _)
theorem dig_iff (c : UInt8) : dig c = true ↔ 48 ≤ c.toNat ∧ c.toNat ≤ 57 := by
  unfold dig; simp only [Bool.and_eq_true, decide_eq_true_eq]; omega
theorem parseM_all (M : Nat) (hM : M ≤ 18446744073709551615) (l : List UInt8) : ∀ (acc : Nat), acc ≤ M → l.all dig = true →
    parseUintM M acc l = if dval acc l ≤ M then .ok (dval acc l) else .range := by
  induction l with
  | nil => intro acc h _; rw [parseUintM, dval_nil, if_pos h]
  | cons c r ih =>
    intro acc h ha
    simp only [List.all_cons, Bool.and_eq_true] at ha
    have hc := (dig_iff c).1 ha.1
    have hge := dval_ge r (dstep acc c)
    rw [parseUintM, if_pos hc, dval_cons]
    have hd : dstep acc c = acc * 10 + (c.toNat - 48) := by unfold dstep; exact rfl
    rw [← hd]
    have hd2 : acc * 10 ≤ dstep acc c := by rw [hd]; exact Nat.le_add_right _ _
    clear hd
    generalize dstep acc c = q at *
    split
    · rw [if_neg (by omega)]
    · split
      · rw [if_neg (by omega)]
      · exact ih _ (by omega) ha.2
/-- the integer of a decimal form -/
def ival (l : List UInt8) : Int := if l.head? = some 45 then -(dval 0 (l.drop 1) : Int) else (dval 0 l : Int)
theorem nat_parts {l : List UInt8} (h : nat l = true) : ∃ c r, l = c :: r ∧ l.all dig = true := by
  unfold nat at h
  cases l with
  | nil => cases h
  | cons c r =>
    simp only [Bool.and_eq_true] at h
    exact ⟨c, r, rfl, h.2⟩
theorem parse_dec (l : List UInt8) (h : dec l = true) : parseIntB 64 l = if -9223372036854775808 ≤ ival l ∧ ival l ≤ 9223372036854775807 then .ok (ival l) else .range := by
  unfold dec at h
  split at h
  · rename_i hm
    cases l with
    | nil => cases hm
    | cons c r =>
      have hc : c = 45 := by simpa using hm
      subst hc
      simp only [Bool.and_eq_true, List.drop_succ_cons, List.drop_zero] at h
      obtain ⟨c', r', hr, ha⟩ := nat_parts h.2
      have hr0 : r ≠ [] := by rw [hr]; simp
      rw [parseIntB_minus, parseUintB, if_neg hr0, parseM_all _ (by decide) r 0 (Nat.zero_le _) ha]
      have hi : ival (45 :: r) = -(dval 0 r : Int) := by simp [ival]
      rw [hi]
      have e1 : (2 : Nat) ^ 64 - 1 = 18446744073709551615 := by decide
      have e2 : (2 : Nat) ^ (64 - 1) = 9223372036854775808 := by decide
      rw [e1, e2]
      by_cases h1 : dval 0 r ≤ 9223372036854775808
      · rw [if_pos (by omega), if_pos (by omega)]
        show (if 9223372036854775808 < dval 0 r then NumEnd.range else NumEnd.ok (-(dval 0 r : Int))) = _
        rw [if_neg (by omega)]
      · rw [if_neg (c := -9223372036854775808 ≤ -(dval 0 r : Int) ∧ _) (by omega)]
        split
        · show (if 9223372036854775808 < dval 0 r then NumEnd.range else NumEnd.ok (-(dval 0 r : Int))) = _
          rw [if_pos (by omega)]
        · rfl
  · rename_i hm
    obtain ⟨c, r, hr, ha⟩ := nat_parts h
    have hi : ival l = (dval 0 l : Int) := by unfold ival; rw [if_neg hm]
    subst hr
    have hc := (dig_iff c).1 (by simp only [List.all_cons, Bool.and_eq_true] at ha; exact ha.1)
    rw [parseIntB_plain 64 c r (by omega) (by omega), parseUintB, if_neg (by simp), parseM_all _ (by decide) (c :: r) 0 (Nat.zero_le _) ha]
    rw [hi]
    have e1 : (2 : Nat) ^ 64 - 1 = 18446744073709551615 := by decide
    have e2 : (2 : Nat) ^ (64 - 1) = 9223372036854775808 := by decide
    rw [e1, e2]
    by_cases h1 : dval 0 (c :: r) < 9223372036854775808
    · rw [if_pos (by omega), if_pos (by omega)]
      show (if 9223372036854775808 ≤ dval 0 (c :: r) then NumEnd.range else NumEnd.ok (dval 0 (c :: r) : Int)) = _
      rw [if_neg (by omega)]
    · rw [if_neg (c := -9223372036854775808 ≤ (dval 0 (c :: r) : Int) ∧ _) (by omega)]
      split
      · show (if 9223372036854775808 ≤ dval 0 (c :: r) then NumEnd.range else NumEnd.ok (dval 0 (c :: r) : Int)) = _
        rw [if_pos (by omega)]
      · rfl
/-- Int: the error, and the number -/
def intE (l : List UInt8) (lo hi : Int) : Int × Int := if dec l then (if lo ≤ ival l ∧ ival l ≤ hi then (0, ival l) else (7, 0)) else (6, 0)
theorem nat_none : nat [] = false := rfl
end Go.Proofs.YthifbihmogjjpaaGreatDoor.Pl

/-
  Plain functions: list expressions.
-/
namespace Go.Proofs.YthifbihmogjjpaaGreatDoor.Pl
open Go.Lib

/-- element i -/
def el (l : List Int) (i : Nat) : Int := l[i]?.getD 0
def ascB (l : List Int) : Bool := decide (∀ j, j < l.length - 1 → el l j < el l (j + 1))
def outR (n : Int) : Bool := decide (n < 0) || decide (1000000000 < n)
/-- checkList -/
def chk (l : List Int) : Int := if 500 < l.length then 3 else if l.any outR then 7 else if ascB l then 0 else 6
theorem any_el (l : List Int) (k : Nat) (h : k < l.length) (hp : outR (el l k) = true) : l.any outR = true := by
  have e : el l k = l[k] := by unfold el; rw [List.getElem?_eq_getElem h]; rfl
  rw [e] at hp
  exact List.any_eq_true.2 ⟨l[k], List.getElem_mem h, hp⟩
theorem any_take (l : List Int) (k : Nat) (h : k < l.length) : (l.take (k + 1)).any outR = ((l.take k).any outR || outR (el l k)) := by
  have e : el l k = l[k] := by unfold el; rw [List.getElem?_eq_getElem h]; rfl
  rw [List.take_succ_eq_append_getElem h, List.any_append, e]; simp
theorem outR_el (l : List Int) (h : l.any outR = false) (k : Nat) : 0 ≤ el l k ∧ el l k ≤ 1000000000 := by
  by_cases hk : k < l.length
  · have e : el l k = l[k] := by unfold el; rw [List.getElem?_eq_getElem hk]; rfl
    have := List.any_eq_false.1 h l[k] (List.getElem_mem hk)
    rw [← e] at this
    unfold outR at this
    simp at this
    omega
  · have e : el l k = 0 := by unfold el; rw [List.getElem?_eq_none (by omega)]; rfl
    rw [e]; omega

/-- how many of r go on from p -/
def goOn (p : Int) : List Int → Nat
  | [] => 0
  | x :: r => if x = p + 1 then goOn x r + 1 else 0
theorem goOn_le (r : List Int) : ∀ p, goOn p r ≤ r.length := by
  induction r with
  | nil => intro p; exact Nat.le_refl _
  | cons x r ih =>
    intro p
    unfold goOn
    have := ih x
    split <;> simp only [List.length_cons] <;> omega
/-- spanEnd -/
def spanE (l : List Int) (a : Nat) : Nat := a + 1 + goOn (el l a) (l.drop (a + 1))
theorem drop_el (l : List Int) (k : Nat) (h : k < l.length) : l.drop k = el l k :: l.drop (k + 1) := by
  rw [List.drop_eq_getElem_cons h]; unfold el; rw [List.getElem?_eq_getElem h]; rfl
/-- on the way: the elements from a on, up to e, go on -/
theorem goOn_step (l : List Int) (e : Nat) (h : e < l.length) (he : 0 < e) (hc : el l e = el l (e - 1) + 1) : goOn (el l (e - 1)) (l.drop e) = goOn (el l e) (l.drop (e + 1)) + 1 := by
  rw [drop_el l e h, goOn, if_pos hc]
theorem goOn_stop (l : List Int) (e : Nat) (h : e < l.length) (hc : ¬ el l e = el l (e - 1) + 1) : goOn (el l (e - 1)) (l.drop e) = 0 := by
  rw [drop_el l e h, goOn, if_neg hc]
theorem goOn_end (l : List Int) (e : Nat) (h : l.length ≤ e) (p : Int) : goOn p (l.drop e) = 0 := by
  rw [List.drop_eq_nil_of_le h]; rfl
theorem goOn_last (r : List Int) : ∀ (p : Int) (l : List Int), l = p :: r → el l (goOn p r) = p + goOn p r := by
  induction r with
  | nil => intro p l h; subst h; simp [goOn, el]
  | cons x r ih =>
    intro p l h
    subst h
    unfold goOn
    split
    · rename_i hx
      have := ih x (x :: r) rfl
      have e : el (p :: x :: r) (goOn x r + 1) = el (x :: r) (goOn x r) := by simp [el]
      rw [e, this, hx]
      simp only [Int.natCast_add]
      omega
    · simp [el]
/-- a span as it is written -/
def wr2 (a b : Int) : List UInt8 := if a = b then itoa a else itoa a ++ [45] ++ itoa b
def parts' : Nat → List Int → List (List UInt8)
  | 0, _ => []
  | _ + 1, [] => []
  | f + 1, x :: r => wr2 x (x + goOn x r) :: parts' f (r.drop (goOn x r))
theorem parts'_more : ∀ (f : Nat) (l : List Int), l.length ≤ f → parts' (f + 1) l = parts' f l
  | 0, [], _ => rfl
  | 0, _ :: _, h => absurd h (by simp)
  | f + 1, [], _ => rfl
  | f + 1, x :: r, h => by
    rw [parts', parts']
    rw [parts'_more f _ (by simp at h ⊢; omega)]
theorem parts'_enough : ∀ (d f : Nat) (l : List Int), l.length ≤ f → parts' (f + d) l = parts' f l
  | 0, _, _, _ => rfl
  | d + 1, f, l, h => by rw [← Nat.add_assoc, parts'_more (f + d) l (by omega), parts'_enough d f l h]
def parts (l : List Int) : List (List UInt8) := parts' l.length l
theorem parts_cons (x : Int) (r : List Int) : parts (x :: r) = wr2 x (x + goOn x r) :: parts (r.drop (goOn x r)) := by
  unfold parts
  rw [List.length_cons, parts']
  congr 1
  have := parts'_enough (r.length - (r.drop (goOn x r)).length) (r.drop (goOn x r)).length (r.drop (goOn x r)) (Nat.le_refl _)
  rw [← this]
  congr 1
  rw [List.length_drop]; omega
theorem parts_at (l : List Int) (a : Nat) (h : a < l.length) : parts (l.drop a) = wr2 (el l a) (el l (spanE l a - 1)) :: parts (l.drop (spanE l a)) := by
  have hd := drop_el l a h
  rw [hd, parts_cons]
  have h1 := goOn_last (l.drop (a + 1)) (el l a) (l.drop a) hd
  have h2 : el (l.drop a) (goOn (el l a) (l.drop (a + 1))) = el l (spanE l a - 1) := by
    have e1 : spanE l a - 1 = a + goOn (el l a) (l.drop (a + 1)) := by unfold spanE; omega
    rw [e1]
    generalize goOn (el l a) (l.drop (a + 1)) = q
    unfold el; rw [List.getElem?_drop]
  rw [← h1, h2, List.drop_drop]; rfl
/-- List: the error, and the expression -/
def listE (l : List Int) : Int × List UInt8 := if chk l = 0 then (if l = [] then (0, [45]) else (0, join (parts l) [44])) else (chk l, [])
theorem spanE_bound (l : List Int) (a : Nat) (h : a < l.length) : a < spanE l a ∧ spanE l a ≤ l.length := by
  unfold spanE
  have := goOn_le (l.drop (a + 1)) (el l a)
  rw [List.length_drop] at this
  omega
end Go.Proofs.YthifbihmogjjpaaGreatDoor.Pl

/-
  Plain functions: lengths of list expressions.
-/
namespace Go.Proofs.YthifbihmogjjpaaGreatDoor.Pl
open Go.Lib
theorem wr2_len (x y : Int) (x0 : 0 ≤ x) (x1 : x ≤ 1000000000) (y0 : 0 ≤ y) (y1 : y ≤ 1000000000) : (wr2 x y).length ≤ 100 := by
  have h1 := itoa_length_le x (by omega) (by omega)
  have h2 := itoa_length_le y (by omega) (by omega)
  unfold wr2
  split
  · omega
  · simp only [List.length_append, List.length_cons, List.length_nil]; omega
theorem tail_len (sep : List UInt8) (hs : sep.length ≤ 1) (r : List (List UInt8)) (h : ∀ t ∈ r, t.length ≤ 100) : (joinTail sep r).length ≤ r.length * 101 := by
  unfold joinTail
  induction r with
  | nil => simp
  | cons t r ih =>
    have h1 := h t (by simp)
    have h2 := ih (fun t' ht' => h t' (by simp [ht']))
    simp only [List.map_cons, List.flatten_cons, List.length_append, List.length_cons] at h2 ⊢
    omega
theorem join_len (ts : List (List UInt8)) (h : ∀ t ∈ ts, t.length ≤ 100) : (join ts [44]).length ≤ ts.length * 101 + 100 := by
  cases ts with
  | nil => simp [join_nil]
  | cons t r =>
    rw [join_cons]
    have h1 := h t (by simp)
    have h2 := tail_len [44] (by simp) r (fun t' ht' => h t' (by simp [ht']))
    simp only [List.length_append, List.length_cons]
    omega
end Go.Proofs.YthifbihmogjjpaaGreatDoor.Pl

/-
  Plain functions: the reference's names and numbers.
-/
namespace Go.Proofs.YthifbihmogjjpaaGreatDoor.Pl
open Go.Lib

theorem low_nameC (c : UInt8) (h : low c = true) : nameC c = true := by unfold nameC; rw [h]; rfl
/-- where the minus sign stands for the reference -/
def cutM (s : ByteArray) : Prop := 1 < s.size ∧ ∃ (h0 : 0 < s.size) (h1 : 1 < s.size), s[0] = 45 ∧ ¬ s[1] = 48
theorem nat_one (s : ByteArray) (h : 1 < s.size) (h1 : ¬ s[1] = 48) : nat ((L s).drop 1) = ((L s).drop 1).all dig := by
  have e : (L s).drop 1 = s[1] :: (L s).drop 2 := drop_cons s 1 h
  unfold nat
  rw [e]
  have e2 : (some s[1] == some (48 : UInt8)) = false := by simpa using h1
  simp [e2]
theorem dec_cut (s : ByteArray) (h : 1 < s.size) (h0 : s[0] = 45) (h1 : ¬ s[1] = 48) : dec (L s) = ((L s).drop 1).all dig := by
  have hd : (L s).head? = some 45 := by rw [head_eq s (by omega), h0]
  have hne : (L s != [45, 48]) = true := by
    rw [bne_iff_ne]; intro e
    have e1 := L_get? s 1 h
    rw [e] at e1
    simp at e1
    exact h1 e1.symm
  unfold dec
  rw [if_pos hd, hne, nat_one s h h1]; rfl
/-- not cut, but with a minus sign ahead: no decimal form -/
theorem dec_sign (s : ByteArray) (h : 0 < s.size) (h0 : s[0] = 45) (h1 : s.size ≤ 1 ∨ ∃ h : 1 < s.size, s[1] = 48) : dec (L s) = false := by
  have hd : (L s).head? = some 45 := by rw [head_eq s h, h0]
  unfold dec
  rw [if_pos hd]
  rcases h1 with h1 | ⟨h1, h2⟩
  · have : (L s).drop 1 = [] := drop_end s 1 h1
    rw [this]; simp [nat]
  · by_cases h3 : s.size = 2
    · have : L s = [45, 48] := by
        rw [L_two s h1, h0, h2, drop_end s 2 (by omega)]
      rw [this]; rfl
    · have e : (L s).drop 1 = 48 :: (L s).drop 2 := by rw [drop_cons s 1 h1, h2]
      have e2 : (L s).drop 2 = s[2]'(by omega) :: (L s).drop 3 := drop_cons s 2 (by omega)
      have : nat ((L s).drop 1) = false := by rw [e, e2]; unfold nat; simp
      rw [this]; simp
theorem all_drop_succ (p : UInt8 → Bool) (s : ByteArray) (o k : Nat) (h : o + k < s.size) (ha : (((L s).drop o).take k).all p = true) (hk : p s[o + k] = true) : (((L s).drop o).take (k + 1)).all p = true := by
  have hl : k < ((L s).drop o).length := by rw [List.length_drop, L_length]; omega
  have e : ((L s).drop o)[k] = s[o + k] := by rw [List.getElem_drop]; rfl
  rw [List.take_succ_eq_append_getElem hl, List.all_append, ha, e]; simp [hk]
theorem all_drop_not (p : UInt8 → Bool) (s : ByteArray) (o k : Nat) (h : o + k < s.size) (hk : p s[o + k] = false) : ((L s).drop o).all p = false := by
  have hl : k < ((L s).drop o).length := by rw [List.length_drop, L_length]; omega
  have e : ((L s).drop o)[k] = s[o + k] := by rw [List.getElem_drop]; rfl
  rw [Bool.eq_false_iff]
  intro ha
  have := (List.all_eq_true.1 ha) _ (List.getElem_mem hl)
  rw [e, hk] at this; cases this
theorem all_drop_whole (p : UInt8 → Bool) (s : ByteArray) (o k : Nat) (h : s.size ≤ o + k) (ha : (((L s).drop o).take k).all p = true) : ((L s).drop o).all p = true := by
  rwa [List.take_of_length_le (by rw [List.length_drop, L_length]; omega)] at ha
theorem extract_at (s : ByteArray) (o k : Nat) (h : k < (s.extract o s.size).size) (h2 : o + k < s.size) : (s.extract o s.size)[k] = s[o + k] := by
  have e := L_extract s o
  have h3 : k < (L (s.extract o s.size)).length := by rw [L_length]; exact h
  have : (L (s.extract o s.size))[k] = ((L s).drop o)[k]'(e ▸ h3) := by simp only [e]
  rw [List.getElem_drop] at this
  exact this
end Go.Proofs.YthifbihmogjjpaaGreatDoor.Pl

/-
  Plain functions: the reference's numbers, one byte after the other.
-/
namespace Go.Proofs.YthifbihmogjjpaaGreatDoor.Pl
open Go.Lib

def rstep (acc : Nat) (c : UInt8) : Nat := if c.toNat = 45 then acc else dstep acc c
def rval (l : List UInt8) : Nat := l.foldl rstep 0
theorem rval_snoc (s : ByteArray) (k : Nat) (h : k < s.size) : rval ((L s).take (k + 1)) = rstep (rval ((L s).take k)) s[k] := by
  have e : (L s).take (k + 1) = (L s).take k ++ [s[k]] := List.take_succ_eq_append_getElem h
  unfold rval
  rw [e, List.foldl_append]; rfl
theorem rfold_ge (l : List UInt8) : ∀ (acc : Nat), acc ≤ l.foldl rstep acc := by
  induction l with
  | nil => intro acc; exact Nat.le_refl _
  | cons c r ih =>
    intro acc
    rw [List.foldl_cons]
    refine Nat.le_trans ?_ (ih _)
    unfold rstep dstep
    split <;> omega
theorem rval_take_le (s : ByteArray) (k : Nat) : rval ((L s).take k) ≤ rval (L s) := by
  have e : (L s) = (L s).take k ++ (L s).drop k := (List.take_append_drop k _).symm
  conv => rhs; rw [e]
  unfold rval
  rw [List.foldl_append]
  exact rfold_ge _ _
theorem rfold_dig (l : List UInt8) (h : l.all dig = true) : ∀ (acc : Nat), l.foldl rstep acc = dval acc l := by
  induction l with
  | nil => intro acc; rfl
  | cons c r ih =>
    intro acc
    rw [List.all_cons, Bool.and_eq_true] at h
    rw [List.foldl_cons, dval_cons, ← ih h.2]
    have : rstep acc c = dstep acc c := by
      unfold rstep
      rw [if_neg]
      intro h45
      have := h.1
      simp [dig] at this
      omega
    rw [this]
theorem nat_all (l : List UInt8) (h : nat l = true) : l.all dig = true := by
  unfold nat at h
  simp only [Bool.and_eq_true] at h
  exact h.2
theorem dec_all (l : List UInt8) (h : dec l = true) : (l.head? = some 45 ∧ (l.drop 1).all dig = true) ∨ (¬ l.head? = some 45 ∧ l.all dig = true) := by
  unfold dec at h
  split at h
  · rename_i hm
    refine .inl ⟨hm, ?_⟩
    rw [Bool.and_eq_true] at h
    exact nat_all _ h.2
  · rename_i hm
    refine .inr ⟨hm, ?_⟩
    exact nat_all _ h
theorem ival_rval (l : List UInt8) (h : dec l = true) : ival l = if l.head? = some 45 then -(rval l : Int) else (rval l : Int) := by
  rcases dec_all l h with ⟨h1, h2⟩ | ⟨h1, h2⟩
  · unfold ival
    rw [if_pos h1, if_pos h1]
    cases l with
    | nil => cases h1
    | cons c r =>
      simp at h1
      subst h1
      have : rval (45 :: r) = dval 0 r := by
        unfold rval
        rw [List.foldl_cons]
        exact rfold_dig r h2 0
      rw [this]; rfl
  · unfold ival
    rw [if_neg h1, if_neg h1]
    unfold rval
    rw [rfold_dig l h2]
theorem dec_byte (s : ByteArray) (h : dec (L s) = true) (k : Nat) (hk : k < s.size) (hn : ¬ (s[k].toNat : Int) = 45) : 48 ≤ s[k].toNat ∧ s[k].toNat ≤ 57 := by
  have hd : dig s[k] = true := by
    rcases dec_all _ h with ⟨h1, h2⟩ | ⟨h1, h2⟩
    · cases k with
      | zero =>
        rw [head_eq s hk] at h1
        simp at h1
        rw [h1] at hn
        exact absurd rfl hn
      | succ j =>
        have hl : j < ((L s).drop 1).length := by rw [List.length_drop, L_length]; omega
        have e : ((L s).drop 1)[j] = s[1 + j]'(by omega) := by rw [List.getElem_drop]; rfl
        have := (List.all_eq_true.1 h2) _ (List.getElem_mem hl)
        rw [e] at this
        simpa [Nat.add_comm] using this
    · exact (List.all_eq_true.1 h2) _ (List.getElem_mem (show k < (L s).length from hk))
  simp [dig] at hd
  omega
theorem dec_pos (s : ByteArray) (h : dec (L s) = true) : 0 < s.size := by
  by_cases h0 : 0 < s.size
  · exact h0
  · have : dec (L s) = false := by rw [dec_plain s (.inl (by omega)), nat_nil s (by omega)]
    rw [this] at h; cases h
theorem rstep_dig (acc : Nat) (c : UInt8) (hn : ¬ (c.toNat : Int) = 45) : rstep acc c = dstep acc c := by
  unfold rstep; rw [if_neg (by omega)]
theorem rstep_minus (acc : Nat) (c : UInt8) (hn : (c.toNat : Int) = 45) : rstep acc c = acc := by
  unfold rstep; rw [if_pos (by omega)]
/-- what is too great stays so -/
theorem rval_range (s : ByteArray) (h : dec (L s) = true) (v : Nat) (hv : v ≤ rval (L s)) (hb : 9223372036854775808 < v) (lo hi : Int) (h0 : -9223372036854775808 ≤ lo) (h1 : hi ≤ 9223372036854775807) : intE (L s) lo hi = (7, 0) := by
  unfold intE
  rw [if_pos h, if_neg]
  rw [ival_rval _ h]
  split <;> omega
end Go.Proofs.YthifbihmogjjpaaGreatDoor.Pl

/-
  Plain functions: decimal numerals, digit by digit.
-/
namespace Go.Proofs.YthifbihmogjjpaaGreatDoor.Pl
open Go.Lib

theorem dg_byte (d : Nat) : ((48 + d : Nat) : Int).toNat = 48 + d := by omega
theorem itoa_last (n : Int) (h : 9 < n ∨ n < -9) : itoa n = itoa (Int.tdiv n 10) ++ [UInt8.ofNat (48 + n.natAbs % 10)] := by
  rcases h with h | h
  · obtain ⟨u, rfl⟩ : ∃ u : Nat, n = u := ⟨n.toNat, by omega⟩
    have e : Int.tdiv (u : Int) 10 = ((u / 10 : Nat) : Int) := by rw [Int.tdiv_eq_ediv_of_nonneg (by omega)]; omega
    rw [e, itoa_nonneg, itoa_nonneg, decDigits, dif_neg (by omega)]
    simp
  · obtain ⟨u, rfl⟩ : ∃ u : Nat, n = -(u : Int) := ⟨n.natAbs, by omega⟩
    have e : Int.tdiv (-(u : Int)) 10 = -((u / 10 : Nat) : Int) := by rw [Int.neg_tdiv, Int.tdiv_eq_ediv_of_nonneg (by omega)]; omega
    rw [e, itoa_neg u (by omega), itoa_neg (u / 10) (by omega), decDigits, dif_neg (by omega)]
    simp
theorem itoa_minus (n : Int) (h : n < 0) : itoa n = 45 :: itoa (-n) := by
  obtain ⟨u, rfl⟩ : ∃ u : Nat, n = -(u : Int) := ⟨n.natAbs, by omega⟩
  rw [itoa_neg u (by omega), Int.neg_neg, itoa_nonneg]
theorem itoa_one (n : Int) (h0 : 0 ≤ n) (h : n ≤ 9) : itoa n = [UInt8.ofNat (48 + n).toNat] := by
  obtain ⟨u, rfl⟩ : ∃ u : Nat, n = u := ⟨n.toNat, by omega⟩
  rw [itoa_nonneg, decDigits, dif_pos (by omega)]
  congr 2
end Go.Proofs.YthifbihmogjjpaaGreatDoor.Pl

/-
  Plain functions: the quoted form of a string.
-/
namespace Go.Proofs.YthifbihmogjjpaaGreatDoor.Pl
open Go.Lib

def hexd (n : Nat) : UInt8 := hexL.getD n 0
/-- how a byte stands between quotes -/
def esc (c : UInt8) : List UInt8 := if plain c then [c] else match letter c with
  | some l => [92, l]
  | none => [92, 120, hexd (c.toNat / 16), hexd (c.toNat % 16)]
theorem esc_plain (c : UInt8) (h : plain c = true) : esc c = [c] := by unfold esc; rw [if_pos h]
theorem esc_letter (c l : UInt8) (h : plain c = false) (hl : letter c = some l) : esc c = [92, l] := by unfold esc; rw [h, hl]; rfl
theorem esc_hex (c : UInt8) (h : plain c = false) (hl : letter c = none) : esc c = [92, 120, hexd (c.toNat / 16), hexd (c.toNat % 16)] := by unfold esc; rw [h, hl]; rfl
theorem esc_len (c : UInt8) : (esc c).length ≤ 4 ∧ 1 ≤ (esc c).length := by
  unfold esc
  split
  · simp
  · split <;> simp
def qbody (l : List UInt8) : List UInt8 := l.flatMap esc
def quote (l : List UInt8) : List UInt8 := 34 :: (qbody l ++ [34])
theorem qbody_snoc (s : ByteArray) (k : Nat) (h : k < s.size) : qbody ((L s).take (k + 1)) = qbody ((L s).take k) ++ esc s[k] := by
  have e : (L s).take (k + 1) = (L s).take k ++ [s[k]] := List.take_succ_eq_append_getElem h
  unfold qbody
  rw [e, List.flatMap_append]
  simp
theorem qbody_len (l : List UInt8) : (qbody l).length ≤ 4 * l.length := by
  induction l with
  | nil => simp [qbody]
  | cons c r ih =>
    have := (esc_len c).1
    unfold qbody at ih ⊢
    rw [List.flatMap_cons, List.length_append, List.length_cons]
    omega
end Go.Proofs.YthifbihmogjjpaaGreatDoor.Pl

/-
  Plain functions: a written byte is the one whose quoted form stands at the head.
-/
namespace Go.Proofs.YthifbihmogjjpaaGreatDoor.Pl
open Go.Lib

theorem hv_hexd : ∀ n : Fin 16, hv (hexd n.val) = (n.val : Int) := by decide +kernel
theorem hexd_hv : ∀ a : Fin 256, 0 ≤ hv (UInt8.ofNat a.val) → hexd (hv (UInt8.ofNat a.val)).toNat = UInt8.ofNat a.val := by decide +kernel
theorem hexd_hv' (a : UInt8) (h : 0 ≤ hv a) : hexd (hv a).toNat = a := by
  have := hexd_hv ⟨a.toNat, a.toNat_lt⟩
  simp only [UInt8.ofNat_toNat] at this
  exact this h
theorem letter_raw (c x : UInt8) (h : letter c = some x) : raw x = some c ∧ ¬ x = 120 := by
  unfold letter at h
  split at h
  · cases h; subst_vars; exact ⟨rfl, by decide⟩
  split at h
  · cases h; subst_vars; exact ⟨rfl, by decide⟩
  split at h
  · cases h; subst_vars; exact ⟨rfl, by decide⟩
  split at h
  · cases h; subst_vars; exact ⟨rfl, by decide⟩
  split at h
  · cases h; subst_vars; exact ⟨rfl, by decide⟩
  cases h
theorem raw_letter (x c : UInt8) (h : raw x = some c) : letter c = some x ∧ plain c = false := by
  unfold raw at h
  split at h
  · cases h; subst_vars; exact ⟨rfl, by decide⟩
  split at h
  · cases h; subst_vars; exact ⟨rfl, by decide⟩
  split at h
  · cases h; subst_vars; exact ⟨rfl, by decide⟩
  split at h
  · cases h; subst_vars; exact ⟨rfl, by decide⟩
  split at h
  · cases h; subst_vars; exact ⟨rfl, by decide⟩
  cases h
theorem plain_not92 (c : UInt8) (h : plain c = true) : ¬ c = 92 := by rintro rfl; revert h; decide
theorem hexv_self (c : UInt8) : hexv (hexd (c.toNat / 16)) (hexd (c.toNat % 16)) = c ∧ 0 ≤ hv (hexd (c.toNat / 16)) ∧ 0 ≤ hv (hexd (c.toNat % 16)) := by
  have hb := c.toNat_lt
  have e1 := hv_hexd ⟨c.toNat / 16, by omega⟩
  have e2 := hv_hexd ⟨c.toNat % 16, by omega⟩
  simp only at e1 e2
  refine ⟨?_, by omega, by omega⟩
  apply UInt8.toNat_inj.1
  have := hexv_toNat (hexd (c.toNat / 16)) (hexd (c.toNat % 16)) (by omega) (by omega)
  omega
theorem hex_cons (a b : UInt8) (r : List UInt8) : hex (a :: b :: r) = if hv a < 0 ∨ hv b < 0 then none else if (letter (hexv a b)).isSome || plain (hexv a b) then none else some (hexv a b) := rfl
/-- a quoted form at the head is what is read there -/
theorem rb_of_esc (c : UInt8) (r : List UInt8) : rb (esc c ++ r) = some (c, (esc c).length) := by
  cases hp : plain c with
  | true =>
    rw [esc_plain c hp]
    show rb (c :: r) = _
    rw [rb_cons, if_neg (plain_not92 c hp), if_pos hp]; rfl
  | false =>
    cases hl : letter c with
    | some x =>
      rw [esc_letter c x hp hl]
      show rb (92 :: x :: r) = _
      obtain ⟨h1, h2⟩ := letter_raw c x hl
      rw [rb_cons, if_pos rfl, rb92_cons, if_neg h2, h1]; rfl
    | none =>
      rw [esc_hex c hp hl]
      show rb (92 :: 120 :: hexd (c.toNat / 16) :: hexd (c.toNat % 16) :: r) = _
      obtain ⟨h1, h2, h3⟩ := hexv_self c
      rw [rb_cons, if_pos rfl, rb92_cons, if_pos rfl]
      have : hex (hexd (c.toNat / 16) :: hexd (c.toNat % 16) :: r) = some c := by
        rw [hex_cons, if_neg (by omega), h1, hl, hp]; rfl
      rw [this]; rfl
theorem esc_of_rb (l : List UInt8) (c : UInt8) (n : Nat) (h : rb l = some (c, n)) : ∃ r, l = esc c ++ r ∧ n = (esc c).length := by
  cases l with
  | nil => cases h
  | cons b r =>
    rw [rb_cons] at h
    split at h
    · subst_vars
      cases r with
      | nil => cases h
      | cons x r' =>
        rw [rb92_cons] at h
        split at h
        · subst_vars
          match r', h with
          | [], h => cases h
          | [_], h => cases h
          | a :: b :: r2, h =>
            rw [hex_cons] at h
            by_cases hn : hv a < 0 ∨ hv b < 0
            · rw [if_pos hn] at h; cases h
            · rw [if_neg hn] at h
              by_cases hn2 : ((letter (hexv a b)).isSome || plain (hexv a b)) = true
              · rw [if_pos hn2] at h; cases h
              · rw [if_neg hn2] at h
                simp only [Option.map_some, Option.some.injEq, Prod.mk.injEq] at h
                obtain ⟨hc, rfl⟩ := h
                have ha : 0 ≤ hv a := by omega
                have hb : 0 ≤ hv b := by omega
                have hv1 := hexv_toNat a b ha hb
                rw [hc] at hv1 hn2
                have r1 := hv_range a
                have r2' := hv_range b
                have hl : letter c = none := by cases hh : letter c with
                  | none => rfl
                  | some x => rw [hh] at hn2; simp at hn2
                have hp : plain c = false := by cases hh : plain c with
                  | false => rfl
                  | true => rw [hh] at hn2; simp at hn2
                refine ⟨r2, ?_, ?_⟩
                · rw [esc_hex c hp hl]
                  have d1 : c.toNat / 16 = (hv a).toNat := by omega
                  have d2 : c.toNat % 16 = (hv b).toNat := by omega
                  rw [d1, d2, hexd_hv' a ha, hexd_hv' b hb]; rfl
                · rw [esc_hex c hp hl]; rfl
        · cases hr : raw x with
          | none => rw [hr] at h; cases h
          | some v =>
            rw [hr] at h
            simp only [Option.map_some, Option.some.injEq, Prod.mk.injEq] at h
            obtain ⟨rfl, rfl⟩ := h
            obtain ⟨h1, h2⟩ := raw_letter x v hr
            exact ⟨r', by rw [esc_letter v x h2 h1]; rfl, by rw [esc_letter v x h2 h1]; rfl⟩
    · split at h
      · rename_i hp
        simp only [Option.some.injEq, Prod.mk.injEq] at h
        obtain ⟨rfl, rfl⟩ := h
        exact ⟨r, by rw [esc_plain b hp]; rfl, by rw [esc_plain b hp]; rfl⟩
      · cases h
end Go.Proofs.YthifbihmogjjpaaGreatDoor.Pl

/-
  Plain functions: the line of fields.
-/
namespace Go.Proofs.YthifbihmogjjpaaGreatDoor.Pl
open Go.Lib

def bareS (l : List UInt8) : Bool := !l.isEmpty && l.all bareC
/-- how a field is written -/
def wrt (f : List UInt8 × Bool) : List UInt8 := if f.2 then quote f.1 else f.1
def okF (f : List UInt8 × Bool) : Bool := f.2 || bareS f.1
def jstep (acc : List UInt8 × Bool) (f : List UInt8 × Bool) : List UInt8 × Bool := (acc.1 ++ (if acc.2 then 32 :: wrt f else wrt f), true)
/-- the line of fields, with a space between two of them -/
def jn (fs : List (List UInt8 × Bool)) : List UInt8 := (fs.foldl jstep ([], false)).1
theorem jn_snd : ∀ (fs : List (List UInt8 × Bool)) (acc : List UInt8 × Bool), (fs.foldl jstep acc).2 = (acc.2 || decide (0 < fs.length)) := by
  intro fs
  induction fs with
  | nil => intro acc; simp
  | cons f r ih => intro acc; rw [List.foldl_cons, ih]; simp [jstep]
theorem jn_nil : jn [] = [] := rfl
theorem jn_succ (fs : List (List UInt8 × Bool)) (k : Nat) (h : k < fs.length) : jn (fs.take (k + 1)) = jn (fs.take k) ++ (if 0 < k then 32 :: wrt fs[k] else wrt fs[k]) := by
  unfold jn
  rw [List.take_succ_eq_append_getElem h, List.foldl_append]
  show _ ++ _ = _
  rw [jn_snd, List.length_take]
  by_cases hk : 0 < k
  · rw [if_pos hk, if_pos (by simp; omega)]
  · rw [if_neg hk, if_neg (by simp; omega)]
theorem quote_len (l : List UInt8) : (quote l).length ≤ 4 * l.length + 2 := by
  unfold quote
  have := qbody_len l
  simp only [List.length_cons, List.length_append, List.length_nil]
  omega
theorem wrt_len (f : List UInt8 × Bool) : (wrt f).length ≤ 4 * f.1.length + 2 := by
  unfold wrt
  split
  · exact quote_len _
  · omega
def tooF (fs : List (List UInt8 × Bool)) : Bool := decide (64 < fs.length) || fs.any fun f => decide (2000 < f.1.length)
/-- Join: the error, and the line -/
def join (fs : List (List UInt8 × Bool)) : Int × List UInt8 :=
  if tooF fs then (3, []) else if fs.all okF then (if 8192 < (jn fs).length then (3, []) else (0, jn fs)) else (6, [])
theorem okF_take (fs : List (List UInt8 × Bool)) (k : Nat) (h : k < fs.length) (ha : (fs.take k).all okF = true) (hk : okF fs[k] = true) : (fs.take (k + 1)).all okF = true := by
  rw [List.take_succ_eq_append_getElem h, List.all_append, ha]; simp [hk]
theorem okF_not (fs : List (List UInt8 × Bool)) (k : Nat) (h : k < fs.length) (hk : okF fs[k] = false) : fs.all okF = false := by
  rw [Bool.eq_false_iff]; intro ha
  have := (List.all_eq_true.1 ha) _ (List.getElem_mem h)
  rw [hk] at this; cases this
theorem tooF_no {fs : List (List UInt8 × Bool)} (h : tooF fs = false) : fs.length ≤ 64 ∧ ∀ (k : Nat) (hk : k < fs.length), fs[k].1.length ≤ 2000 := by
  unfold tooF at h
  rw [Bool.or_eq_false_iff] at h
  refine ⟨by simpa using h.1, fun k hk => ?_⟩
  have := List.any_eq_false.1 h.2 _ (List.getElem_mem hk)
  simpa using this
end Go.Proofs.YthifbihmogjjpaaGreatDoor.Pl

/-
  Plain functions: the parts of a string between the places of a byte.
-/
namespace Go.Proofs.YthifbihmogjjpaaGreatDoor.Pl
open Go.Lib

/-- the parts between the places of a byte -/
def segs (c : UInt8) : List UInt8 → List (List UInt8)
  | [] => [[]]
  | x :: r => if x = c then [] :: segs c r else match segs c r with | [] => [[x]] | h :: t => (x :: h) :: t
theorem segs_ne (c : UInt8) : ∀ l, segs c l ≠ []
  | [] => by simp [segs]
  | x :: r => by
    rw [segs]
    split
    · simp
    · split <;> simp
theorem segs_miss (c : UInt8) : ∀ l : List UInt8, (∀ x ∈ l, x ≠ c) → segs c l = [l]
  | [], _ => rfl
  | x :: r, h => by
    rw [segs, if_neg (h x (by simp)), segs_miss c r (fun y hy => h y (by simp [hy]))]
theorem segs_hit (c : UInt8) : ∀ (l : List UInt8) (i : Nat), (∀ x ∈ l.take i, x ≠ c) → l[i]? = some c → segs c l = l.take i :: segs c (l.drop (i + 1))
  | [], i, _, h => by simp at h
  | x :: r, 0, _, h => by
    simp only [List.getElem?_cons_zero, Option.some.injEq] at h
    rw [segs, if_pos h]; rfl
  | x :: r, i + 1, hn, h => by
    rw [segs, if_neg (hn x (by simp)), segs_hit c r i (fun y hy => hn y (by simp [hy])) (by simpa using h)]
    rfl
theorem segs_snoc (c : UInt8) : ∀ l : List UInt8, segs c (l ++ [c]) = segs c l ++ [[]]
  | [] => by simp [segs]
  | x :: r => by
    rw [List.cons_append, segs, segs_snoc c r]
    by_cases h : x = c
    · rw [if_pos h, segs, if_pos h]; rfl
    · rw [if_neg h, segs, if_neg h]
      cases hs : segs c r with
      | nil => exact absurd hs (segs_ne c r)
      | cons a b => rfl
theorem segs_len (c : UInt8) : ∀ l : List UInt8, (segs c l).length ≤ l.length + 1
  | [] => by simp [segs]
  | x :: r => by
    have := segs_len c r
    rw [segs]
    split
    · simp; omega
    · split
      · simp
      · rename_i h t e
        rw [e] at this; simp at this ⊢; omega
theorem segs_mem_len (c : UInt8) : ∀ (l : List UInt8), ∀ t ∈ segs c l, t.length ≤ l.length
  | [], t, ht => by simp [segs] at ht; subst ht; simp
  | x :: r, t, ht => by
    have ih := segs_mem_len c r
    rw [segs] at ht
    split at ht
    · rcases List.mem_cons.1 ht with rfl | h
      · simp
      · have := ih t h; simp; omega
    · split at ht
      · simp at ht; subst ht; simp
      · rename_i h' t' e
        rw [e] at ih
        rcases List.mem_cons.1 ht with rfl | h
        · have := ih h' (by simp); simp; omega
        · have := ih t (by simp [h]); simp; omega
theorem splitB_segs (c : UInt8) : ∀ (k : Nat) (s : ByteArray), countB s ⟨#[c]⟩ = k → splitB ⟨#[c]⟩ 0 k s = (segs c (L s)).map fun t => ⟨t.toArray⟩ := by
  intro k
  induction k with
  | zero =>
    intro s h
    rw [splitB_zero]
    rcases indexB_cases s ⟨#[c]⟩ with h1 | ⟨i, h1, h2⟩
    · have hm : ∀ x ∈ L s, x ≠ c := by
        intro x hx e
        subst e
        have h3 : indexByte (L s) x = -1 := by rw [← index_one]; exact h1
        obtain ⟨j, hj, he⟩ := List.getElem_of_mem hx
        exact indexByte_none h3 j (by rw [List.getElem?_eq_getElem hj, he])
      rw [segs_miss c _ hm]
      show [s] = [⟨(L s).toArray⟩]
      unfold L; simp
    · rw [countB_hit s ⟨#[c]⟩ i (Nat.le_refl 1) h1] at h; omega
  | succ k ih =>
    intro s h
    rcases indexB_cases s ⟨#[c]⟩ with h1 | ⟨i, h1, h2⟩
    · rw [countB_miss _ _ h1] at h; omega
    · rw [countB_hit s ⟨#[c]⟩ i (Nat.le_refl 1) h1] at h
      have hsz : (⟨#[c]⟩ : ByteArray).size = 1 := rfl
      rw [hsz] at h
      rw [splitB_hit _ _ _ _ i h1, hsz, ih _ (by omega)]
      have h3 : indexByte (L s) c = i := by rw [← index_one]; exact h1
      obtain ⟨g1, g2⟩ := indexByte_some h3
      have e1 : L (s.extract (i + 1) s.size) = (L s).drop (i + 1) := L_extract s (i + 1)
      have e2 : s.extract 0 (i + 0) = ⟨((L s).take i).toArray⟩ := by
        have : (s.extract 0 (i + 0)).data.toList = (L s).take i := by rw [extract_data]; simp [L]
        rw [← this]
      rw [e1, e2, segs_hit c (L s) i (fun x hx e => by
        subst e
        obtain ⟨j, hj, he⟩ := List.getElem_of_mem hx
        rw [List.length_take] at hj
        rw [List.getElem_take] at he
        exact g2 j (by omega) (by rw [List.getElem?_eq_getElem (by omega), he])) g1]
      rfl
theorem countB_segs (c : UInt8) (s : ByteArray) : countB s ⟨#[c]⟩ + 1 = (segs c (L s)).length := by
  have h := splitB_segs c (countB s ⟨#[c]⟩) s rfl
  have g : ∀ (k : Nat) (s : ByteArray), countB s ⟨#[c]⟩ = k → (splitB ⟨#[c]⟩ 0 k s).length = k + 1 := by
    intro k
    induction k with
    | zero => intro s _; rw [splitB_zero]; rfl
    | succ k ih =>
      intro s h
      rcases indexB_cases s ⟨#[c]⟩ with h1 | ⟨i, h1, h2⟩
      · rw [countB_miss _ _ h1] at h; omega
      · rw [countB_hit s ⟨#[c]⟩ i (Nat.le_refl 1) h1] at h
        rw [splitB_hit _ _ _ _ i h1, List.length_cons, ih _ (by omega)]
  have := g _ s rfl
  rw [h, List.length_map] at this
  omega
end Go.Proofs.YthifbihmogjjpaaGreatDoor.Pl

/-
  Plain functions: the lines of a text.
-/
namespace Go.Proofs.YthifbihmogjjpaaGreatDoor.Pl
open Go.Lib

/-- Lines: the error, and the lines -/
def lns (l : List UInt8) : Int × List (List UInt8) :=
  if 1048576 < l.length then (3, []) else if l = [] then (0, []) else if l.getLast? = some 10 then (if 5000 < (segs 10 l.dropLast).length then (3, []) else (0, segs 10 l.dropLast)) else (6, [])
theorem lns_long {l : List UInt8} (h : 1048576 < l.length) : lns l = (3, []) := if_pos h
theorem lns_nil : lns [] = (0, []) := rfl
theorem lns_no {l : List UInt8} (h : ¬ 1048576 < l.length) (h0 : l ≠ []) (h1 : ¬ l.getLast? = some 10) : lns l = (6, []) := by
  unfold lns; rw [if_neg h, if_neg h0, if_neg h1]
theorem lns_many {b : List UInt8} (h : ¬ 1048576 < (b ++ [10]).length) (h1 : 5000 < (segs 10 b).length) : lns (b ++ [10]) = (3, []) := by
  unfold lns; rw [if_neg h, if_neg (by simp), if_pos (by simp), List.dropLast_concat, if_pos h1]
theorem lns_ok {b : List UInt8} (h : ¬ 1048576 < (b ++ [10]).length) (h1 : ¬ 5000 < (segs 10 b).length) : lns (b ++ [10]) = (0, segs 10 b) := by
  unfold lns; rw [if_neg h, if_neg (by simp), if_pos (by simp), List.dropLast_concat, if_neg h1]
theorem suf_yes (b : List UInt8) : hasSuffix (b ++ [10]) [10] = true ∧ trimSuffix (b ++ [10]) [10] = b := by
  have h : hasSuffix (b ++ [10]) [10] = true := by
    unfold hasSuffix; rw [List.isSuffixOf_iff_suffix]; exact List.suffix_append _ _
  refine ⟨h, ?_⟩
  unfold trimSuffix
  rw [if_pos h]; simp
theorem suf_no {l : List UInt8} (h : ¬ l.getLast? = some 10) : hasSuffix l [10] = false := by
  rw [Bool.eq_false_iff]
  intro e
  unfold hasSuffix at e
  rw [List.isSuffixOf_iff_suffix] at e
  obtain ⟨t, rfl⟩ := e
  exact h (by simp)
theorem last_split {l : List UInt8} (h : l.getLast? = some 10) : ∃ b, l = b ++ [10] := by
  obtain ⟨h0, h1⟩ := List.getLast?_eq_some_iff.1 h
  exact ⟨h0, h1⟩
theorem lns_few (l : List UInt8) : (lns l).2.length ≤ 5000 := by
  unfold lns
  split
  · exact Nat.zero_le _
  split
  · exact Nat.zero_le _
  split
  · split
    · exact Nat.zero_le _
    · simp only; omega
  · exact Nat.zero_le _
/-- what the reference has found so far, and where the part at hand begins -/
def SoFar (c : UInt8) (s : ByteArray) (from_ i : Nat) (done : List (List UInt8)) : Prop :=
  from_ ≤ i ∧ segs c (L s) = done ++ segs c ((L s).drop from_) ∧ ∀ (j : Nat) (h : j < s.size), from_ ≤ j → j < i → ¬ s[j] = c
theorem SoFar.start (c : UInt8) (s : ByteArray) : SoFar c s 0 0 [] := ⟨Nat.le_refl _, rfl, fun j _ _ h => absurd h (Nat.not_lt_zero _)⟩
theorem SoFar.pass {c : UInt8} {s : ByteArray} {f i : Nat} {d : List (List UInt8)} (h : SoFar c s f i d) (hi : i < s.size) (hc : ¬ s[i] = c) : SoFar c s f (i + 1) d :=
  ⟨by have := h.1; omega, h.2.1, fun j hj h1 h2 => by
    rcases Nat.lt_or_ge j i with g | g
    · exact h.2.2 j hj h1 g
    · obtain rfl : j = i := by omega
      exact hc⟩
theorem SoFar.cut {c : UInt8} {s : ByteArray} {f i : Nat} {d : List (List UInt8)} (h : SoFar c s f i d) (hi : i < s.size) (hc : s[i] = c) : SoFar c s (i + 1) (i + 1) (d ++ [((L s).drop f).take (i - f)]) := by
  obtain ⟨h1, h2, h3⟩ := h
  refine ⟨Nat.le_refl _, ?_, fun j _ g1 g2 => by omega⟩
  have hl : i - f < ((L s).drop f).length := by rw [List.length_drop, L_length]; omega
  rw [h2, segs_hit c ((L s).drop f) (i - f) (fun x hx e => by
    subst e
    obtain ⟨j, hj, he⟩ := List.getElem_of_mem hx
    rw [List.length_take] at hj
    rw [List.getElem_take, List.getElem_drop] at he
    exact h3 (f + j) (by omega) (by omega) (by omega) he) (by
    rw [List.getElem?_eq_getElem hl, List.getElem_drop]
    have : f + (i - f) = i := by omega
    simp only [this]
    exact congrArg some hc)]
  rw [List.drop_drop, show f + (i - f + 1) = i + 1 by omega]
  simp
theorem SoFar.end_ {c : UInt8} {s : ByteArray} {f i : Nat} {d : List (List UInt8)} (h : SoFar c s f i d) (hi : s.size ≤ i) : segs c (L s) = d ++ [(L s).drop f] := by
  obtain ⟨h1, h2, h3⟩ := h
  rw [h2, segs_miss c ((L s).drop f) (fun x hx e => by
    subst e
    obtain ⟨j, hj, he⟩ := List.getElem_of_mem hx
    have hj' := hj
    rw [List.length_drop, L_length] at hj'
    rw [List.getElem_drop] at he
    exact h3 (f + j) (by omega) (by omega) (by omega) he)]
theorem SoFar.lines {s : ByteArray} {f i : Nat} {d : List (List UInt8)} {b : List UInt8} (h : SoFar 10 s f i d) (hi : s.size ≤ i) (hb : L s = b ++ [10]) : segs 10 b = d := by
  have h1 := h.end_ hi
  rw [hb, segs_snoc] at h1
  exact List.append_inj_left' h1 rfl
end Go.Proofs.YthifbihmogjjpaaGreatDoor.Pl

/-
  Plain functions: spans, and what comes after a number.
-/
namespace Go.Proofs.YthifbihmogjjpaaGreatDoor.Pl
open Go.Lib

/-- a decimal form is less than another one -/
def lessB (a b : List UInt8) : Bool := if a.length = b.length then Op.bytesLess a b else decide (a.length < b.length)
/-- the decimal form of the next number, from the last digit on -/
def sucR : List UInt8 → List UInt8
  | [] => [49]
  | c :: r => if c = 57 then 48 :: sucR r else UInt8.ofNat (c.toNat + 1) :: r
def suc (l : List UInt8) : List UInt8 := (sucR l.reverse).reverse
theorem sucR_len : ∀ l, (sucR l).length ≤ l.length + 1
  | [] => by simp [sucR]
  | c :: r => by
    have := sucR_len r
    rw [sucR]; split <;> simp; omega
theorem suc_len (l : List UInt8) : (suc l).length ≤ l.length + 1 := by
  have := sucR_len l.reverse
  unfold suc; simp at this ⊢; exact this
theorem sucR_zeros (r : List UInt8) : ∀ m, sucR (List.replicate m 57 ++ r) = List.replicate m 48 ++ sucR r
  | 0 => rfl
  | m + 1 => by
    rw [List.replicate_succ, List.cons_append, sucR, if_pos rfl, sucR_zeros r m]; rfl
/-- the rest from place k + 1 on are nines -/
theorem suc_at {l : List UInt8} {k : Nat} (hk : k < l.length) (hn : ∀ (j : Nat) (h : j < l.length), k < j → l[j] = 57) (hc : ¬ l[k] = 57) :
    suc l = l.take k ++ UInt8.ofNat (l[k].toNat + 1) :: List.replicate (l.length - 1 - k) 48 := by
  have e : l.drop (k + 1) = List.replicate (l.length - 1 - k) 57 := by
    apply List.ext_getElem
    · simp; omega
    · intro i h1 h2
      rw [List.getElem_drop, List.getElem_replicate]
      exact hn _ _ (by omega)
  have e2 : l = l.take k ++ l[k] :: l.drop (k + 1) := by
    rw [← List.drop_eq_getElem_cons hk, List.take_append_drop]
  unfold suc
  conv => lhs; rw [e2]
  rw [e, List.reverse_append, List.reverse_cons, List.reverse_replicate, List.append_assoc]
  rw [sucR_zeros, List.singleton_append, sucR, if_neg hc]
  simp
theorem suc_all {l : List UInt8} (hn : ∀ (j : Nat) (h : j < l.length), l[j] = 57) : suc l = 49 :: List.replicate l.length 48 := by
  have e : l = List.replicate l.length 57 := by
    apply List.ext_getElem
    · simp
    · intro i h1 h2
      rw [List.getElem_replicate]; exact hn _ _
  unfold suc
  conv => lhs; rw [e]
  rw [List.reverse_replicate]
  have := sucR_zeros [] l.length
  rw [List.append_nil] at this
  rw [this, sucR]
  simp
/-- a span: its first and its last number, as they are written -/
def rs (l : List UInt8) : Option (List UInt8 × List UInt8) :=
  if nat (cut l [45]).1 = false then none
  else if (cut l [45]).2.2 = false then some ((cut l [45]).1, (cut l [45]).1)
  else if nat (cut l [45]).2.1 = false then none
  else if lessB (cut l [45]).1 (cut l [45]).2.1 = false then none
  else some ((cut l [45]).1, (cut l [45]).2.1)
theorem rs_1 {l f r : List UInt8} {b : Bool} (h : cut l [45] = (f, r, b)) (h1 : nat f = false) : rs l = none := by unfold rs; rw [h, if_pos h1]
theorem rs_2 {l f r : List UInt8} {b : Bool} (h : cut l [45] = (f, r, b)) (h1 : nat f = true) (h2 : b = false) : rs l = some (f, f) := by
  unfold rs; rw [h, if_neg (by rw [h1]; simp), if_pos h2]
theorem rs_3 {l f r : List UInt8} {b : Bool} (h : cut l [45] = (f, r, b)) (h1 : nat f = true) (h2 : b = true) (h3 : nat r = false) : rs l = none := by
  unfold rs; rw [h, if_neg (by rw [h1]; simp), if_neg (by rw [h2]; simp), if_pos h3]
theorem rs_4 {l f r : List UInt8} {b : Bool} (h : cut l [45] = (f, r, b)) (h1 : nat f = true) (h2 : b = true) (h3 : nat r = true) (h4 : lessB f r = false) : rs l = none := by
  unfold rs; rw [h, if_neg (by rw [h1]; simp), if_neg (by rw [h2]; simp), if_neg (by rw [h3]; simp), if_pos h4]
theorem rs_5 {l f r : List UInt8} {b : Bool} (h : cut l [45] = (f, r, b)) (h1 : nat f = true) (h2 : b = true) (h3 : nat r = true) (h4 : lessB f r = true) : rs l = some (f, r) := by
  unfold rs; rw [h, if_neg (by rw [h1]; simp), if_neg (by rw [h2]; simp), if_neg (by rw [h3]; simp), if_neg (by rw [h4]; simp)]
/-- the spans of parts; the last number so far, if there is one -/
def spansFrom : Option (List UInt8) → List (List UInt8) → Option (List (List UInt8 × List UInt8))
  | _, [] => some []
  | p, t :: ts => match rs t with
    | none => none
    | some x => if (match p with | none => true | some y => lessB (suc y) x.1) then (spansFrom (some x.2) ts).map (x :: ·) else none
def spans (l : List UInt8) : Option (List (List UInt8 × List UInt8)) := spansFrom none (segs 44 l)
theorem cut_len (l sep : List UInt8) : (cut l sep).1.length ≤ l.length ∧ (cut l sep).2.1.length ≤ l.length := by
  unfold cut
  split
  · simp; omega
  · simp
theorem rs_len {l : List UInt8} {x : List UInt8 × List UInt8} (h : rs l = some x) : x.1.length ≤ l.length ∧ x.2.length ≤ l.length ∧ nat x.1 = true ∧ nat x.2 = true := by
  have hc := cut_len l [45]
  unfold rs at h
  split at h
  · cases h
  split at h
  · cases h
    rename_i h1 _
    exact ⟨hc.1, hc.1, by simpa using h1, by simpa using h1⟩
  split at h
  · cases h
  split at h
  · cases h
  · cases h
    rename_i h1 _ h3 _
    exact ⟨hc.1, hc.2, by simpa using h1, by simpa using h3⟩
end Go.Proofs.YthifbihmogjjpaaGreatDoor.Pl

/-
  Plain functions: the numbers of spans, and ParseList.
-/
namespace Go.Proofs.YthifbihmogjjpaaGreatDoor.Pl
open Go.Lib

def iv (l : List UInt8) : Int := (intE l 0 1000000000).2
theorem iv_b (l : List UInt8) : 0 ≤ iv l ∧ iv l ≤ 1000000000 := by
  unfold iv intE
  split
  · split
    · rename_i h; exact h
    · exact ⟨by decide, by decide⟩
  · exact ⟨by decide, by decide⟩
/-- so many numbers from f on -/
def from_ (f : Int) (m : Nat) : List Int := (List.range m).map fun i => f + (i : Nat)
theorem from_succ (f : Int) (m : Nat) : from_ f (m + 1) = from_ f m ++ [f + (m : Nat)] := by unfold from_; rw [List.range_succ, List.map_append]; rfl
theorem from_len (f : Int) (m : Nat) : (from_ f m).length = m := by unfold from_; simp
/-- how many numbers a span has -/
def cnt (x : List UInt8 × List UInt8) : Nat := (iv x.2 - iv x.1 + 1).toNat
def numsF : List Int → List (List UInt8 × List UInt8) → Int × List Int
  | acc, [] => (0, acc)
  | acc, x :: r => if (500 : Int) - acc.length ≤ iv x.2 - iv x.1 then (3, []) else numsF (acc ++ from_ (iv x.1) (cnt x)) r
theorem numsF_few : ∀ (r : List (List UInt8 × List UInt8)) (acc : List Int), acc.length ≤ 500 → (numsF acc r).2.length ≤ 500
  | [], acc, h => h
  | x :: r, acc, h => by
    rw [numsF]
    split
    · exact Nat.zero_le _
    · rename_i hc
      refine numsF_few r _ ?_
      rw [List.length_append, from_len]
      unfold cnt
      omega
/-- ParseList: the error, and the numbers -/
def plist (l : List UInt8) : Int × List Int :=
  if l = [45] then (0, []) else match spans l with
    | none => (6, [])
    | some xs => match xs.getLast? with
      | none => (6, [])
      | some x => if (intE x.2 0 1000000000).1 = 0 then numsF [] xs else ((intE x.2 0 1000000000).1, [])
theorem spansFrom_ne : ∀ (p : Option (List UInt8)) (ts : List (List UInt8)) (xs : List (List UInt8 × List UInt8)), spansFrom p ts = some xs → xs.length = ts.length
  | p, [], xs, h => by rw [spansFrom] at h; cases h; rfl
  | p, t :: ts, xs, h => by
    rw [spansFrom] at h
    cases hrs : rs t with
    | none => rw [hrs] at h; cases h
    | some x =>
      rw [hrs] at h
      simp only at h
      have key : ∀ b : Bool, (if b = true then (spansFrom (some x.2) ts).map (x :: ·) else none) = some xs → xs.length = (t :: ts).length := fun b h => by
        cases b with
        | false => cases h
        | true =>
          rw [if_pos rfl] at h
          cases hr : spansFrom (some x.2) ts with
          | none => rw [hr] at h; cases h
          | some ys =>
            rw [hr] at h
            simp only [Option.map_some, Option.some.injEq] at h
            subst h
            simp [spansFrom_ne _ ts ys hr]
      exact key _ h
theorem spans_ne {l : List UInt8} {xs : List (List UInt8 × List UInt8)} (h : spans l = some xs) : xs ≠ [] := by
  have := spansFrom_ne _ _ _ h
  intro e
  subst e
  have h2 := segs_ne 44 l
  exact h2 (List.eq_nil_of_length_eq_zero this.symm)
theorem plist_few (l : List UInt8) : (plist l).2.length ≤ 500 := by
  unfold plist
  split
  · exact Nat.zero_le _
  split
  · exact Nat.zero_le _
  split
  · exact Nat.zero_le _
  split
  · exact numsF_few _ _ (Nat.zero_le _)
  · exact Nat.zero_le _
end Go.Proofs.YthifbihmogjjpaaGreatDoor.Pl

/-
  Plain functions: the value of a decimal form, and how the reference reads and writes lists.
-/
namespace Go.Proofs.YthifbihmogjjpaaGreatDoor.Pl
open Go.Lib

theorem dval_acc : ∀ (l : List UInt8) (acc : Nat), dval acc l = acc * 10 ^ l.length + dval 0 l
  | [], acc => by simp [dval_nil]
  | c :: r, acc => by
    rw [dval_cons, dval_acc r, dval_cons, dval_acc r (dstep 0 c)]
    unfold dstep
    rw [List.length_cons, Nat.pow_succ]
    rw [Nat.add_mul, Nat.zero_mul, Nat.zero_add, Nat.mul_assoc, Nat.mul_comm 10, Nat.add_assoc]
theorem dig_b {c : UInt8} (h : dig c = true) : 48 ≤ c.toNat ∧ c.toNat ≤ 57 := by
  unfold dig at h
  simp at h
  omega
theorem dval_c (c : UInt8) (r : List UInt8) : dval 0 (c :: r) = (c.toNat - 48) * 10 ^ r.length + dval 0 r := by
  rw [dval_cons, dval_acc]; unfold dstep; simp
theorem dval_lt : ∀ (l : List UInt8), l.all dig = true → dval 0 l < 10 ^ l.length
  | [], _ => by decide
  | c :: r, h => by
    simp only [List.all_cons, Bool.and_eq_true] at h
    have h1 := dig_b h.1
    have h2 := dval_lt r h.2
    rw [dval_c, List.length_cons, Nat.pow_succ]
    have h3 : (c.toNat - 48) * 10 ^ r.length ≤ 9 * 10 ^ r.length := Nat.mul_le_mul_right _ (by omega)
    omega
theorem bless_val : ∀ (a b : List UInt8), a.length = b.length → a.all dig = true → b.all dig = true → Op.bytesLess a b = decide (dval 0 a < dval 0 b)
  | [], [], _, _, _ => by simp [Op.bytesLess, dval_nil]
  | [], _ :: _, h, _, _ => by simp at h
  | _ :: _, [], h, _, _ => by simp at h
  | x :: a, y :: b, h, ha, hb => by
    simp only [List.all_cons, Bool.and_eq_true] at ha hb
    have hl : a.length = b.length := by simpa using h
    have h1 := dig_b ha.1
    have h2 := dig_b hb.1
    have h3 := dval_lt a ha.2
    have h4 := dval_lt b hb.2
    have ih := bless_val a b hl ha.2 hb.2
    rw [Op.bytesLess, dval_c, dval_c, ih, hl]
    rw [hl] at h3
    generalize 10 ^ b.length = P at h3 h4
    by_cases hxy : x = y
    · subst hxy
      have : ¬ x < x := by rw [UInt8.lt_iff_toNat_lt]; omega
      simp [this]
    · have hne : x.toNat ≠ y.toNat := fun e => hxy (UInt8.toNat_inj.1 e)
      have hb2 : (x == y) = false := by simpa using hxy
      rw [hb2, Bool.false_and, Bool.or_false, decide_eq_decide, UInt8.lt_iff_toNat_lt]
      rcases Nat.lt_or_ge x.toNat y.toNat with g | g
      · have k : (x.toNat - 48 + 1) * P ≤ (y.toNat - 48) * P := Nat.mul_le_mul_right _ (by omega)
        rw [Nat.add_mul, Nat.one_mul] at k
        exact ⟨fun _ => by omega, fun _ => g⟩
      · have k : (y.toNat - 48 + 1) * P ≤ (x.toNat - 48) * P := Nat.mul_le_mul_right _ (by omega)
        rw [Nat.add_mul, Nat.one_mul] at k
        exact ⟨fun h' => by omega, fun h' => by omega⟩
theorem nat_lead {c : UInt8} {r : List UInt8} (h : nat (c :: r) = true) (hr : r ≠ []) : 10 ^ r.length ≤ dval 0 (c :: r) := by
  have hr' := List.length_pos_iff.2 hr
  obtain ⟨c', r', he, hall⟩ := nat_parts h
  injection he with e1 e2
  subst e1 e2
  simp only [List.all_cons, Bool.and_eq_true] at hall
  have hd := dig_b hall.1
  have hc : c ≠ 48 := by
    intro e
    subst e
    have hlen : decide (1 < ((48 : UInt8) :: r).length) = true := by rw [decide_eq_true_eq, List.length_cons]; omega
    unfold nat at h
    rw [hlen] at h
    simp at h
  have hc2 : c.toNat ≠ 48 := fun e => hc (UInt8.toNat_inj.1 e)
  rw [dval_c]
  have k : 1 * 10 ^ r.length ≤ (c.toNat - 48) * 10 ^ r.length := Nat.mul_le_mul_right _ (by omega)
  omega
theorem less_short {a b : List UInt8} (ha : nat a = true) (hb : nat b = true) (h : a.length < b.length) : dval 0 a < dval 0 b := by
  obtain ⟨c, r, rfl, hd⟩ := nat_parts ha
  obtain ⟨d, q, rfl, hd2⟩ := nat_parts hb
  have h1 := dval_lt _ hd
  simp only [List.length_cons] at h h1
  have hq : q ≠ [] := by intro e; subst e; simp at h
  have h2 := nat_lead hb hq
  have h3 : 10 ^ (r.length + 1) ≤ 10 ^ q.length := Nat.pow_le_pow_right (by decide) (by omega)
  omega
/-- of decimal forms that are not negative: one is less exactly if its integer is -/
theorem less_val {a b : List UInt8} (ha : nat a = true) (hb : nat b = true) : lessB a b = decide (dval 0 a < dval 0 b) := by
  unfold lessB
  by_cases h : a.length = b.length
  · rw [if_pos h]
    obtain ⟨c, r, rfl, hd⟩ := nat_parts ha
    obtain ⟨d, q, rfl, hd2⟩ := nat_parts hb
    exact bless_val _ _ h hd hd2
  · rw [if_neg h, decide_eq_decide]
    rcases Nat.lt_or_ge a.length b.length with g | g
    · exact ⟨fun _ => less_short ha hb g, fun _ => g⟩
    · have := less_short hb ha (by omega)
      exact ⟨fun h' => by omega, fun h' => by omega⟩
theorem nat_dec {l : List UInt8} (h : nat l = true) : dec l = true ∧ l.head? ≠ some 45 := by
  obtain ⟨c, r, rfl, hd⟩ := nat_parts h
  simp only [List.all_cons, Bool.and_eq_true] at hd
  have hc := dig_b hd.1
  have h45 : ¬ (c :: r).head? = some 45 := by
    intro e
    simp only [List.head?_cons, Option.some.injEq] at e
    subst e
    have : (45 : UInt8).toNat = 45 := rfl
    omega
  refine ⟨?_, h45⟩
  unfold dec
  rw [if_neg h45]; exact h
/-- the integer of a decimal form that is not negative, if it is at most 10^9 -/
theorem intE_nat {l : List UInt8} (h : nat l = true) : intE l 0 1000000000 = if dval 0 l ≤ 1000000000 then (0, (dval 0 l : Int)) else (7, 0) := by
  obtain ⟨h1, h2⟩ := nat_dec h
  unfold intE ival
  rw [if_pos h1, if_neg h2]
  by_cases hv : dval 0 l ≤ 1000000000
  · rw [if_pos ⟨by omega, by omega⟩, if_pos hv]
  · rw [if_neg (by omega), if_neg hv]
def top : List UInt8 := [49, 48, 48, 48, 48, 48, 48, 48, 48, 48]
theorem top_nat : nat top = true := by decide
theorem top_val : dval 0 top = 1000000000 := by decide
theorem less_top {l : List UInt8} (h : nat l = true) : lessB top l = decide (1000000000 < dval 0 l) := by
  rw [less_val top_nat h, top_val]
end Go.Proofs.YthifbihmogjjpaaGreatDoor.Pl

/-
  Plain functions: how the reference reads a span, and joins parts.
-/
namespace Go.Proofs.YthifbihmogjjpaaGreatDoor.Pl
open Go.Lib

theorem segs_no (c : UInt8) : ∀ (l : List UInt8), ∀ t ∈ segs c l, ∀ x ∈ t, x ≠ c
  | [], t, ht, x, hx => by simp [segs] at ht; subst ht; simp at hx
  | y :: r, t, ht, x, hx => by
    have ih := segs_no c r
    rw [segs] at ht
    split at ht
    · rcases List.mem_cons.1 ht with rfl | h
      · simp at hx
      · exact ih t h x hx
    · rename_i hy
      split at ht
      · simp at ht; subst ht; simp at hx; subst hx; exact hy
      · rename_i h' t' e
        rw [e] at ih
        rcases List.mem_cons.1 ht with rfl | h
        · rcases List.mem_cons.1 hx with rfl | hx
          · exact hy
          · exact ih h' (by simp) x hx
        · exact ih t (by simp [h]) x hx
theorem dec_no {l : List UInt8} (h : ∀ x ∈ l, x ≠ 45) : dec l = nat l := by
  unfold dec
  rw [if_neg]
  intro e
  cases l with
  | nil => cases e
  | cons c r =>
    simp only [List.head?_cons, Option.some.injEq] at e
    exact h c (by simp) e
theorem nat_no {l : List UInt8} (h : nat l = true) : ∀ x ∈ l, x ≠ 45 := by
  obtain ⟨c, r, rfl, hd⟩ := nat_parts h
  intro x hx e
  subst e
  have := dig_b (List.all_eq_true.1 hd 45 hx)
  have e : (45 : UInt8).toNat = 45 := rfl
  omega
theorem idx_cases (l : List UInt8) (c : UInt8) : ((∀ x ∈ l, x ≠ c) ∧ index l [c] = -1) ∨ ∃ i : Nat, i < l.length ∧ index l [c] = i ∧ l[i]? = some c ∧ ∀ x ∈ l.take i, x ≠ c := by
  rw [index_one]
  have hge := indexByte_ge l c
  by_cases h : indexByte l c = -1
  · refine .inl ⟨fun x hx e => ?_, h⟩
    subst e
    obtain ⟨j, hj, he⟩ := List.getElem_of_mem hx
    exact indexByte_none h j (by rw [List.getElem?_eq_getElem hj, he])
  · obtain ⟨i, hi⟩ : ∃ i : Nat, indexByte l c = i := ⟨(indexByte l c).toNat, by omega⟩
    obtain ⟨g1, g2⟩ := indexByte_some hi
    have hil : i < l.length := (List.getElem?_eq_some_iff.1 g1).1
    refine .inr ⟨i, hil, hi, g1, fun x hx e => ?_⟩
    subst e
    obtain ⟨j, hj, he⟩ := List.getElem_of_mem hx
    rw [List.length_take] at hj
    rw [List.getElem_take] at he
    exact g2 j (by omega) (by rw [List.getElem?_eq_getElem (by omega), he])
theorem cut_miss {l : List UInt8} {c : UInt8} (h : index l [c] = -1) : cut l [c] = (l, [], false) := by
  unfold cut; rw [if_neg (by omega)]
theorem cut_hit {l : List UInt8} {c : UInt8} {i : Nat} (h : index l [c] = i) : cut l [c] = (l.take i, l.drop (i + 1), true) := by
  unfold cut; rw [if_pos (by omega), h]; rfl
/-- a span, out of the parts between the hyphens -/
def rsR (es : List (List UInt8)) : Option (List UInt8 × List UInt8) := match es with
  | [f] => if nat f = true then some (f, f) else none
  | [f, g] => if nat f = true ∧ nat g = true ∧ lessB f g = true then some (f, g) else none
  | _ => none
theorem rs_segs (p : List UInt8) : rs p = rsR (segs 45 p) := by
  rcases idx_cases p 45 with ⟨h1, h2⟩ | ⟨i, hil, hi, g1, g2⟩
  · rw [segs_miss 45 p h1]
    have hc := cut_miss h2
    show _ = if nat p = true then some (p, p) else none
    cases hn : nat p with
    | false => rw [rs_1 hc hn, if_neg (by simp)]
    | true => rw [rs_2 hc hn rfl, if_pos rfl]
  · have hc := cut_hit hi
    rw [segs_hit 45 p i g2 g1]
    rcases idx_cases (p.drop (i + 1)) 45 with ⟨h1, h2⟩ | ⟨j, hjl, hj, k1, k2⟩
    · rw [segs_miss 45 _ h1]
      show _ = if nat (p.take i) = true ∧ nat (p.drop (i + 1)) = true ∧ lessB (p.take i) (p.drop (i + 1)) = true then some (p.take i, p.drop (i + 1)) else none
      cases hn : nat (p.take i) with
      | false => rw [rs_1 hc hn, if_neg (fun h => by cases h.1)]
      | true =>
        cases hm : nat (p.drop (i + 1)) with
        | false => rw [rs_3 hc hn rfl hm, if_neg (fun h => by cases h.2.1)]
        | true =>
          cases hl : lessB (p.take i) (p.drop (i + 1)) with
          | false => rw [rs_4 hc hn rfl hm hl, if_neg (fun h => by cases h.2.2)]
          | true => rw [rs_5 hc hn rfl hm hl, if_pos ⟨rfl, rfl, rfl⟩]
    · have hm : nat (p.drop (i + 1)) = false := by
        rw [Bool.eq_false_iff]; intro e
        exact nat_no e 45 (List.mem_of_getElem? k1) rfl
      rw [segs_hit 45 _ j k2 k1]
      have hr : rsR (p.take i :: (p.drop (i + 1)).take j :: segs 45 ((p.drop (i + 1)).drop (j + 1))) = none := by
        cases hs : segs 45 ((p.drop (i + 1)).drop (j + 1)) with
        | nil => exact absurd hs (segs_ne 45 _)
        | cons a b => rfl
      rw [hr]
      cases hn : nat (p.take i) with
      | false => exact rs_1 hc hn
      | true => exact rs_3 hc hn rfl hm
theorem joinTail_snoc (sep : List UInt8) (r : List (List UInt8)) (t : List UInt8) : joinTail sep (r ++ [t]) = joinTail sep r ++ sep ++ t := by
  unfold joinTail; simp
theorem join_snoc (x : List UInt8) (r : List (List UInt8)) (sep t : List UInt8) : Lib.join ((x :: r) ++ [t]) sep = Lib.join (x :: r) sep ++ sep ++ t := by
  rw [List.cons_append, join_cons, join_cons, joinTail_snoc]; simp
theorem join_one' (t sep : List UInt8) : Lib.join [t] sep = t := by rw [join_cons]; simp [joinTail]
end Go.Proofs.YthifbihmogjjpaaGreatDoor.Pl
