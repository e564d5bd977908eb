/-
  Plain functions on bytes and lists of bytes that the contracts of this seat speak of. They import nothing of the program.
-/
import Derived.Lib.Hide
import Derived.Lib.Strings
namespace Go.Proofs.YthifbihmogjjpaaDoor.Pl
open Go.Lib
def low (c : UInt8) : Bool := decide (97 ≤ (c.toNat : Int)) && decide ((c.toNat : Int) ≤ 122)
def dig (c : UInt8) : Bool := decide (48 ≤ (c.toNat : Int)) && decide ((c.toNat : Int) ≤ 57)
def plain (c : UInt8) : Bool := decide (32 ≤ (c.toNat : Int)) && decide ((c.toNat : Int) ≤ 126) && ((c.toNat : Int) != 34) && ((c.toNat : Int) != 92)
def bareC (c : UInt8) : Bool := plain c && ((c.toNat : Int) != 32)
def nameC (c : UInt8) : Bool := low c || dig c || ((c.toNat : Int) == 45)

/-- the bytes of a string -/
def L (s : ByteArray) : List UInt8 := s.data.toList

theorem L_length (s : ByteArray) : (L s).length = s.size := (size_eq s).symm
theorem L_get (s : ByteArray) (k : Nat) (h : k < s.size) : (L s)[k]'(by rw [L_length]; exact h) = s[k] := rfl
theorem L_get? (s : ByteArray) (k : Nat) (h : k < s.size) : (L s)[k]? = some s[k] := by
  rw [List.getElem?_eq_getElem (by rw [L_length]; exact h), L_get s k h]
theorem L_cons (s : ByteArray) (h : 0 < s.size) : L s = s[0] :: (L s).drop 1 := by
  have h' : 0 < (L s).length := by rw [L_length]; exact h
  have e := List.drop_eq_getElem_cons h'
  rw [List.drop_zero] at e
  exact e
theorem take_succ (s : ByteArray) (k : Nat) (h : k < s.size) : (L s).take (k + 1) = (L s).take k ++ [s[k]] := by
  have h' : k < (L s).length := by rw [L_length]; exact h
  rw [List.take_succ_eq_append_getElem h']; rfl
theorem all_succ (p : UInt8 → Bool) (s : ByteArray) (k : Nat) (h : k < s.size) (ha : ((L s).take k).all p = true) (hk : p s[k] = true) : ((L s).take (k + 1)).all p = true := by
  rw [take_succ s k h, List.all_append, ha]; simp [hk]
theorem all_whole (p : UInt8 → Bool) (s : ByteArray) (k : Nat) (h : s.size ≤ k) (ha : ((L s).take k).all p = true) : (L s).all p = true := by
  rwa [List.take_of_length_le (by rw [L_length]; exact h)] at ha
theorem all_not (p : UInt8 → Bool) (s : ByteArray) (k : Nat) (h : k < s.size) (hk : p s[k] = false) : (L s).all p = false := by
  rw [Bool.eq_false_iff]
  intro ha
  have := (List.all_eq_true.1 ha) s[k] (List.mem_of_getElem? (L_get? s k h))
  rw [hk] at this; cases this
theorem empty_facts (s : ByteArray) (h : s.size = 0) : s.toList = [] := by
  rw [toList_data]; exact List.eq_nil_of_length_eq_zero (by rw [← size_eq]; exact h)
theorem full_facts (s : ByteArray) (h : 0 < s.size) : s.toList ≠ [] ∧ s.toList.isEmpty = false := by
  have : s.toList ≠ [] := by
    rw [toList_data]; intro e
    have := size_eq s; rw [e, List.length_nil] at this; omega
  exact ⟨this, by simpa using this⟩
theorem L_nil (s : ByteArray) (h : s.size = 0) : L s = [] := List.eq_nil_of_length_eq_zero (by rw [L_length]; exact h)

/-- the decimal form of a number that is not negative, of any size -/
def nat (l : List UInt8) : Bool := !l.isEmpty && !(l.head? == some 48 && decide (1 < l.length)) && l.all dig

theorem nat_nil (s : ByteArray) (h : s.size = 0) : nat (L s) = false := by rw [L_nil s h]; rfl
theorem byte_eq (c : UInt8) (n : Nat) (hn : n < 256) (h : (c.toNat : Int) = n) : c = UInt8.ofNat n := by
  apply UInt8.toNat_inj.1; rw [UInt8.toNat_ofNat_of_lt' (by simpa using hn)]; omega
theorem head_eq (s : ByteArray) (h : 0 < s.size) : (L s).head? = some s[0] := by rw [L_cons s h]; rfl
theorem nat_zero (s : ByteArray) (h : 1 < s.size) (h0 : (s[0].toNat : Int) = 48) : nat (L s) = false := by
  have e : s[0] = 48 := byte_eq _ 48 (by omega) (by simpa using h0)
  have : (L s).head? = some 48 := by rw [head_eq s (by omega), e]
  simp [nat, this, L_length, h]
theorem nat_of (s : ByteArray) (h : 0 < s.size) (h0 : ¬ ((s[0].toNat : Int) = 48) ∨ s.size ≤ 1) : nat (L s) = (L s).all dig := by
  have e1 : (L s).isEmpty = false := by rw [L_cons s h]; rfl
  have e2 : ((L s).head? == some 48 && decide (1 < (L s).length)) = false := by
    rw [head_eq s h, L_length]
    rcases h0 with h0 | h0
    · have : (s[0] == 48) = false := by
        rw [beq_eq_false_iff_ne]; intro e; apply h0; rw [e]; rfl
      simp [this]
    · simp; intro _; omega
  simp [nat, e1, e2]
theorem L_extract (s : ByteArray) (a : Nat) : L (s.extract a s.size) = (L s).drop a := by
  show (s.extract a s.size).data.toList = _
  rw [extract_data]
  exact List.take_of_length_le (by rw [List.length_drop]; show (L s).length - a ≤ _; rw [L_length]; exact Nat.le_refl _)

/-- the decimal form of an integer, of any size -/
def dec (l : List UInt8) : Bool := if l.head? = some 45 then (l != [45, 48]) && nat (l.drop 1) else nat l
theorem dec_plain (s : ByteArray) (h : s.size = 0 ∨ ∃ h : 0 < s.size, ¬ ((s[0].toNat : Int) = 45)) : dec (L s) = nat (L s) := by
  unfold dec
  rw [if_neg]
  rcases h with h | ⟨h, h1⟩
  · rw [L_nil s h]; simp
  · rw [head_eq s h]; intro e; apply h1; injection e with e; rw [e]; rfl
theorem dec_minus0 (s : ByteArray) (h : s.toList = [45, 48]) : dec (L s) = false := by
  have : L s = [45, 48] := by rw [← h, toList_data]; rfl
  rw [this]; rfl
theorem dec_minus (s : ByteArray) (h : 0 < s.size) (h0 : (s[0].toNat : Int) = 45) (h1 : ¬ s.toList = [45, 48]) : dec (L s) = nat (L (s.extract 1 s.size)) := by
  have e : s[0] = 45 := byte_eq _ 45 (by omega) (by simpa using h0)
  have e2 : (L s != [45, 48]) = true := by
    rw [toList_data] at h1; simpa [L] using h1
  unfold dec
  rw [if_pos (by rw [head_eq s h, e]), e2, L_extract]; rfl

/-- a name -/
def name (l : List UInt8) : Bool := decide (1 ≤ l.length ∧ l.length ≤ 16) && (match l.head? with | some c => low c | none => false) && l.all nameC
theorem name_nil (s : ByteArray) (h : s.size = 0) : name (L s) = false := by rw [L_nil s h]; rfl
theorem name_long (s : ByteArray) (h : 16 < s.size) : name (L s) = false := by
  unfold name; rw [L_length]
  have : decide (1 ≤ s.size ∧ s.size ≤ 16) = false := by simp; omega
  rw [this]; rfl
theorem name_head (s : ByteArray) (h : 0 < s.size) (h0 : low s[0] = false) : name (L s) = false := by
  unfold name; rw [head_eq s h]; simp [h0]
theorem name_of (s : ByteArray) (h : 0 < s.size) (h1 : s.size ≤ 16) (h0 : low s[0] = true) : name (L s) = (L s).all nameC := by
  unfold name; rw [head_eq s h, L_length]
  have : decide (1 ≤ s.size ∧ s.size ≤ 16) = true := by simp; omega
  simp [this, h0]
theorem name_one (s : ByteArray) (h : 0 < s.size) (h0 : low s[0] = true) : ((L s).take 1).all nameC = true := by
  rw [L_cons s h]; simp [nameC, h0]

/-- the letter behind the backslash -/
def letter (c : UInt8) : Option UInt8 := if c = 34 then some 34 else if c = 92 then some 92 else if c = 10 then some 110 else if c = 13 then some 114 else if c = 9 then some 116 else none
/-- the byte of a letter -/
def raw (c : UInt8) : Option UInt8 := if c = 34 then some 34 else if c = 92 then some 92 else if c = 110 then some 10 else if c = 114 then some 13 else if c = 116 then some 9 else none
def num (o : Option UInt8) : Int := match o with | some x => (x.toNat : Int) | none => 0
theorem ne_num (c : UInt8) (n : UInt8) (h : ¬ c = n) : ((n.toNat : Int) == (c.toNat : Int)) = false := by
  rw [beq_eq_false_iff_ne]; intro e; apply h; apply UInt8.toNat_inj.1; omega
end Go.Proofs.YthifbihmogjjpaaDoor.Pl
