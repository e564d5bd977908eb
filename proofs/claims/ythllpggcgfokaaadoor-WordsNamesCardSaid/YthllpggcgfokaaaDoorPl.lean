/-
  Plain functions: the reference's numbers, one byte after the other.
-/
import Derived.Test.YthllpggcgfokaaaDoorPk
namespace Go.Proofs.YthllpggcgfokaaaDoor.Pl
open Go.Lib

def rstep (acc : Nat) (c : UInt8) : Nat := if c.toNat = 45 then acc else dstep acc c
def rval (l : List UInt8) : Nat := l.foldl rstep 0
theorem rval_snoc (s : ByteArray) (k : Nat) (h : k < s.size) : rval ((L s).take (k + 1)) = rstep (rval ((L s).take k)) s[k] := by
  have e : (L s).take (k + 1) = (L s).take k ++ [s[k]] := List.take_succ_eq_append_getElem h
  unfold rval
  rw [e, List.foldl_append]; rfl
theorem rfold_ge (l : List UInt8) : ∀ (acc : Nat), acc ≤ l.foldl rstep acc := by
  induction l with
  | nil => intro acc; exact Nat.le_refl _
  | cons c r ih =>
    intro acc
    rw [List.foldl_cons]
    refine Nat.le_trans ?_ (ih _)
    unfold rstep dstep
    split <;> omega
theorem rval_take_le (s : ByteArray) (k : Nat) : rval ((L s).take k) ≤ rval (L s) := by
  have e : (L s) = (L s).take k ++ (L s).drop k := (List.take_append_drop k _).symm
  conv => rhs; rw [e]
  unfold rval
  rw [List.foldl_append]
  exact rfold_ge _ _
theorem rfold_dig (l : List UInt8) (h : l.all dig = true) : ∀ (acc : Nat), l.foldl rstep acc = dval acc l := by
  induction l with
  | nil => intro acc; rfl
  | cons c r ih =>
    intro acc
    rw [List.all_cons, Bool.and_eq_true] at h
    rw [List.foldl_cons, dval_cons, ← ih h.2]
    have : rstep acc c = dstep acc c := by
      unfold rstep
      rw [if_neg]
      intro h45
      have := h.1
      simp [dig] at this
      omega
    rw [this]
theorem nat_all (l : List UInt8) (h : nat l = true) : l.all dig = true := by
  unfold nat at h
  simp only [Bool.and_eq_true] at h
  exact h.2
theorem dec_all (l : List UInt8) (h : dec l = true) : (l.head? = some 45 ∧ (l.drop 1).all dig = true) ∨ (¬ l.head? = some 45 ∧ l.all dig = true) := by
  unfold dec at h
  split at h
  · rename_i hm
    refine .inl ⟨hm, ?_⟩
    rw [Bool.and_eq_true] at h
    exact nat_all _ h.2
  · rename_i hm
    refine .inr ⟨hm, ?_⟩
    exact nat_all _ h
theorem ival_rval (l : List UInt8) (h : dec l = true) : ival l = if l.head? = some 45 then -(rval l : Int) else (rval l : Int) := by
  rcases dec_all l h with ⟨h1, h2⟩ | ⟨h1, h2⟩
  · unfold ival
    rw [if_pos h1, if_pos h1]
    cases l with
    | nil => cases h1
    | cons c r =>
      simp at h1
      subst h1
      have : rval (45 :: r) = dval 0 r := by
        unfold rval
        rw [List.foldl_cons]
        exact rfold_dig r h2 0
      rw [this]; rfl
  · unfold ival
    rw [if_neg h1, if_neg h1]
    unfold rval
    rw [rfold_dig l h2]
theorem dec_byte (s : ByteArray) (h : dec (L s) = true) (k : Nat) (hk : k < s.size) (hn : ¬ (s[k].toNat : Int) = 45) : 48 ≤ s[k].toNat ∧ s[k].toNat ≤ 57 := by
  have hd : dig s[k] = true := by
    rcases dec_all _ h with ⟨h1, h2⟩ | ⟨h1, h2⟩
    · cases k with
      | zero =>
        rw [head_eq s hk] at h1
        simp at h1
        rw [h1] at hn
        exact absurd rfl hn
      | succ j =>
        have hl : j < ((L s).drop 1).length := by rw [List.length_drop, L_length]; omega
        have e : ((L s).drop 1)[j] = s[1 + j]'(by omega) := by rw [List.getElem_drop]; rfl
        have := (List.all_eq_true.1 h2) _ (List.getElem_mem hl)
        rw [e] at this
        simpa [Nat.add_comm] using this
    · exact (List.all_eq_true.1 h2) _ (List.getElem_mem (show k < (L s).length from hk))
  simp [dig] at hd
  omega
theorem dec_pos (s : ByteArray) (h : dec (L s) = true) : 0 < s.size := by
  by_cases h0 : 0 < s.size
  · exact h0
  · have : dec (L s) = false := by rw [dec_plain s (.inl (by omega)), nat_nil s (by omega)]
    rw [this] at h; cases h
theorem rstep_dig (acc : Nat) (c : UInt8) (hn : ¬ (c.toNat : Int) = 45) : rstep acc c = dstep acc c := by
  unfold rstep; rw [if_neg (by omega)]
theorem rstep_minus (acc : Nat) (c : UInt8) (hn : (c.toNat : Int) = 45) : rstep acc c = acc := by
  unfold rstep; rw [if_pos (by omega)]
/-- what is too great stays so -/
theorem rval_range (s : ByteArray) (h : dec (L s) = true) (v : Nat) (hv : v ≤ rval (L s)) (hb : 9223372036854775808 < v) (lo hi : Int) (h0 : -9223372036854775808 ≤ lo) (h1 : hi ≤ 9223372036854775807) : intE (L s) lo hi = (7, 0) := by
  unfold intE
  rw [if_pos h, if_neg]
  rw [ival_rval _ h]
  split <;> omega
end Go.Proofs.YthllpggcgfokaaaDoor.Pl
