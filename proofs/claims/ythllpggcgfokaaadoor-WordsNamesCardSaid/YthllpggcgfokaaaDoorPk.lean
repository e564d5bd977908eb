/-
  Plain functions: the reference's names and numbers.
-/
import Derived.Test.YthllpggcgfokaaaDoorPh
namespace Go.Proofs.YthllpggcgfokaaaDoor.Pl
open Go.Lib

theorem low_nameC (c : UInt8) (h : low c = true) : nameC c = true := by unfold nameC; rw [h]; rfl
/-- where the minus sign stands for the reference -/
def cutM (s : ByteArray) : Prop := 1 < s.size ∧ ∃ (h0 : 0 < s.size) (h1 : 1 < s.size), s[0] = 45 ∧ ¬ s[1] = 48
theorem nat_one (s : ByteArray) (h : 1 < s.size) (h1 : ¬ s[1] = 48) : nat ((L s).drop 1) = ((L s).drop 1).all dig := by
  have e : (L s).drop 1 = s[1] :: (L s).drop 2 := drop_cons s 1 h
  unfold nat
  rw [e]
  have e2 : (some s[1] == some (48 : UInt8)) = false := by simpa using h1
  simp [e2]
theorem dec_cut (s : ByteArray) (h : 1 < s.size) (h0 : s[0] = 45) (h1 : ¬ s[1] = 48) : dec (L s) = ((L s).drop 1).all dig := by
  have hd : (L s).head? = some 45 := by rw [head_eq s (by omega), h0]
  have hne : (L s != [45, 48]) = true := by
    rw [bne_iff_ne]; intro e
    have e1 := L_get? s 1 h
    rw [e] at e1
    simp at e1
    exact h1 e1.symm
  unfold dec
  rw [if_pos hd, hne, nat_one s h h1]; rfl
/-- not cut, but with a minus sign ahead: no decimal form -/
theorem dec_sign (s : ByteArray) (h : 0 < s.size) (h0 : s[0] = 45) (h1 : s.size ≤ 1 ∨ ∃ h : 1 < s.size, s[1] = 48) : dec (L s) = false := by
  have hd : (L s).head? = some 45 := by rw [head_eq s h, h0]
  unfold dec
  rw [if_pos hd]
  rcases h1 with h1 | ⟨h1, h2⟩
  · have : (L s).drop 1 = [] := drop_end s 1 h1
    rw [this]; simp [nat]
  · by_cases h3 : s.size = 2
    · have : L s = [45, 48] := by
        rw [L_two s h1, h0, h2, drop_end s 2 (by omega)]
      rw [this]; rfl
    · have e : (L s).drop 1 = 48 :: (L s).drop 2 := by rw [drop_cons s 1 h1, h2]
      have e2 : (L s).drop 2 = s[2]'(by omega) :: (L s).drop 3 := drop_cons s 2 (by omega)
      have : nat ((L s).drop 1) = false := by rw [e, e2]; unfold nat; simp
      rw [this]; simp
theorem all_drop_succ (p : UInt8 → Bool) (s : ByteArray) (o k : Nat) (h : o + k < s.size) (ha : (((L s).drop o).take k).all p = true) (hk : p s[o + k] = true) : (((L s).drop o).take (k + 1)).all p = true := by
  have hl : k < ((L s).drop o).length := by rw [List.length_drop, L_length]; omega
  have e : ((L s).drop o)[k] = s[o + k] := by rw [List.getElem_drop]; rfl
  rw [List.take_succ_eq_append_getElem hl, List.all_append, ha, e]; simp [hk]
theorem all_drop_not (p : UInt8 → Bool) (s : ByteArray) (o k : Nat) (h : o + k < s.size) (hk : p s[o + k] = false) : ((L s).drop o).all p = false := by
  have hl : k < ((L s).drop o).length := by rw [List.length_drop, L_length]; omega
  have e : ((L s).drop o)[k] = s[o + k] := by rw [List.getElem_drop]; rfl
  rw [Bool.eq_false_iff]
  intro ha
  have := (List.all_eq_true.1 ha) _ (List.getElem_mem hl)
  rw [e, hk] at this; cases this
theorem all_drop_whole (p : UInt8 → Bool) (s : ByteArray) (o k : Nat) (h : s.size ≤ o + k) (ha : (((L s).drop o).take k).all p = true) : ((L s).drop o).all p = true := by
  rwa [List.take_of_length_le (by rw [List.length_drop, L_length]; omega)] at ha
theorem extract_at (s : ByteArray) (o k : Nat) (h : k < (s.extract o s.size).size) (h2 : o + k < s.size) : (s.extract o s.size)[k] = s[o + k] := by
  have e := L_extract s o
  have h3 : k < (L (s.extract o s.size)).length := by rw [L_length]; exact h
  have : (L (s.extract o s.size))[k] = ((L s).drop o)[k]'(e ▸ h3) := by simp only [e]
  rw [List.getElem_drop] at this
  exact this
end Go.Proofs.YthllpggcgfokaaaDoor.Pl
