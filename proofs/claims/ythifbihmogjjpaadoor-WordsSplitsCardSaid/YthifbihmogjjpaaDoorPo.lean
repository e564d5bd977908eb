/-
  Plain functions: a written byte is the one whose quoted form stands at the head.
-/
import Derived.Test.YthifbihmogjjpaaDoorPn
namespace Go.Proofs.YthifbihmogjjpaaDoor.Pl
open Go.Lib

theorem hv_hexd : ∀ n : Fin 16, hv (hexd n.val) = (n.val : Int) := by decide +kernel
theorem hexd_hv : ∀ a : Fin 256, 0 ≤ hv (UInt8.ofNat a.val) → hexd (hv (UInt8.ofNat a.val)).toNat = UInt8.ofNat a.val := by decide +kernel
theorem hexd_hv' (a : UInt8) (h : 0 ≤ hv a) : hexd (hv a).toNat = a := by
  have := hexd_hv ⟨a.toNat, a.toNat_lt⟩
  simp only [UInt8.ofNat_toNat] at this
  exact this h
theorem letter_raw (c x : UInt8) (h : letter c = some x) : raw x = some c ∧ ¬ x = 120 := by
  unfold letter at h
  split at h
  · cases h; subst_vars; exact ⟨rfl, by decide⟩
  split at h
  · cases h; subst_vars; exact ⟨rfl, by decide⟩
  split at h
  · cases h; subst_vars; exact ⟨rfl, by decide⟩
  split at h
  · cases h; subst_vars; exact ⟨rfl, by decide⟩
  split at h
  · cases h; subst_vars; exact ⟨rfl, by decide⟩
  cases h
theorem raw_letter (x c : UInt8) (h : raw x = some c) : letter c = some x ∧ plain c = false := by
  unfold raw at h
  split at h
  · cases h; subst_vars; exact ⟨rfl, by decide⟩
  split at h
  · cases h; subst_vars; exact ⟨rfl, by decide⟩
  split at h
  · cases h; subst_vars; exact ⟨rfl, by decide⟩
  split at h
  · cases h; subst_vars; exact ⟨rfl, by decide⟩
  split at h
  · cases h; subst_vars; exact ⟨rfl, by decide⟩
  cases h
theorem plain_not92 (c : UInt8) (h : plain c = true) : ¬ c = 92 := by rintro rfl; revert h; decide
theorem hexv_self (c : UInt8) : hexv (hexd (c.toNat / 16)) (hexd (c.toNat % 16)) = c ∧ 0 ≤ hv (hexd (c.toNat / 16)) ∧ 0 ≤ hv (hexd (c.toNat % 16)) := by
  have hb := c.toNat_lt
  have e1 := hv_hexd ⟨c.toNat / 16, by omega⟩
  have e2 := hv_hexd ⟨c.toNat % 16, by omega⟩
  simp only at e1 e2
  refine ⟨?_, by omega, by omega⟩
  apply UInt8.toNat_inj.1
  have := hexv_toNat (hexd (c.toNat / 16)) (hexd (c.toNat % 16)) (by omega) (by omega)
  omega
theorem hex_cons (a b : UInt8) (r : List UInt8) : hex (a :: b :: r) = if hv a < 0 ∨ hv b < 0 then none else if (letter (hexv a b)).isSome || plain (hexv a b) then none else some (hexv a b) := rfl
/-- a quoted form at the head is what is read there -/
theorem rb_of_esc (c : UInt8) (r : List UInt8) : rb (esc c ++ r) = some (c, (esc c).length) := by
  cases hp : plain c with
  | true =>
    rw [esc_plain c hp]
    show rb (c :: r) = _
    rw [rb_cons, if_neg (plain_not92 c hp), if_pos hp]; rfl
  | false =>
    cases hl : letter c with
    | some x =>
      rw [esc_letter c x hp hl]
      show rb (92 :: x :: r) = _
      obtain ⟨h1, h2⟩ := letter_raw c x hl
      rw [rb_cons, if_pos rfl, rb92_cons, if_neg h2, h1]; rfl
    | none =>
      rw [esc_hex c hp hl]
      show rb (92 :: 120 :: hexd (c.toNat / 16) :: hexd (c.toNat % 16) :: r) = _
      obtain ⟨h1, h2, h3⟩ := hexv_self c
      rw [rb_cons, if_pos rfl, rb92_cons, if_pos rfl]
      have : hex (hexd (c.toNat / 16) :: hexd (c.toNat % 16) :: r) = some c := by
        rw [hex_cons, if_neg (by omega), h1, hl, hp]; rfl
      rw [this]; rfl
theorem esc_of_rb (l : List UInt8) (c : UInt8) (n : Nat) (h : rb l = some (c, n)) : ∃ r, l = esc c ++ r ∧ n = (esc c).length := by
  cases l with
  | nil => cases h
  | cons b r =>
    rw [rb_cons] at h
    split at h
    · subst_vars
      cases r with
      | nil => cases h
      | cons x r' =>
        rw [rb92_cons] at h
        split at h
        · subst_vars
          match r', h with
          | [], h => cases h
          | [_], h => cases h
          | a :: b :: r2, h =>
            rw [hex_cons] at h
            by_cases hn : hv a < 0 ∨ hv b < 0
            · rw [if_pos hn] at h; cases h
            · rw [if_neg hn] at h
              by_cases hn2 : ((letter (hexv a b)).isSome || plain (hexv a b)) = true
              · rw [if_pos hn2] at h; cases h
              · rw [if_neg hn2] at h
                simp only [Option.map_some, Option.some.injEq, Prod.mk.injEq] at h
                obtain ⟨hc, rfl⟩ := h
                have ha : 0 ≤ hv a := by omega
                have hb : 0 ≤ hv b := by omega
                have hv1 := hexv_toNat a b ha hb
                rw [hc] at hv1 hn2
                have r1 := hv_range a
                have r2' := hv_range b
                have hl : letter c = none := by cases hh : letter c with
                  | none => rfl
                  | some x => rw [hh] at hn2; simp at hn2
                have hp : plain c = false := by cases hh : plain c with
                  | false => rfl
                  | true => rw [hh] at hn2; simp at hn2
                refine ⟨r2, ?_, ?_⟩
                · rw [esc_hex c hp hl]
                  have d1 : c.toNat / 16 = (hv a).toNat := by omega
                  have d2 : c.toNat % 16 = (hv b).toNat := by omega
                  rw [d1, d2, hexd_hv' a ha, hexd_hv' b hb]; rfl
                · rw [esc_hex c hp hl]; rfl
        · cases hr : raw x with
          | none => rw [hr] at h; cases h
          | some v =>
            rw [hr] at h
            simp only [Option.map_some, Option.some.injEq, Prod.mk.injEq] at h
            obtain ⟨rfl, rfl⟩ := h
            obtain ⟨h1, h2⟩ := raw_letter x v hr
            exact ⟨r', by rw [esc_letter v x h2 h1]; rfl, by rw [esc_letter v x h2 h1]; rfl⟩
    · split at h
      · rename_i hp
        simp only [Option.some.injEq, Prod.mk.injEq] at h
        obtain ⟨rfl, rfl⟩ := h
        exact ⟨r, by rw [esc_plain b hp]; rfl, by rw [esc_plain b hp]; rfl⟩
      · cases h
end Go.Proofs.YthifbihmogjjpaaDoor.Pl
