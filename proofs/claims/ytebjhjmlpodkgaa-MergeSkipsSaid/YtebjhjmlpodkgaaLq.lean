/-
  Trees of losers, plainly: a climb with a new key, how many games, how many losers change, the least player.
-/
import Derived.Test.YtebjhjmlpodkgaaLp
namespace Go.Proofs.Ytebjhjmlpodkgaa.Lo

/-- how many games are above a node -/
def gm (m : Nat) : Nat := if h : m = 0 then 0 else gm (m / 2) + 1
termination_by m
theorem gm_zero : gm 0 = 0 := by rw [gm]; rfl
theorem gm_pos {m : Nat} (h : 1 ≤ m) : gm m = gm (m / 2) + 1 := by rw [gm, dif_neg (by omega)]
theorem gm_pow : ∀ m, 1 ≤ m → 2 ^ (gm m - 1) ≤ m
  | m, h => by
    rw [gm_pos h]
    by_cases h2 : m / 2 = 0
    · rw [h2, gm_zero]; simpa using h
    · have := gm_pow (m / 2) (by omega)
      have hg : gm (m / 2) ≠ 0 := by rw [gm_pos (by omega)]; omega
      rw [Nat.add_sub_cancel, show gm (m / 2) = gm (m / 2) - 1 + 1 by omega, Nat.pow_succ]
      omega
termination_by m => m
theorem gm_five {m : Nat} (h : m < 32) : gm m ≤ 5 := by
  rcases Nat.lt_or_ge (gm m) 6 with g | g
  · omega
  · have hm : 1 ≤ m := by
      rcases Nat.eq_zero_or_pos m with e | e
      · rw [e, gm_zero] at g; omega
      · exact e
    have := gm_pow m hm
    have h2 : 2 ^ 5 ≤ 2 ^ (gm m - 1) := Nat.pow_le_pow_right (by decide) (by omega)
    omega

/-- how many losers differ -/
def ham (n : Nat) (A B : List Int) : Nat := (List.range n).countP (fun i => decide (A.getD i 0 ≠ B.getD i 0))
theorem countP_or {α : Type} (p q r : α → Bool) (h : ∀ x, p x = true → q x = true ∨ r x = true) : ∀ l : List α, l.countP p ≤ l.countP q + l.countP r
  | [] => by simp
  | x :: l => by
    have ih := countP_or p q r h l
    have hx := h x
    rw [List.countP_cons, List.countP_cons, List.countP_cons]
    cases hp : p x <;> cases hq : q x <;> cases hr : r x <;> simp_all <;> omega
theorem ham_tri (n : Nat) (A B C : List Int) : ham n A C ≤ ham n A B + ham n B C :=
  countP_or _ _ _ (fun i h => by
    simp only [decide_eq_true_eq] at h ⊢
    by_cases e : A.getD i 0 = B.getD i 0
    · exact .inr (fun g => h (e.trans g))
    · exact .inl e) _
theorem countP_one (j : Nat) : ∀ n, (List.range n).countP (fun i => decide (i = j)) ≤ 1
  | 0 => by simp
  | n + 1 => by
    rw [List.range_succ, List.countP_append, List.countP_cons, List.countP_nil]
    by_cases h : n = j
    · subst h
      have : (List.range n).countP (fun i => decide (i = n)) = 0 := by
        rw [List.countP_eq_zero]; intro a ha; simp at ha; simp; omega
      rw [this]; simp
    · have := countP_one j n
      simp [h]; exact this
theorem ham_set (n : Nat) (L : List Int) (j : Nat) (v : Int) : ham n L (L.set j v) ≤ 1 := by
  refine Nat.le_trans ?_ (countP_one j n)
  refine List.countP_mono_left ?_
  intro i _ h
  simp only [decide_eq_true_eq] at h ⊢
  by_cases e : i = j
  · exact e
  · exfalso; apply h
    simp only [List.getD_eq_getElem?_getD]
    rw [List.getElem?_set_ne (Ne.symm e)]

/-- a subtree without w has the same player under both orders -/
theorem pl_same {W V : Nat → Nat → Bool} {n w : Nat} (hS : ∀ a b, a ≠ w → b ≠ w → V a b = W a b) : ∀ (f i : Nat), 2 * n - i ≤ f → 1 ≤ i → i < 2 * n → ¬ under i (n + w) → pl V n i = pl W n i
  | f, i, hf, h1, h2, hu => by
    by_cases hn : n ≤ i
    · rw [pl, dif_pos (.inl hn), pl, dif_pos (.inl hn)]
    · cases f with
      | zero => omega
      | succ f =>
        have u0 : ¬ under (2 * i) (n + w) := fun g => hu (under_up0 g)
        have u1 : ¬ under (2 * i + 1) (n + w) := fun g => hu (under_up1 g)
        have a := pl_same hS f (2 * i) (by omega) (by omega) (by omega) u0
        have b := pl_same hS f (2 * i + 1) (by omega) (by omega) (by omega) u1
        have na : pl W n (2 * i) ≠ w := fun e => u0 (by have := pl_in (W := W) (n := n) (i := 2 * i) (by omega) (by omega); rwa [e] at this)
        have nb : pl W n (2 * i + 1) ≠ w := fun e => u1 (by have := pl_in (W := W) (n := n) (i := 2 * i + 1) (by omega) (by omega); rwa [e] at this)
        rw [pl_node h1 (by omega), pl_node h1 (by omega), a, b, hS _ _ na nb]
theorem lo_same {W V : Nat → Nat → Bool} {n w i : Nat} (hS : ∀ a b, a ≠ w → b ≠ w → V a b = W a b) (h1 : 1 ≤ i) (h2 : i < n) (hu : ¬ under i (n + w)) : lo V n i = lo W n i := by
  have u0 : ¬ under (2 * i) (n + w) := fun g => hu (under_up0 g)
  have u1 : ¬ under (2 * i + 1) (n + w) := fun g => hu (under_up1 g)
  have a := pl_same hS _ (2 * i) (Nat.le_refl _) (by omega) (by omega) u0
  have b := pl_same hS _ (2 * i + 1) (Nat.le_refl _) (by omega) (by omega) u1
  have na : pl W n (2 * i) ≠ w := fun e => u0 (by have := pl_in (W := W) (n := n) (i := 2 * i) (by omega) (by omega); rwa [e] at this)
  have nb : pl W n (2 * i + 1) ≠ w := fun e => u1 (by have := pl_in (W := W) (n := n) (i := 2 * i + 1) (by omega) (by omega); rwa [e] at this)
  unfold lo
  rw [a, b, hS _ _ na nb]
/-- the winner is the player of all nodes above its leaf -/
theorem pl_path {W : Nat → Nat → Bool} {n w : Nat} (hw : w < n) (hp : pl W n 1 = w) : ∀ {i : Nat}, 1 ≤ i → under i (n + w) → pl W n i = w
  | i, h1, hu => by
    by_cases h : i = 1
    · rw [h]; exact hp
    · have hi : i < 2 * n := by have := under_le hu; omega
      have hn : i / 2 < n := by omega
      have ih := pl_path hw hp (i := i / 2) (by omega) (under_half hu)
      have hs := sib_under (c := i) (by omega) hu
      have hs1 : sib i < 2 * n := by rcases sib_cases (c := i) (by omega) with ⟨e, s⟩ | ⟨e, s⟩ <;> omega
      have hs2 : 1 ≤ sib i := by rcases sib_cases (c := i) (by omega) with ⟨e, s⟩ | ⟨e, s⟩ <;> omega
      have hns : pl W n (sib i) ≠ w := fun e => hs (by have := pl_in (W := W) hs2 hs1; rwa [e] at this)
      have : pl W n (i / 2) = pl W n i ∨ pl W n (i / 2) = pl W n (sib i) := by
        rw [pl_node (by omega) hn]
        rcases sib_cases (c := i) (by omega) with ⟨e, s⟩ | ⟨e, s⟩
        · rw [s, ← e]; split
          · exact .inl rfl
          · exact .inr rfl
        · rw [s, ← e]; split
          · exact .inr rfl
          · exact .inl rfl
      rcases this with e | e
      · rw [← e, ih]
      · exact absurd (e.symm.trans ih) hns
termination_by i => i
theorem lo_path {W : Nat → Nat → Bool} {n c : Nat} (h : 2 ≤ c) (hn : c / 2 < n) (h1 : 1 ≤ c / 2) (hp : pl W n c = pl W n (c / 2)) (hne : pl W n c ≠ pl W n (sib c)) : lo W n (c / 2) = pl W n (sib c) := by
  rw [pl_node h1 hn] at hp
  unfold lo
  rcases sib_cases h with ⟨e, s⟩ | ⟨e, s⟩
  · rw [s] at hne
    rw [s]
    rw [← e] at hp hne ⊢
    split at hp
    · rename_i h; rw [if_pos h]
    · exact absurd hp hne
  · rw [s] at hne
    rw [s]
    rw [← e] at hp ⊢
    split at hp
    · exact absurd hp hne
    · rename_i h; rw [if_neg h]
/-- a climb with another key for the winner -/
theorem climb_again {W V : Nat → Nat → Bool} (hV : Tot V) {n w : Nat} (hw : w < n) (hS : ∀ a b, a ≠ w → b ≠ w → V a b = W a b) :
    ∀ (f c g : Nat) (L : List Int), c ≤ f → 1 ≤ c → c < 2 * n → under c (n + w) → pl W n c = w → pl W n 1 = w → Clm W n (fun i => (lo W n i : Int)) (fun i => (lo V n i : Int)) c L →
    ∃ L', climbF V L (pl V n c) (c / 2) g = (L', some (pl V n 1), g + gm (c / 2)) ∧ Row n (fun i => (lo V n i : Int)) L' ∧ ham n L L' ≤ gm (c / 2)
  | f, c, g, L, hf, h1, h2, hu, hpc, hp1, hL => by
    by_cases hc : c < 2
    · have : c = 1 := by omega
      subst this
      refine ⟨L, by rw [climbF, dif_pos (by decide), gm_zero]; rfl, hL.root hc, ?_⟩
      rw [gm_zero]; unfold ham; simp
    · have hc2 : 2 ≤ c := by omega
      have hn : c / 2 < n := by omega
      have hnode : L.getD (c / 2) 0 = lo W n (c / 2) := hL.up _ (by omega) hn (under_half (under_refl c)) (by omega)
      have hsu := sib_under hc2 hu
      have hsl : sib c < 2 * n := by rcases sib_cases hc2 with ⟨e, s⟩ | ⟨e, s⟩ <;> omega
      have hs1 : 1 ≤ sib c := by rcases sib_cases hc2 with ⟨e, s⟩ | ⟨e, s⟩ <;> omega
      have hpar : pl W n (c / 2) = w := pl_path hw hp1 (by omega) (under_half hu)
      have hlo : lo W n (c / 2) = pl W n (sib c) := lo_path (W := W) hc2 hn (by omega) (by rw [hpc]; exact hpar.symm) (fun e => hsu (by have := pl_in (W := W) hs1 hsl; rwa [← e, hpc] at this))
      have hsv : pl V n (sib c) = pl W n (sib c) := pl_same hS _ _ (Nat.le_refl _) hs1 hsl hsu
      have hP := pl_pair hV hc2 hn
      have hgm : gm (c / 2) = gm (c / 2 / 2) + 1 := gm_pos (by omega)
      cases f with
      | zero => omega
      | succ f =>
        rw [climbF, dif_neg (by omega), hnode, hlo, ← hsv, if_neg (by omega), toNat_pl]
        by_cases hw' : V (pl V n c) (pl V n (sib c)) = true
        · rw [if_pos hw']
          obtain ⟨L', e, r, hh⟩ := climb_again hV hw hS f (c / 2) (g + 1) (L.set (c / 2) (pl V n (sib c))) (by omega) (by omega) (by omega) (under_half hu) hpar hp1 (hL.step hc2 hn (by rw [hP.2, if_pos hw']))
          rw [hP.1, if_pos hw'] at e
          refine ⟨L', by rw [e, hgm]; simp; omega, r, ?_⟩
          have h1 := ham_tri n L (L.set (c / 2) (pl V n (sib c))) L'
          have h2 := ham_set n L (c / 2) (pl V n (sib c))
          omega
        · rw [if_neg hw']
          obtain ⟨L', e, r, hh⟩ := climb_again hV hw hS f (c / 2) (g + 1) (L.set (c / 2) (pl V n c)) (by omega) (by omega) (by omega) (under_half hu) hpar hp1 (hL.step hc2 hn (by rw [hP.2, if_neg hw']))
          rw [hP.1, if_neg hw'] at e
          refine ⟨L', by rw [e, hgm]; simp; omega, r, ?_⟩
          have h1 := ham_tri n L (L.set (c / 2) (pl V n c)) L'
          have h2 := ham_set n L (c / 2) (pl V n c)
          omega
theorem climb_again' {W V : Nat → Nat → Bool} (hV : Tot V) {n w : Nat} (hw : w < n) (hS : ∀ a b, a ≠ w → b ≠ w → V a b = W a b) (hp1 : pl W n 1 = w) {L : List Int} (hL : Row n (fun i => (lo W n i : Int)) L) (g : Nat) :
    ∃ L', climbF V L w ((n + w) / 2) g = (L', some (pl V n 1), g + gm ((n + w) / 2)) ∧ Row n (fun i => (lo V n i : Int)) L' ∧ ham n L L' ≤ gm ((n + w) / 2) := by
  have h := climb_again hV hw hS (n + w) (n + w) g L (Nat.le_refl _) (by omega) (by omega) (under_refl _) (pl_leaf _ _ _) hp1
    ⟨hL.len, hL.zero, fun i h1 h2 _ _ => hL.all i h1 h2, fun i h1 h2 hu => by
      rw [hL.all i h1 h2]
      have hn : ¬ under i (n + w) := fun g => hu ⟨g, by omega⟩
      exact congrArg _ (lo_same hS h1 h2 hn).symm⟩
  rwa [pl_leaf] at h
end Go.Proofs.Ytebjhjmlpodkgaa.Lo
