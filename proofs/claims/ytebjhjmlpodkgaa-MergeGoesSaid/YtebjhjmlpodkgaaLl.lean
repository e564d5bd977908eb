/-
  Trees of losers: the order of players; slices.SortFunc.
-/
import Derived.Test.YtebjhjmlpodkgaaLi
namespace Go.Proofs.Ytebjhjmlpodkgaa.KK
open Go.ChangeShapes Go.WideShapes Go.ChangeAt Go.RowKit Go.Proofs

theorem compareInt_neg {a b : Nat} : Lib.compareInt a b < 0 ↔ a < b := by
  unfold Lib.compareInt
  by_cases h : a < b
  · simp [h]
  · by_cases g : b < a
    · simp [h, g]
    · simp [h, g]
theorem wn_iff (ks : List LK) (a b : Nat) : wn ks a b = true ↔ ((kAt ks a).2 = (kAt ks b).2 ∧ (Kl.lt (Kl.L (kAt ks a).1) (Kl.L (kAt ks b).1) = true ∨ (Kl.L (kAt ks a).1 = Kl.L (kAt ks b).1 ∧ a < b))) ∨ ((kAt ks a).2 = false ∧ (kAt ks b).2 = true) := by
  unfold wn cf
  rw [decide_eq_true_eq]
  generalize Kl.L (kAt ks a).1 = x
  generalize Kl.L (kAt ks b).1 = y
  by_cases hd : (kAt ks a).2 = (kAt ks b).2
  · rw [if_pos hd]
    have hno : ¬ ((kAt ks a).2 = false ∧ (kAt ks b).2 = true) := by rw [hd]; intro ⟨g, h⟩; rw [g] at h; cases h
    unfold Kl.ord
    cases h1 : Kl.lt x y with
    | true => simp [hd]
    | false =>
      cases h2 : Kl.lt y x with
      | true =>
        have hne : x ≠ y := fun e => by rw [e, Kl.lt_irrefl] at h2; cases h2
        simp [hd, hne]
      | false =>
        have := Kl.lt_total h1 h2
        subst this
        simp [hd, compareInt_neg]
  · rw [if_neg hd]
    cases h1 : (kAt ks a).2 <;> cases h2 : (kAt ks b).2 <;> simp_all
theorem wn_irrefl (ks : List LK) (a : Nat) : wn ks a a = false := by
  cases h : wn ks a a with
  | false => rfl
  | true =>
    rcases (wn_iff ks a a).1 h with ⟨_, g | g⟩ | ⟨g, g'⟩
    · rw [Kl.lt_irrefl] at g; cases g
    · omega
    · rw [g] at g'; cases g'
theorem wn_trans {ks : List LK} {a b c : Nat} (h : wn ks a b = true) (g : wn ks b c = true) : wn ks a c = true := by
  rw [wn_iff] at h g ⊢
  rcases h with ⟨hd, h⟩ | ⟨h1, h2⟩
  · rcases g with ⟨gd, g⟩ | ⟨g1, g2⟩
    · refine .inl ⟨hd.trans gd, ?_⟩
      rcases h with h | ⟨h, h'⟩ <;> rcases g with g | ⟨g, g'⟩
      · exact .inl (Kl.lt_trans h g)
      · rw [← g]; exact .inl h
      · rw [h]; exact .inl g
      · exact .inr ⟨h.trans g, by omega⟩
    · exact .inr ⟨hd.trans g1, g2⟩
  · rcases g with ⟨gd, g⟩ | ⟨g1, g2⟩
    · exact .inr ⟨h1, by rw [← gd]; exact h2⟩
    · rw [h2] at g1; cases g1
theorem wn_ntrans {ks : List LK} {a b c : Nat} (h : wn ks a b = false) (g : wn ks b c = false) : wn ks a c = false := by
  by_cases e1 : a = b
  · subst e1; exact g
  by_cases e2 : b = c
  · subst e2; exact h
  by_cases e3 : a = c
  · subst e3; exact wn_irrefl ks a
  have t := wn_tot ks
  have h' : wn ks b a = true := by have := t a b e1; rw [h] at this; simpa using this
  have g' : wn ks c b = true := by have := t b c e2; rw [g] at this; simpa using this
  rw [t a c e3, wn_trans g' h']; rfl
/-- players in the order in which they win -/
structure Ord (ks : List LK) (L : List Nat) : Prop where
  perm : L.Perm (List.range ks.length)
  asc : L.Pairwise (fun a b => wn ks b a = false)
theorem Ord.uniq {ks : List LK} {L L' : List Nat} (h : Ord ks L) (g : Ord ks L') : L = L' :=
  List.Perm.eq_of_pairwise (fun a b _ _ h1 h2 => by
    by_cases e : a = b
    · exact e
    · have := wn_tot ks a b e; rw [h1, h2] at this; cases this) h.asc g.asc (h.perm.trans g.perm.symm)
def natsV (L : List Nat) : List Int := List.map (fun p : Nat => (p : Int)) L
end Go.Proofs.Ytebjhjmlpodkgaa.KK
