/-
  Merges: the reference's first.
-/
import Derived.Test.YtebjhjmlpodkgaaHb
namespace Go.Proofs.Ytebjhjmlpodkgaa.KK
open Go.ChangeShapes Go.WideShapes Go.ChangeAt Go.RowKit Go.Proofs

/-- the key that comes next in a run -/
def keyA (xss : List (List El.En)) (a : List Int) (i : Nat) : ByteArray := (nk (xsA xss i) (aA a i)).1
/-- is there one? -/
def liveA (xss : List (List El.En)) (a : List Int) (i : Nat) : Bool := decide (aA a i < (xsA xss i).length)
/-- the best one of the first runs, below 0 if there is none -/
def bestA (xss : List (List El.En)) (a : List Int) : Nat → Int
  | 0 => -1
  | k + 1 => if liveA xss a k = true ∧ (bestA xss a k < 0 ∨ Kl.lt (Kl.L (keyA xss a k)) (Kl.L (keyA xss a (bestA xss a k).toNat)) = true) then (k : Int) else bestA xss a k
theorem bestA_yes {xss : List (List El.En)} {a : List Int} {k : Nat} (h : liveA xss a k = true) (g : bestA xss a k < 0 ∨ Kl.lt (Kl.L (keyA xss a k)) (Kl.L (keyA xss a (bestA xss a k).toNat)) = true) : bestA xss a (k + 1) = (k : Int) := if_pos ⟨h, g⟩
theorem bestA_no {xss : List (List El.En)} {a : List Int} {k : Nat} (h : ¬ (liveA xss a k = true ∧ (bestA xss a k < 0 ∨ Kl.lt (Kl.L (keyA xss a k)) (Kl.L (keyA xss a (bestA xss a k).toNat)) = true))) : bestA xss a (k + 1) = bestA xss a k := if_neg h
theorem bestA_inv (xss : List (List El.En)) (a : List Int) : ∀ k, (bestA xss a k = -1 ∧ ∀ i, i < k → liveA xss a i = false) ∨
    ∃ b : Nat, bestA xss a k = b ∧ b < k ∧ liveA xss a b = true ∧ ∀ i, i < k → liveA xss a i = true → i = b ∨ Kl.lt (Kl.L (keyA xss a b)) (Kl.L (keyA xss a i)) = true ∨ (Kl.L (keyA xss a b) = Kl.L (keyA xss a i) ∧ b < i)
  | 0 => .inl ⟨rfl, fun i h => absurd h (Nat.not_lt_zero _)⟩
  | k + 1 => by
    rcases bestA_inv xss a k with ⟨h1, h2⟩ | ⟨b, h1, hb, hl, h2⟩
    · cases hk : liveA xss a k with
      | false =>
        refine .inl ⟨by rw [bestA_no (by rw [hk]; simp)]; exact h1, fun i hi => ?_⟩
        by_cases e : i = k
        · rw [e]; exact hk
        · exact h2 i (by omega)
      | true =>
        refine .inr ⟨k, bestA_yes hk (.inl (by omega)), by omega, hk, fun i hi hli => ?_⟩
        by_cases e : i = k
        · exact .inl e
        · rw [h2 i (by omega)] at hli; cases hli
    · cases hk : liveA xss a k with
      | false =>
        refine .inr ⟨b, by rw [bestA_no (by rw [hk]; simp)]; exact h1, by omega, hl, fun i hi hli => ?_⟩
        by_cases e : i = k
        · rw [e, hk] at hli; cases hli
        · exact h2 i (by omega) hli
      | true =>
        by_cases g : Kl.lt (Kl.L (keyA xss a k)) (Kl.L (keyA xss a b)) = true
        · refine .inr ⟨k, bestA_yes hk (.inr (by rw [h1, Int.toNat_natCast]; exact g)), by omega, hk, fun i hi hli => ?_⟩
          by_cases e : i = k
          · exact .inl e
          · rcases h2 i (by omega) hli with rfl | h3 | ⟨h3, _⟩
            · exact .inr (.inl g)
            · exact .inr (.inl (Kl.lt_trans g h3))
            · exact .inr (.inl (by rw [← h3]; exact g))
        · refine .inr ⟨b, by rw [bestA_no (by rw [h1, Int.toNat_natCast]; rintro ⟨_, h3 | h3⟩; omega; exact g h3)]; exact h1, by omega, hl, fun i hi hli => ?_⟩
          by_cases e : i = k
          · subst e
            have g' : Kl.lt (Kl.L (keyA xss a i)) (Kl.L (keyA xss a b)) = false := by simpa using g
            cases h4 : Kl.lt (Kl.L (keyA xss a b)) (Kl.L (keyA xss a i)) with
            | true => exact .inr (.inl rfl)
            | false => exact .inr (.inr ⟨Kl.lt_total h4 g', hb⟩)
          · exact h2 i (by omega) hli
theorem Gd.live {xss : List (List El.En)} {a : List Int} (h : Gd xss a) {i : Nat} (hi : i < xss.length) : liveA xss a i = !(kAt (nks xss a) i).2 := by
  rw [h.kat hi]
  unfold liveA
  by_cases g : aA a i < (xsA xss i).length
  · rw [nk_lt g]; simp [g]
  · rw [nk_end g]; simp [g]
/-- what first answers -/
theorem Gd.best {xss : List (List El.En)} {a : List Int} (h : Gd xss a) : bestA xss a xss.length = if doneB xss a = true then -1 else ((winA xss a : Nat) : Int) := by
  have hw := h.win
  have hd : doneB xss a = !liveA xss a (winA xss a) := by rw [h.live hw]; unfold doneB; simp
  rcases bestA_inv xss a xss.length with ⟨h1, h2⟩ | ⟨b, h1, hb, hl, h2⟩
  · rw [h1, hd, h2 _ hw]; rfl
  · have hbl : (kAt (nks xss a) b).2 = false := by have := h.live hb; rw [hl] at this; simpa using this.symm
    have hbw : b = winA xss a := by
      rcases wnr_least h.keys b (by rw [h.len]; exact hb) with e | e
      · exact e
      · have e' : wn (nks xss a) (winA xss a) b = true := e
        by_cases hne : b = winA xss a
        · exact hne
        · rw [wn_iff] at e'
          rw [hbl] at e'
          have hpl : (kAt (nks xss a) (winA xss a)).2 = false := by
            rcases e' with ⟨e1, _⟩ | ⟨e1, _⟩
            · exact e1
            · exact e1
          have hlw : liveA xss a (winA xss a) = true := by rw [h.live hw, hpl]; rfl
          have hk : ∀ i, i < xss.length → (kAt (nks xss a) i).1 = keyA xss a i := fun i hi => by rw [h.kat hi]; rfl
          rw [hk _ hw, hk _ hb] at e'
          rcases h2 _ hw hlw with e2 | e2 | ⟨e2, e3⟩
          · exact e2.symm
          · rcases e' with ⟨_, e4 | ⟨e4, _⟩⟩ | ⟨_, e4⟩
            · rw [Kl.lt_asymm e2] at e4; cases e4
            · rw [e4, Kl.lt_irrefl] at e2; cases e2
            · cases e4
          · rcases e' with ⟨_, e4 | ⟨_, e4⟩⟩ | ⟨_, e4⟩
            · rw [e2, Kl.lt_irrefl] at e4; cases e4
            · omega
            · cases e4
    rw [hd, ← hbw, hl, h1]; rfl
end Go.Proofs.Ytebjhjmlpodkgaa.KK
