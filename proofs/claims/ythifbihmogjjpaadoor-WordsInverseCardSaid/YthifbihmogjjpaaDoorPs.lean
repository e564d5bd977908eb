/-
  Plain functions: the parts of a string between the places of a byte.
-/
import Derived.Test.YthifbihmogjjpaaDoorPg
import Derived.Lib.Split
import Derived.Lib.CountLaws
import Derived.Lib.IndexBytes
import Derived.Lib.IndexLaws
import Derived.Lib.CutLaws
namespace Go.Proofs.YthifbihmogjjpaaDoor.Pl
open Go.Lib

/-- the parts between the places of a byte -/
def segs (c : UInt8) : List UInt8 → List (List UInt8)
  | [] => [[]]
  | x :: r => if x = c then [] :: segs c r else match segs c r with | [] => [[x]] | h :: t => (x :: h) :: t
theorem segs_ne (c : UInt8) : ∀ l, segs c l ≠ []
  | [] => by simp [segs]
  | x :: r => by
    rw [segs]
    split
    · simp
    · split <;> simp
theorem segs_miss (c : UInt8) : ∀ l : List UInt8, (∀ x ∈ l, x ≠ c) → segs c l = [l]
  | [], _ => rfl
  | x :: r, h => by
    rw [segs, if_neg (h x (by simp)), segs_miss c r (fun y hy => h y (by simp [hy]))]
theorem segs_hit (c : UInt8) : ∀ (l : List UInt8) (i : Nat), (∀ x ∈ l.take i, x ≠ c) → l[i]? = some c → segs c l = l.take i :: segs c (l.drop (i + 1))
  | [], i, _, h => by simp at h
  | x :: r, 0, _, h => by
    simp only [List.getElem?_cons_zero, Option.some.injEq] at h
    rw [segs, if_pos h]; rfl
  | x :: r, i + 1, hn, h => by
    rw [segs, if_neg (hn x (by simp)), segs_hit c r i (fun y hy => hn y (by simp [hy])) (by simpa using h)]
    rfl
theorem segs_snoc (c : UInt8) : ∀ l : List UInt8, segs c (l ++ [c]) = segs c l ++ [[]]
  | [] => by simp [segs]
  | x :: r => by
    rw [List.cons_append, segs, segs_snoc c r]
    by_cases h : x = c
    · rw [if_pos h, segs, if_pos h]; rfl
    · rw [if_neg h, segs, if_neg h]
      cases hs : segs c r with
      | nil => exact absurd hs (segs_ne c r)
      | cons a b => rfl
theorem segs_len (c : UInt8) : ∀ l : List UInt8, (segs c l).length ≤ l.length + 1
  | [] => by simp [segs]
  | x :: r => by
    have := segs_len c r
    rw [segs]
    split
    · simp; omega
    · split
      · simp
      · rename_i h t e
        rw [e] at this; simp at this ⊢; omega
theorem segs_mem_len (c : UInt8) : ∀ (l : List UInt8), ∀ t ∈ segs c l, t.length ≤ l.length
  | [], t, ht => by simp [segs] at ht; subst ht; simp
  | x :: r, t, ht => by
    have ih := segs_mem_len c r
    rw [segs] at ht
    split at ht
    · rcases List.mem_cons.1 ht with rfl | h
      · simp
      · have := ih t h; simp; omega
    · split at ht
      · simp at ht; subst ht; simp
      · rename_i h' t' e
        rw [e] at ih
        rcases List.mem_cons.1 ht with rfl | h
        · have := ih h' (by simp); simp; omega
        · have := ih t (by simp [h]); simp; omega
theorem splitB_segs (c : UInt8) : ∀ (k : Nat) (s : ByteArray), countB s ⟨#[c]⟩ = k → splitB ⟨#[c]⟩ 0 k s = (segs c (L s)).map fun t => ⟨t.toArray⟩ := by
  intro k
  induction k with
  | zero =>
    intro s h
    rw [splitB_zero]
    rcases indexB_cases s ⟨#[c]⟩ with h1 | ⟨i, h1, h2⟩
    · have hm : ∀ x ∈ L s, x ≠ c := by
        intro x hx e
        subst e
        have h3 : indexByte (L s) x = -1 := by rw [← index_one]; exact h1
        obtain ⟨j, hj, he⟩ := List.getElem_of_mem hx
        exact indexByte_none h3 j (by rw [List.getElem?_eq_getElem hj, he])
      rw [segs_miss c _ hm]
      show [s] = [⟨(L s).toArray⟩]
      unfold L; simp
    · rw [countB_hit s ⟨#[c]⟩ i (Nat.le_refl 1) h1] at h; omega
  | succ k ih =>
    intro s h
    rcases indexB_cases s ⟨#[c]⟩ with h1 | ⟨i, h1, h2⟩
    · rw [countB_miss _ _ h1] at h; omega
    · rw [countB_hit s ⟨#[c]⟩ i (Nat.le_refl 1) h1] at h
      have hsz : (⟨#[c]⟩ : ByteArray).size = 1 := rfl
      rw [hsz] at h
      rw [splitB_hit _ _ _ _ i h1, hsz, ih _ (by omega)]
      have h3 : indexByte (L s) c = i := by rw [← index_one]; exact h1
      obtain ⟨g1, g2⟩ := indexByte_some h3
      have e1 : L (s.extract (i + 1) s.size) = (L s).drop (i + 1) := L_extract s (i + 1)
      have e2 : s.extract 0 (i + 0) = ⟨((L s).take i).toArray⟩ := by
        have : (s.extract 0 (i + 0)).data.toList = (L s).take i := by rw [extract_data]; simp [L]
        rw [← this]
      rw [e1, e2, segs_hit c (L s) i (fun x hx e => by
        subst e
        obtain ⟨j, hj, he⟩ := List.getElem_of_mem hx
        rw [List.length_take] at hj
        rw [List.getElem_take] at he
        exact g2 j (by omega) (by rw [List.getElem?_eq_getElem (by omega), he])) g1]
      rfl
theorem countB_segs (c : UInt8) (s : ByteArray) : countB s ⟨#[c]⟩ + 1 = (segs c (L s)).length := by
  have h := splitB_segs c (countB s ⟨#[c]⟩) s rfl
  have g : ∀ (k : Nat) (s : ByteArray), countB s ⟨#[c]⟩ = k → (splitB ⟨#[c]⟩ 0 k s).length = k + 1 := by
    intro k
    induction k with
    | zero => intro s _; rw [splitB_zero]; rfl
    | succ k ih =>
      intro s h
      rcases indexB_cases s ⟨#[c]⟩ with h1 | ⟨i, h1, h2⟩
      · rw [countB_miss _ _ h1] at h; omega
      · rw [countB_hit s ⟨#[c]⟩ i (Nat.le_refl 1) h1] at h
        rw [splitB_hit _ _ _ _ i h1, List.length_cons, ih _ (by omega)]
  have := g _ s rfl
  rw [h, List.length_map] at this
  omega
end Go.Proofs.YthifbihmogjjpaaDoor.Pl
