/-
  Plain functions: the numbers of spans, and ParseList.
-/
import Derived.Test.YthifbihmogjjpaaDoorPu
import Derived.Test.YthifbihmogjjpaaDoorPi
namespace Go.Proofs.YthifbihmogjjpaaDoor.Pl
open Go.Lib

def iv (l : List UInt8) : Int := (intE l 0 1000000000).2
theorem iv_b (l : List UInt8) : 0 ≤ iv l ∧ iv l ≤ 1000000000 := by
  unfold iv intE
  split
  · split
    · rename_i h; exact h
    · exact ⟨by decide, by decide⟩
  · exact ⟨by decide, by decide⟩
/-- so many numbers from f on -/
def from_ (f : Int) (m : Nat) : List Int := (List.range m).map fun i => f + (i : Nat)
theorem from_succ (f : Int) (m : Nat) : from_ f (m + 1) = from_ f m ++ [f + (m : Nat)] := by unfold from_; rw [List.range_succ, List.map_append]; rfl
theorem from_len (f : Int) (m : Nat) : (from_ f m).length = m := by unfold from_; simp
/-- how many numbers a span has -/
def cnt (x : List UInt8 × List UInt8) : Nat := (iv x.2 - iv x.1 + 1).toNat
def numsF : List Int → List (List UInt8 × List UInt8) → Int × List Int
  | acc, [] => (0, acc)
  | acc, x :: r => if (500 : Int) - acc.length ≤ iv x.2 - iv x.1 then (3, []) else numsF (acc ++ from_ (iv x.1) (cnt x)) r
theorem numsF_few : ∀ (r : List (List UInt8 × List UInt8)) (acc : List Int), acc.length ≤ 500 → (numsF acc r).2.length ≤ 500
  | [], acc, h => h
  | x :: r, acc, h => by
    rw [numsF]
    split
    · exact Nat.zero_le _
    · rename_i hc
      refine numsF_few r _ ?_
      rw [List.length_append, from_len]
      unfold cnt
      omega
/-- ParseList: the error, and the numbers -/
def plist (l : List UInt8) : Int × List Int :=
  if l = [45] then (0, []) else match spans l with
    | none => (6, [])
    | some xs => match xs.getLast? with
      | none => (6, [])
      | some x => if (intE x.2 0 1000000000).1 = 0 then numsF [] xs else ((intE x.2 0 1000000000).1, [])
theorem spansFrom_ne : ∀ (p : Option (List UInt8)) (ts : List (List UInt8)) (xs : List (List UInt8 × List UInt8)), spansFrom p ts = some xs → xs.length = ts.length
  | p, [], xs, h => by rw [spansFrom] at h; cases h; rfl
  | p, t :: ts, xs, h => by
    rw [spansFrom] at h
    cases hrs : rs t with
    | none => rw [hrs] at h; cases h
    | some x =>
      rw [hrs] at h
      simp only at h
      have key : ∀ b : Bool, (if b = true then (spansFrom (some x.2) ts).map (x :: ·) else none) = some xs → xs.length = (t :: ts).length := fun b h => by
        cases b with
        | false => cases h
        | true =>
          rw [if_pos rfl] at h
          cases hr : spansFrom (some x.2) ts with
          | none => rw [hr] at h; cases h
          | some ys =>
            rw [hr] at h
            simp only [Option.map_some, Option.some.injEq] at h
            subst h
            simp [spansFrom_ne _ ts ys hr]
      exact key _ h
theorem spans_ne {l : List UInt8} {xs : List (List UInt8 × List UInt8)} (h : spans l = some xs) : xs ≠ [] := by
  have := spansFrom_ne _ _ _ h
  intro e
  subst e
  have h2 := segs_ne 44 l
  exact h2 (List.eq_nil_of_length_eq_zero this.symm)
theorem plist_few (l : List UInt8) : (plist l).2.length ≤ 500 := by
  unfold plist
  split
  · exact Nat.zero_le _
  split
  · exact Nat.zero_le _
  split
  · exact Nat.zero_le _
  split
  · exact numsF_few _ _ (Nat.zero_le _)
  · exact Nat.zero_le _
end Go.Proofs.YthifbihmogjjpaaDoor.Pl
