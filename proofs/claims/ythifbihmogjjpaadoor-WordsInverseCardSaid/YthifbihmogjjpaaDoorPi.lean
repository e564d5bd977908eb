/-
  Plain functions: list expressions.
-/
import Derived.Test.YthifbihmogjjpaaDoorPh
import Derived.Lib.Join
namespace Go.Proofs.YthifbihmogjjpaaDoor.Pl
open Go.Lib

/-- element i -/
def el (l : List Int) (i : Nat) : Int := l[i]?.getD 0
def ascB (l : List Int) : Bool := decide (∀ j, j < l.length - 1 → el l j < el l (j + 1))
def outR (n : Int) : Bool := decide (n < 0) || decide (1000000000 < n)
/-- checkList -/
def chk (l : List Int) : Int := if 500 < l.length then 3 else if l.any outR then 7 else if ascB l then 0 else 6
theorem any_el (l : List Int) (k : Nat) (h : k < l.length) (hp : outR (el l k) = true) : l.any outR = true := by
  have e : el l k = l[k] := by unfold el; rw [List.getElem?_eq_getElem h]; rfl
  rw [e] at hp
  exact List.any_eq_true.2 ⟨l[k], List.getElem_mem h, hp⟩
theorem any_take (l : List Int) (k : Nat) (h : k < l.length) : (l.take (k + 1)).any outR = ((l.take k).any outR || outR (el l k)) := by
  have e : el l k = l[k] := by unfold el; rw [List.getElem?_eq_getElem h]; rfl
  rw [List.take_succ_eq_append_getElem h, List.any_append, e]; simp
theorem outR_el (l : List Int) (h : l.any outR = false) (k : Nat) : 0 ≤ el l k ∧ el l k ≤ 1000000000 := by
  by_cases hk : k < l.length
  · have e : el l k = l[k] := by unfold el; rw [List.getElem?_eq_getElem hk]; rfl
    have := List.any_eq_false.1 h l[k] (List.getElem_mem hk)
    rw [← e] at this
    unfold outR at this
    simp at this
    omega
  · have e : el l k = 0 := by unfold el; rw [List.getElem?_eq_none (by omega)]; rfl
    rw [e]; omega

/-- how many of r go on from p -/
def goOn (p : Int) : List Int → Nat
  | [] => 0
  | x :: r => if x = p + 1 then goOn x r + 1 else 0
theorem goOn_le (r : List Int) : ∀ p, goOn p r ≤ r.length := by
  induction r with
  | nil => intro p; exact Nat.le_refl _
  | cons x r ih =>
    intro p
    unfold goOn
    have := ih x
    split <;> simp only [List.length_cons] <;> omega
/-- spanEnd -/
def spanE (l : List Int) (a : Nat) : Nat := a + 1 + goOn (el l a) (l.drop (a + 1))
theorem drop_el (l : List Int) (k : Nat) (h : k < l.length) : l.drop k = el l k :: l.drop (k + 1) := by
  rw [List.drop_eq_getElem_cons h]; unfold el; rw [List.getElem?_eq_getElem h]; rfl
/-- on the way: the elements from a on, up to e, go on -/
theorem goOn_step (l : List Int) (e : Nat) (h : e < l.length) (he : 0 < e) (hc : el l e = el l (e - 1) + 1) : goOn (el l (e - 1)) (l.drop e) = goOn (el l e) (l.drop (e + 1)) + 1 := by
  rw [drop_el l e h, goOn, if_pos hc]
theorem goOn_stop (l : List Int) (e : Nat) (h : e < l.length) (hc : ¬ el l e = el l (e - 1) + 1) : goOn (el l (e - 1)) (l.drop e) = 0 := by
  rw [drop_el l e h, goOn, if_neg hc]
theorem goOn_end (l : List Int) (e : Nat) (h : l.length ≤ e) (p : Int) : goOn p (l.drop e) = 0 := by
  rw [List.drop_eq_nil_of_le h]; rfl
theorem goOn_last (r : List Int) : ∀ (p : Int) (l : List Int), l = p :: r → el l (goOn p r) = p + goOn p r := by
  induction r with
  | nil => intro p l h; subst h; simp [goOn, el]
  | cons x r ih =>
    intro p l h
    subst h
    unfold goOn
    split
    · rename_i hx
      have := ih x (x :: r) rfl
      have e : el (p :: x :: r) (goOn x r + 1) = el (x :: r) (goOn x r) := by simp [el]
      rw [e, this, hx]
      simp only [Int.natCast_add]
      omega
    · simp [el]
/-- a span as it is written -/
def wr2 (a b : Int) : List UInt8 := if a = b then itoa a else itoa a ++ [45] ++ itoa b
def parts' : Nat → List Int → List (List UInt8)
  | 0, _ => []
  | _ + 1, [] => []
  | f + 1, x :: r => wr2 x (x + goOn x r) :: parts' f (r.drop (goOn x r))
theorem parts'_more : ∀ (f : Nat) (l : List Int), l.length ≤ f → parts' (f + 1) l = parts' f l
  | 0, [], _ => rfl
  | 0, _ :: _, h => absurd h (by simp)
  | f + 1, [], _ => rfl
  | f + 1, x :: r, h => by
    rw [parts', parts']
    rw [parts'_more f _ (by simp at h ⊢; omega)]
theorem parts'_enough : ∀ (d f : Nat) (l : List Int), l.length ≤ f → parts' (f + d) l = parts' f l
  | 0, _, _, _ => rfl
  | d + 1, f, l, h => by rw [← Nat.add_assoc, parts'_more (f + d) l (by omega), parts'_enough d f l h]
def parts (l : List Int) : List (List UInt8) := parts' l.length l
theorem parts_cons (x : Int) (r : List Int) : parts (x :: r) = wr2 x (x + goOn x r) :: parts (r.drop (goOn x r)) := by
  unfold parts
  rw [List.length_cons, parts']
  congr 1
  have := parts'_enough (r.length - (r.drop (goOn x r)).length) (r.drop (goOn x r)).length (r.drop (goOn x r)) (Nat.le_refl _)
  rw [← this]
  congr 1
  rw [List.length_drop]; omega
theorem parts_at (l : List Int) (a : Nat) (h : a < l.length) : parts (l.drop a) = wr2 (el l a) (el l (spanE l a - 1)) :: parts (l.drop (spanE l a)) := by
  have hd := drop_el l a h
  rw [hd, parts_cons]
  have h1 := goOn_last (l.drop (a + 1)) (el l a) (l.drop a) hd
  have h2 : el (l.drop a) (goOn (el l a) (l.drop (a + 1))) = el l (spanE l a - 1) := by
    have e1 : spanE l a - 1 = a + goOn (el l a) (l.drop (a + 1)) := by unfold spanE; omega
    rw [e1]
    generalize goOn (el l a) (l.drop (a + 1)) = q
    unfold el; rw [List.getElem?_drop]
  rw [← h1, h2, List.drop_drop]; rfl
/-- List: the error, and the expression -/
def listE (l : List Int) : Int × List UInt8 := if chk l = 0 then (if l = [] then (0, [45]) else (0, join (parts l) [44])) else (chk l, [])
theorem spanE_bound (l : List Int) (a : Nat) (h : a < l.length) : a < spanE l a ∧ spanE l a ≤ l.length := by
  unfold spanE
  have := goOn_le (l.drop (a + 1)) (el l a)
  rw [List.length_drop] at this
  omega
end Go.Proofs.YthifbihmogjjpaaDoor.Pl
