/-
  Plain functions: the line of fields.
-/
import Derived.Test.YthifbihmogjjpaaDoorPn
namespace Go.Proofs.YthifbihmogjjpaaDoor.Pl
open Go.Lib

def bareS (l : List UInt8) : Bool := !l.isEmpty && l.all bareC
/-- how a field is written -/
def wrt (f : List UInt8 × Bool) : List UInt8 := if f.2 then quote f.1 else f.1
def okF (f : List UInt8 × Bool) : Bool := f.2 || bareS f.1
def jstep (acc : List UInt8 × Bool) (f : List UInt8 × Bool) : List UInt8 × Bool := (acc.1 ++ (if acc.2 then 32 :: wrt f else wrt f), true)
/-- the line of fields, with a space between two of them -/
def jn (fs : List (List UInt8 × Bool)) : List UInt8 := (fs.foldl jstep ([], false)).1
theorem jn_snd : ∀ (fs : List (List UInt8 × Bool)) (acc : List UInt8 × Bool), (fs.foldl jstep acc).2 = (acc.2 || decide (0 < fs.length)) := by
  intro fs
  induction fs with
  | nil => intro acc; simp
  | cons f r ih => intro acc; rw [List.foldl_cons, ih]; simp [jstep]
theorem jn_nil : jn [] = [] := rfl
theorem jn_succ (fs : List (List UInt8 × Bool)) (k : Nat) (h : k < fs.length) : jn (fs.take (k + 1)) = jn (fs.take k) ++ (if 0 < k then 32 :: wrt fs[k] else wrt fs[k]) := by
  unfold jn
  rw [List.take_succ_eq_append_getElem h, List.foldl_append]
  show _ ++ _ = _
  rw [jn_snd, List.length_take]
  by_cases hk : 0 < k
  · rw [if_pos hk, if_pos (by simp; omega)]
  · rw [if_neg hk, if_neg (by simp; omega)]
theorem quote_len (l : List UInt8) : (quote l).length ≤ 4 * l.length + 2 := by
  unfold quote
  have := qbody_len l
  simp only [List.length_cons, List.length_append, List.length_nil]
  omega
theorem wrt_len (f : List UInt8 × Bool) : (wrt f).length ≤ 4 * f.1.length + 2 := by
  unfold wrt
  split
  · exact quote_len _
  · omega
def tooF (fs : List (List UInt8 × Bool)) : Bool := decide (64 < fs.length) || fs.any fun f => decide (2000 < f.1.length)
/-- Join: the error, and the line -/
def join (fs : List (List UInt8 × Bool)) : Int × List UInt8 :=
  if tooF fs then (3, []) else if fs.all okF then (if 8192 < (jn fs).length then (3, []) else (0, jn fs)) else (6, [])
theorem okF_take (fs : List (List UInt8 × Bool)) (k : Nat) (h : k < fs.length) (ha : (fs.take k).all okF = true) (hk : okF fs[k] = true) : (fs.take (k + 1)).all okF = true := by
  rw [List.take_succ_eq_append_getElem h, List.all_append, ha]; simp [hk]
theorem okF_not (fs : List (List UInt8 × Bool)) (k : Nat) (h : k < fs.length) (hk : okF fs[k] = false) : fs.all okF = false := by
  rw [Bool.eq_false_iff]; intro ha
  have := (List.all_eq_true.1 ha) _ (List.getElem_mem h)
  rw [hk] at this; cases this
theorem tooF_no {fs : List (List UInt8 × Bool)} (h : tooF fs = false) : fs.length ≤ 64 ∧ ∀ (k : Nat) (hk : k < fs.length), fs[k].1.length ≤ 2000 := by
  unfold tooF at h
  rw [Bool.or_eq_false_iff] at h
  refine ⟨by simpa using h.1, fun k hk => ?_⟩
  have := List.any_eq_false.1 h.2 _ (List.getElem_mem hk)
  simpa using this
end Go.Proofs.YthifbihmogjjpaaDoor.Pl
