/-
  Plain functions: lengths of list expressions.
-/
import Derived.Test.YthifbihmogjjpaaDoorPi
import Derived.Lib.ItoaLen
namespace Go.Proofs.YthifbihmogjjpaaDoor.Pl
open Go.Lib
theorem wr2_len (x y : Int) (x0 : 0 ≤ x) (x1 : x ≤ 1000000000) (y0 : 0 ≤ y) (y1 : y ≤ 1000000000) : (wr2 x y).length ≤ 100 := by
  have h1 := itoa_length_le x (by omega) (by omega)
  have h2 := itoa_length_le y (by omega) (by omega)
  unfold wr2
  split
  · omega
  · simp only [List.length_append, List.length_cons, List.length_nil]; omega
theorem tail_len (sep : List UInt8) (hs : sep.length ≤ 1) (r : List (List UInt8)) (h : ∀ t ∈ r, t.length ≤ 100) : (joinTail sep r).length ≤ r.length * 101 := by
  unfold joinTail
  induction r with
  | nil => simp
  | cons t r ih =>
    have h1 := h t (by simp)
    have h2 := ih (fun t' ht' => h t' (by simp [ht']))
    simp only [List.map_cons, List.flatten_cons, List.length_append, List.length_cons] at h2 ⊢
    omega
theorem join_len (ts : List (List UInt8)) (h : ∀ t ∈ ts, t.length ≤ 100) : (join ts [44]).length ≤ ts.length * 101 + 100 := by
  cases ts with
  | nil => simp [join_nil]
  | cons t r =>
    rw [join_cons]
    have h1 := h t (by simp)
    have h2 := tail_len [44] (by simp) r (fun t' ht' => h t' (by simp [ht']))
    simp only [List.length_append, List.length_cons]
    omega
end Go.Proofs.YthifbihmogjjpaaDoor.Pl
