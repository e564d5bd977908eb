/-
  Plain functions, joined into one text.
-/
import Derived.Test.YticdechdgpfdfaaQb
import Derived.Laws.Rows
/-
  Contracts of Of, on both sides.
-/
namespace Go.Proofs.Yticdechdgpfdfaa.KK
open Go.ChangeShapes Go.WideShapes Go.ChangeAt Go.RowKit Go.Proofs

theorem bcell {W w1 : World} (hb : Below W.heap.size W w1) : (∀ b o, b < W.heap.size → w1.cell? ⟨b, o, none⟩ = W.cell? ⟨b, o, none⟩) ∧ (∀ b o, b < W.heap.size → w1.frozen? ⟨b, o, none⟩ = W.frozen? ⟨b, o, none⟩) :=
  ⟨fun b o h => hb.cell (p := ⟨b, o, none⟩) h, fun b o h => hb.frozen (p := ⟨b, o, none⟩) h⟩
/-- what Of answers: the range's ends, whether it is bound, and the error -/
def ofHi (l : List UInt8) : List UInt8 := if l.length ≤ 32 then (Kl.rai l).getD [] else []
def ofB (l : List UInt8) : Bool := if l.length ≤ 32 then (Kl.rai l).isSome else false
def ofLo (l : List UInt8) : List UInt8 := if l.length ≤ 32 then l else []

theorem set3 {B : Nat} {w w1 : World} {g : Nat} (h : Below B w w1) (hg : B ≤ g) (a b c : Value) : Below B w (((w1.setCell ⟨g, 0, none⟩ a).setCell ⟨g, 1, none⟩ b).setCell ⟨g, 2, none⟩ c) :=
  ((h.setCell hg _).setCell hg _).setCell hg _

end Go.Proofs.Yticdechdgpfdfaa.KK

/-
  Contracts of Meet, on both sides.
-/
namespace Go.Proofs.Yticdechdgpfdfaa.KK
open Go.ChangeShapes Go.WideShapes Go.ChangeAt Go.RowKit Go.Proofs

def mErr (lo hi : ByteArray) (b : Bool) (lo2 hi2 : ByteArray) (b2 : Bool) : Int := if chkR lo hi b ≠ 0 then chkR lo hi b else chkR lo2 hi2 b2
def mLo (lo lo2 : ByteArray) : ByteArray := if Kl.lt (Kl.L lo) (Kl.L lo2) then lo2 else lo
def mTake (hi : ByteArray) (b : Bool) (hi2 : ByteArray) (b2 : Bool) : Bool := b2 && (!b || Kl.lt (Kl.L hi2) (Kl.L hi))
def mHi (hi : ByteArray) (b : Bool) (hi2 : ByteArray) (b2 : Bool) : ByteArray := if mTake hi b hi2 b2 then hi2 else hi
def mB (hi : ByteArray) (b : Bool) (hi2 : ByteArray) (b2 : Bool) : Bool := if mTake hi b hi2 b2 then true else b
/-- the range that Meet answers -/
def meetV (lo hi : ByteArray) (b : Bool) (lo2 hi2 : ByteArray) (b2 : Bool) : ByteArray × ByteArray × Bool :=
  if mErr lo hi b lo2 hi2 b2 = 0 then (mLo lo lo2, mHi hi b hi2 b2, mB hi b hi2 b2) else (⟨#[]⟩, ⟨#[]⟩, false)
theorem max_run (lo lo2 : ByteArray) : ∀ (w : World) (ts : Array TypeId) (t : TypeId), (Builtin.max_ ts t #[.string lo, .string lo2]).run Try.prog w = .ok (.string (mLo lo lo2)) w := by
  intro w ts t
  rw [Lib.run_max_strs]
  unfold Lib.maxS mLo
  by_cases h : lo.data.toList < lo2.data.toList
  · rw [if_pos h, if_pos (show Kl.lt (Kl.L lo) (Kl.L lo2) = true from (Kl.lt_iff _ _).1 h)]
  · rw [if_neg h, if_neg (show ¬ Kl.lt (Kl.L lo) (Kl.L lo2) = true from fun g => h ((Kl.lt_iff _ _).2 g))]

end Go.Proofs.Yticdechdgpfdfaa.KK

/-
  The contract of the reference's Meet, where both ranges are ranges.
-/
namespace Go.Proofs.Yticdechdgpfdfaa.KK
open Go.ChangeShapes Go.WideShapes Go.ChangeAt Go.RowKit Go.Proofs

theorem row3 {w : World} {g : Nat} {a b c : Value} {t : TypeId} (h : w.heap[g]? = some (.cells #[a, b, c] t (0, 0))) :
    w.cell? ⟨g, 0, none⟩ = some a ∧ w.cell? ⟨g, 1, none⟩ = some b ∧ w.cell? ⟨g, 2, none⟩ = some c ∧ w.frozen? ⟨g, 0, none⟩ = false ∧ w.frozen? ⟨g, 1, none⟩ = false ∧ w.frozen? ⟨g, 2, none⟩ = false :=
  ⟨cell_of_row w g 0 _ _ _ h, cell_of_row w g 1 _ _ _ h, cell_of_row w g 2 _ _ _ h, frozen_of_row w g 0 _ _ h, frozen_of_row w g 1 _ _ h, frozen_of_row w g 2 _ _ h⟩
theorem lt_of_row {w : World} {g : Nat} {o : Obj} (h : w.heap[g]? = some o) : g < w.heap.size := (Array.getElem?_eq_some_iff.1 h).1
theorem row_below {w w1 : World} {g : Nat} {o : Obj} (h : w.heap[g]? = some o) (hb : Below w.heap.size w w1) : w1.heap[g]? = some o := by
  rw [hb.block g (lt_of_row h)]; exact h
theorem row_old {w w1 : World} {g : Nat} {o o' : Obj} (h : w.heap[g]? = some o) (hb : Below (w.alloc o').heap.size (w.alloc o') w1) : w1.heap[g]? = some o := by
  have hl := lt_of_row h
  rw [hb.block g (by simp; omega), ((Below.refl w.heap.size w).alloc (Nat.le_refl _) o').block g hl]; exact h
theorem row_new {w w1 : World} {cs : Array Value} {t : TypeId} {fr : Nat × Nat} (hb : Below (w.alloc (.cells cs t fr)).heap.size (w.alloc (.cells cs t fr)) w1) : w1.heap[w.heap.size]? = some (.cells cs t fr) := by
  rw [hb.block w.heap.size (by simp)]; exact heap_alloc_new w _
theorem rows3 {w w1 : World} {r s z : Obj} (hb : Below (((w.alloc r).alloc s).alloc z).heap.size (((w.alloc r).alloc s).alloc z) w1) :
    w1.heap[w.heap.size]? = some r ∧ w1.heap[w.heap.size + 1]? = some s ∧ w1.heap[w.heap.size + 1 + 1]? = some z := by
  have h0 := heap_alloc_new w r
  have h1 := heap_alloc_new (w.alloc r) s
  have h2 := heap_alloc_new ((w.alloc r).alloc s) z
  rw [show (w.alloc r).heap.size = w.heap.size + 1 by simp] at h1
  rw [show ((w.alloc r).alloc s).heap.size = w.heap.size + 1 + 1 by simp] at h2
  have a0 := row_below h0 ((Below.refl _ _).alloc (Nat.le_refl _) s)
  have a1 := row_below a0 ((Below.refl _ _).alloc (Nat.le_refl _) z)
  have b1 := row_below h1 ((Below.refl _ _).alloc (Nat.le_refl _) z)
  exact ⟨row_below a1 hb, row_below b1 hb, row_below h2 hb⟩

end Go.Proofs.Yticdechdgpfdfaa.KK
