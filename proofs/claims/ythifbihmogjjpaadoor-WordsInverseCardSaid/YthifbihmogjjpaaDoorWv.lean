/-
  The contract of the reference's Digits.
-/
import Derived.Test.YthifbihmogjjpaaDoorPm
import Derived.Test.YthifbihmogjjpaaDoorWo
import Derived.Deep.RegionHeld3
import Derived.Deep.AppendLies
import Derived.OwnWalk
namespace Go.Proofs.YthifbihmogjjpaaDoor
open Go.ChangeShapes Go.WideShapes Go.ChangeAt Go.RowKit Go.Proofs

/-- string([]byte{c}) -/
theorem conv_at (w : World) (B : Nat) (m : Int) (c : UInt8) (hm : m = c.toNat) (h : w.cell? ⟨B, 0, none⟩ = some (.int .u8 m)) :
    (convert 29 9 (.slice (some ⟨B, 0, none⟩) 1 1)).run Tryd.prog w = .ok (.string ⟨[c].toArray⟩) w := by
  subst hm
  rw [run_convert_bytes_arg _ _ _ Tryd.underlying29 Tryd.underlying5 B 0 1 1 [(c.toNat : Int)] rfl (fun i hi => ?_) _ Tryd.underlying9]
  · exact congrArg (fun t => Result.ok (Value.string t) _) (str_nums [c])
  · have : i = 0 := by simpa using hi
    subst this
    exact h
theorem cell_new (w : World) (m : Value) (t : TypeId) : (w.alloc (.cells #[m] t)).cell? ⟨w.heap.size, 0, none⟩ = some m :=
  World.news_of_block (cs := #[m]) (t := t) (fr := (0, 0)) (heap_alloc_new w _) 0 _ rfl
theorem conv_new (w : World) (m : Int) (c : UInt8) (hm : m = c.toNat) :
    (convert 29 9 (.slice (some ⟨w.heap.size, 0, none⟩) 1 1)).run Tryd.prog (w.alloc (.cells #[.int .u8 m] 5)) = .ok (.string ⟨[c].toArray⟩) (w.alloc (.cells #[.int .u8 m] 5)) :=
  conv_at _ _ m c hm (cell_new _ _ _)


theorem undrew {w w1 : World} (h : Below w.drew.heap.size w.drew w1) : Below w.heap.size w w1 := ⟨h.os, h.tape, h.output, h.size, h.block⟩
def digM (n : Int) : Nat := 2 * n.natAbs + (if n < 0 then 1 else 0)
theorem bytes_app (a b : List UInt8) : (⟨a.toArray⟩ : ByteArray) ++ ⟨b.toArray⟩ = ⟨(a ++ b).toArray⟩ := by
  apply ByteArray.ext; simp


end Go.Proofs.YthifbihmogjjpaaDoor
