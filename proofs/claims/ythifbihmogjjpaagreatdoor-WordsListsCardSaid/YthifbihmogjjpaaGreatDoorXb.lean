/-
  Contracts of the reference's hex, escaped and Quote.
-/
import Derived.Test.YthifbihmogjjpaaGreatDoorXa
import Derived.Lib.AppendStr
namespace Go.Proofs.YthifbihmogjjpaaGreatDoor
open Go.ChangeShapes Go.WideShapes Go.ChangeAt Go.RowKit Go.Proofs

theorem conv_two (w : World) (a b : UInt8) :
    (convert 68 9 (.slice (some ⟨w.heap.size, 0, none⟩) 2 2)).run Tryz.prog (w.alloc (.cells #[.int .u8 (a.toNat : Int), .int .u8 (b.toNat : Int)] 5)) = .ok (.string ⟨[a, b].toArray⟩) (w.alloc (.cells #[.int .u8 (a.toNat : Int), .int .u8 (b.toNat : Int)] 5)) :=
  conv_own (base := 0) (t := [a, b]) (World.ownsRow_lit w #[.int .u8 (a.toNat : Int), .int .u8 (b.toNat : Int)] 2 (Nat.zero_le _) (by decide) rfl)

end Go.Proofs.YthifbihmogjjpaaGreatDoor
