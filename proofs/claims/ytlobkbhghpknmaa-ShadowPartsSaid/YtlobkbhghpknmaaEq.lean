/-
  Contracts of Go's cmp.Compare, at int and int64.
-/
import Derived.Test.YtlobkbhghpknmaaKa
namespace Go.Proofs.Ytlobkbhghpknmaa.KK
open Go.ChangeShapes Go.WideShapes Go.ChangeAt Go.RowKit Go.Proofs

/-- how two numbers compare -/
def cmp3 (x y : Int) : Int := if x < y then -1 else if y < x then 1 else 0

end Go.Proofs.Ytlobkbhghpknmaa.KK
