/-
  No cell of these rows narrows 'for every input' (looked for: loops, veiled, ifaces, maps, wideKeys, modest, calm, conditions, laid).
  DERIVED. THE GIVEN ROWS OF THIS SEAT. 8 by the template 'for every input the law returns true; each argument reads behind the call as it read before'; 0 by the template 'total and deterministic' (their statements: YtggmnhlfgjjgaaaTotals.lean).
  GIVEN WITH THE SEED: the statements are not yours to turn. If you find one false, say at which input.
  Laid BY PROGRAM, IN A SANDBOX (cutbox-rows.mjs): the forced cells as the released guide's own fill.sh prints them over the translation 68d5bbb5d7e4e389… (all of the seat's roots in one cut). By AI agents, Wed Nov 11 2026. No macro, syntax, notation, axiom, sorry.
-/
import Derived.Test.YtggmnhlfgjjgaaaChecked
import GoSem.Claim
import GoSem.ClaimJoined
import GoSem.ClaimMapViews
import Derived.JoinedTies
import Derived.KernelRfl
namespace Go.Proofs.Ytggmnhlfgjjgaaa
/- THE CELL 'sum', in the pinned program and in every row, IS THE sha256 OF THE DUMP (.gsa) THAT YtggmnhlfgjjgaaaProg.lean LOADS. Nothing in Lean hashes anything: it is a label: what it is worth is what the hold of that sum in a sandbox is worth. -/
noncomputable def Try.pinned : Pinned := { name := "ytggmnhlfgjjgaaa", sum := "68d5bbb5d7e4e389111123d39ddcc3abe39424142d734fd89dcc4e02e3579eaf", checked := Try.checked }
namespace Rows
def none {H : Type} : Left H := { results := [], args := [] }

/-- 'bookendlaw11.MergeBegins': WHATEVER THE INPUT: true; the input reads as it did. -/
def mergeBeginsSpec : ChangeSpec := { name := "mergeBegins", fn := fun _ => fun
  | [d] => { results := [.lit (.bool true)], args := [d] }
  | _ => none }
def mergeBeginsRow : OpenClaim := { program := "ytggmnhlfgjjgaaa", sum := "68d5bbb5d7e4e389111123d39ddcc3abe39424142d734fd89dcc4e02e3579eaf", func := "bookend/bookendlaw11.MergeBegins", spec := "mergeBegins", inPlace := ["internal/bytealg.abigen_runtime_cmpstring"], unfollowed := true, recurses := true, apart := false }
def MergeBeginsSaid : Prop := mergeBeginsRow.holds Try.pinned (OpenSpec.ofChange mergeBeginsSpec)

/-- ITS FALSE NEIGHBOUR: 'it returns false'. Refute it at one input. -/
def mergeBeginsWrong : ChangeSpec := { name := "mergeBegins", fn := fun _ => fun
  | [d] => { results := [.lit (.bool false)], args := [d] }
  | _ => none }
def MergeBeginsWrongFalsely : Prop := mergeBeginsRow.holds Try.pinned (OpenSpec.ofChange mergeBeginsWrong)

/-- 'bookendlaw11.MergeStates': WHATEVER THE INPUT: true; the input reads as it did. -/
def mergeStatesSpec : ChangeSpec := { name := "mergeStates", fn := fun _ => fun
  | [d1, d2] => { results := [.lit (.bool true)], args := [d1, d2] }
  | _ => none }
def mergeStatesRow : OpenClaim := { program := "ytggmnhlfgjjgaaa", sum := "68d5bbb5d7e4e389111123d39ddcc3abe39424142d734fd89dcc4e02e3579eaf", func := "bookend/bookendlaw11.MergeStates", spec := "mergeStates", inPlace := ["internal/bytealg.abigen_runtime_cmpstring"], unfollowed := true, recurses := true, apart := false }
def MergeStatesSaid : Prop := mergeStatesRow.holds Try.pinned (OpenSpec.ofChange mergeStatesSpec)

/-- ITS FALSE NEIGHBOUR: 'it returns false'. Refute it at one input. -/
def mergeStatesWrong : ChangeSpec := { name := "mergeStates", fn := fun _ => fun
  | [d1, d2] => { results := [.lit (.bool false)], args := [d1, d2] }
  | _ => none }
def MergeStatesWrongFalsely : Prop := mergeStatesRow.holds Try.pinned (OpenSpec.ofChange mergeStatesWrong)

/-- 'bookendlaw11.MergeGoes': WHATEVER THE INPUT: true; the input reads as it did. -/
def mergeGoesSpec : ChangeSpec := { name := "mergeGoes", fn := fun _ => fun
  | [d1, d2] => { results := [.lit (.bool true)], args := [d1, d2] }
  | _ => none }
def mergeGoesRow : OpenClaim := { program := "ytggmnhlfgjjgaaa", sum := "68d5bbb5d7e4e389111123d39ddcc3abe39424142d734fd89dcc4e02e3579eaf", func := "bookend/bookendlaw11.MergeGoes", spec := "mergeGoes", inPlace := ["internal/bytealg.abigen_runtime_cmpstring"], unfollowed := true, recurses := true, apart := false }
def MergeGoesSaid : Prop := mergeGoesRow.holds Try.pinned (OpenSpec.ofChange mergeGoesSpec)

/-- ITS FALSE NEIGHBOUR: 'it returns false'. Refute it at one input. -/
def mergeGoesWrong : ChangeSpec := { name := "mergeGoes", fn := fun _ => fun
  | [d1, d2] => { results := [.lit (.bool false)], args := [d1, d2] }
  | _ => none }
def MergeGoesWrongFalsely : Prop := mergeGoesRow.holds Try.pinned (OpenSpec.ofChange mergeGoesWrong)

/-- 'bookendlaw11.MergeOrders': WHATEVER THE INPUT: true; the input reads as it did. -/
def mergeOrdersSpec : ChangeSpec := { name := "mergeOrders", fn := fun _ => fun
  | [d] => { results := [.lit (.bool true)], args := [d] }
  | _ => none }
def mergeOrdersRow : OpenClaim := { program := "ytggmnhlfgjjgaaa", sum := "68d5bbb5d7e4e389111123d39ddcc3abe39424142d734fd89dcc4e02e3579eaf", func := "bookend/bookendlaw11.MergeOrders", spec := "mergeOrders", inPlace := ["internal/bytealg.abigen_runtime_cmpstring"], unfollowed := true, recurses := true, apart := false }
def MergeOrdersSaid : Prop := mergeOrdersRow.holds Try.pinned (OpenSpec.ofChange mergeOrdersSpec)

/-- ITS FALSE NEIGHBOUR: 'it returns false'. Refute it at one input. -/
def mergeOrdersWrong : ChangeSpec := { name := "mergeOrders", fn := fun _ => fun
  | [d] => { results := [.lit (.bool false)], args := [d] }
  | _ => none }
def MergeOrdersWrongFalsely : Prop := mergeOrdersRow.holds Try.pinned (OpenSpec.ofChange mergeOrdersWrong)

/-- 'bookendlaw11.MergeSkips': WHATEVER THE INPUT: true; the input reads as it did. -/
def mergeSkipsSpec : ChangeSpec := { name := "mergeSkips", fn := fun _ => fun
  | [d1, d2] => { results := [.lit (.bool true)], args := [d1, d2] }
  | _ => none }
def mergeSkipsRow : OpenClaim := { program := "ytggmnhlfgjjgaaa", sum := "68d5bbb5d7e4e389111123d39ddcc3abe39424142d734fd89dcc4e02e3579eaf", func := "bookend/bookendlaw11.MergeSkips", spec := "mergeSkips", inPlace := ["internal/bytealg.abigen_runtime_cmpstring"], unfollowed := true, recurses := true, apart := false }
def MergeSkipsSaid : Prop := mergeSkipsRow.holds Try.pinned (OpenSpec.ofChange mergeSkipsSpec)

/-- ITS FALSE NEIGHBOUR: 'it returns false'. Refute it at one input. -/
def mergeSkipsWrong : ChangeSpec := { name := "mergeSkips", fn := fun _ => fun
  | [d1, d2] => { results := [.lit (.bool false)], args := [d1, d2] }
  | _ => none }
def MergeSkipsWrongFalsely : Prop := mergeSkipsRow.holds Try.pinned (OpenSpec.ofChange mergeSkipsWrong)

/-- 'bookendlaw11.MergeOwn': WHATEVER THE INPUT: true; the input reads as it did. -/
def mergeOwnSpec : ChangeSpec := { name := "mergeOwn", fn := fun _ => fun
  | [d1, d2] => { results := [.lit (.bool true)], args := [d1, d2] }
  | _ => none }
def mergeOwnRow : OpenClaim := { program := "ytggmnhlfgjjgaaa", sum := "68d5bbb5d7e4e389111123d39ddcc3abe39424142d734fd89dcc4e02e3579eaf", func := "bookend/bookendlaw11.MergeOwn", spec := "mergeOwn", inPlace := ["internal/bytealg.abigen_runtime_cmpstring"], unfollowed := true, recurses := true, apart := false }
def MergeOwnSaid : Prop := mergeOwnRow.holds Try.pinned (OpenSpec.ofChange mergeOwnSpec)

/-- ITS FALSE NEIGHBOUR: 'it returns false'. Refute it at one input. -/
def mergeOwnWrong : ChangeSpec := { name := "mergeOwn", fn := fun _ => fun
  | [d1, d2] => { results := [.lit (.bool false)], args := [d1, d2] }
  | _ => none }
def MergeOwnWrongFalsely : Prop := mergeOwnRow.holds Try.pinned (OpenSpec.ofChange mergeOwnWrong)

/-- 'bookendlaw10.LoserMerges': WHATEVER THE INPUT: true; the input reads as it did. -/
def loserMergesSpec : ChangeSpec := { name := "loserMerges", fn := fun _ => fun
  | [d] => { results := [.lit (.bool true)], args := [d] }
  | _ => none }
def loserMergesRow : OpenClaim := { program := "ytggmnhlfgjjgaaa", sum := "68d5bbb5d7e4e389111123d39ddcc3abe39424142d734fd89dcc4e02e3579eaf", func := "bookend/bookendlaw10.LoserMerges", spec := "loserMerges", inPlace := ["internal/bytealg.abigen_runtime_cmpstring"], unfollowed := true, recurses := true, apart := false }
def LoserMergesSaid : Prop := loserMergesRow.holds Try.pinned (OpenSpec.ofChange loserMergesSpec)

/-- ITS FALSE NEIGHBOUR: 'it returns false'. Refute it at one input. -/
def loserMergesWrong : ChangeSpec := { name := "loserMerges", fn := fun _ => fun
  | [d] => { results := [.lit (.bool false)], args := [d] }
  | _ => none }
def LoserMergesWrongFalsely : Prop := loserMergesRow.holds Try.pinned (OpenSpec.ofChange loserMergesWrong)

/-- 'bookendlaw10.LoserOwn': WHATEVER THE INPUT: true; the input reads as it did. -/
def loserOwnSpec : ChangeSpec := { name := "loserOwn", fn := fun _ => fun
  | [d1, d2] => { results := [.lit (.bool true)], args := [d1, d2] }
  | _ => none }
def loserOwnRow : OpenClaim := { program := "ytggmnhlfgjjgaaa", sum := "68d5bbb5d7e4e389111123d39ddcc3abe39424142d734fd89dcc4e02e3579eaf", func := "bookend/bookendlaw10.LoserOwn", spec := "loserOwn", inPlace := ["internal/bytealg.abigen_runtime_cmpstring"], unfollowed := true, recurses := true, apart := false }
def LoserOwnSaid : Prop := loserOwnRow.holds Try.pinned (OpenSpec.ofChange loserOwnSpec)

/-- ITS FALSE NEIGHBOUR: 'it returns false'. Refute it at one input. -/
def loserOwnWrong : ChangeSpec := { name := "loserOwn", fn := fun _ => fun
  | [d1, d2] => { results := [.lit (.bool false)], args := [d1, d2] }
  | _ => none }
def LoserOwnWrongFalsely : Prop := loserOwnRow.holds Try.pinned (OpenSpec.ofChange loserOwnWrong)

/- THE SECOND FORM. 'bulk': how many values and letters a reading holds, each counted each time it is reached (what is shared counts as often as it is met; a slice's spare places count too). A statement '..UptoSaid' is the law's where the arguments, and the package variables that the reading takes, are together of bulk at most 1048576: NARROWER than '..Said'. Prove '..Said' where nothing that the law and all that it calls make is longer than what came in: it says more and counts as full. Else prove '..UptoSaid'. A law counts once. -/
mutual
def uptoBulk {H : Type} : DataW H → Nat
  | .lit (.string bytes) => bytes.length + 1
  | .lit _ => 1
  | .nil => 1
  | .ptr d => uptoBulk d + 1
  | .slice elems spare => uptoBulkAll elems + uptoBulkAll spare + 1
  | .agg parts => uptoBulkAll parts + 1
  | .iface _ d => uptoBulk d + 1
  | .map entries => uptoBulkEntries entries + 1
  | .held _ => 1
def uptoBulkAll {H : Type} : List (DataW H) → Nat
  | [] => 0
  | d :: r => uptoBulk d + uptoBulkAll r
def uptoBulkEntries {H : Type} : List (Lit × DataW H) → Nat
  | [] => 0
  | x :: r => uptoBulkEntry x + uptoBulkEntries r
def uptoBulkEntry {H : Type} : Lit × DataW H → Nat
  | (.string bytes, d) => bytes.length + uptoBulk d + 1
  | (_, d) => uptoBulk d + 1
 end
def uptoSmall : (H : Type) → List (DataW H) → Bool := fun _ ds => decide (uptoBulkAll ds ≤ 1048576)
def OpenSpec.upto (s : _root_.Go.ChangeSpec) : _root_.Go.OpenSpec := { _root_.Go.OpenSpec.ofChange s with cond := some uptoSmall }

/-- 'bookendlaw11.MergeBegins', WHERE WHAT IT READS IS OF BULK AT MOST 1048576: true; the input reads as it did. -/
def mergeBeginsUptoRow : OpenClaim := { program := "ytggmnhlfgjjgaaa", sum := "68d5bbb5d7e4e389111123d39ddcc3abe39424142d734fd89dcc4e02e3579eaf", func := "bookend/bookendlaw11.MergeBegins", spec := "mergeBegins", inPlace := ["internal/bytealg.abigen_runtime_cmpstring"], unfollowed := true, recurses := true, apart := false, narrowed := true }
def MergeBeginsUptoSaid : Prop := mergeBeginsUptoRow.holds Try.pinned (OpenSpec.upto mergeBeginsSpec)

/-- 'bookendlaw11.MergeStates', WHERE WHAT IT READS IS OF BULK AT MOST 1048576: true; the input reads as it did. -/
def mergeStatesUptoRow : OpenClaim := { program := "ytggmnhlfgjjgaaa", sum := "68d5bbb5d7e4e389111123d39ddcc3abe39424142d734fd89dcc4e02e3579eaf", func := "bookend/bookendlaw11.MergeStates", spec := "mergeStates", inPlace := ["internal/bytealg.abigen_runtime_cmpstring"], unfollowed := true, recurses := true, apart := false, narrowed := true }
def MergeStatesUptoSaid : Prop := mergeStatesUptoRow.holds Try.pinned (OpenSpec.upto mergeStatesSpec)

/-- 'bookendlaw11.MergeGoes', WHERE WHAT IT READS IS OF BULK AT MOST 1048576: true; the input reads as it did. -/
def mergeGoesUptoRow : OpenClaim := { program := "ytggmnhlfgjjgaaa", sum := "68d5bbb5d7e4e389111123d39ddcc3abe39424142d734fd89dcc4e02e3579eaf", func := "bookend/bookendlaw11.MergeGoes", spec := "mergeGoes", inPlace := ["internal/bytealg.abigen_runtime_cmpstring"], unfollowed := true, recurses := true, apart := false, narrowed := true }
def MergeGoesUptoSaid : Prop := mergeGoesUptoRow.holds Try.pinned (OpenSpec.upto mergeGoesSpec)

/-- 'bookendlaw11.MergeOrders', WHERE WHAT IT READS IS OF BULK AT MOST 1048576: true; the input reads as it did. -/
def mergeOrdersUptoRow : OpenClaim := { program := "ytggmnhlfgjjgaaa", sum := "68d5bbb5d7e4e389111123d39ddcc3abe39424142d734fd89dcc4e02e3579eaf", func := "bookend/bookendlaw11.MergeOrders", spec := "mergeOrders", inPlace := ["internal/bytealg.abigen_runtime_cmpstring"], unfollowed := true, recurses := true, apart := false, narrowed := true }
def MergeOrdersUptoSaid : Prop := mergeOrdersUptoRow.holds Try.pinned (OpenSpec.upto mergeOrdersSpec)

/-- 'bookendlaw11.MergeSkips', WHERE WHAT IT READS IS OF BULK AT MOST 1048576: true; the input reads as it did. -/
def mergeSkipsUptoRow : OpenClaim := { program := "ytggmnhlfgjjgaaa", sum := "68d5bbb5d7e4e389111123d39ddcc3abe39424142d734fd89dcc4e02e3579eaf", func := "bookend/bookendlaw11.MergeSkips", spec := "mergeSkips", inPlace := ["internal/bytealg.abigen_runtime_cmpstring"], unfollowed := true, recurses := true, apart := false, narrowed := true }
def MergeSkipsUptoSaid : Prop := mergeSkipsUptoRow.holds Try.pinned (OpenSpec.upto mergeSkipsSpec)

/-- 'bookendlaw11.MergeOwn', WHERE WHAT IT READS IS OF BULK AT MOST 1048576: true; the input reads as it did. -/
def mergeOwnUptoRow : OpenClaim := { program := "ytggmnhlfgjjgaaa", sum := "68d5bbb5d7e4e389111123d39ddcc3abe39424142d734fd89dcc4e02e3579eaf", func := "bookend/bookendlaw11.MergeOwn", spec := "mergeOwn", inPlace := ["internal/bytealg.abigen_runtime_cmpstring"], unfollowed := true, recurses := true, apart := false, narrowed := true }
def MergeOwnUptoSaid : Prop := mergeOwnUptoRow.holds Try.pinned (OpenSpec.upto mergeOwnSpec)

/-- 'bookendlaw10.LoserMerges', WHERE WHAT IT READS IS OF BULK AT MOST 1048576: true; the input reads as it did. -/
def loserMergesUptoRow : OpenClaim := { program := "ytggmnhlfgjjgaaa", sum := "68d5bbb5d7e4e389111123d39ddcc3abe39424142d734fd89dcc4e02e3579eaf", func := "bookend/bookendlaw10.LoserMerges", spec := "loserMerges", inPlace := ["internal/bytealg.abigen_runtime_cmpstring"], unfollowed := true, recurses := true, apart := false, narrowed := true }
def LoserMergesUptoSaid : Prop := loserMergesUptoRow.holds Try.pinned (OpenSpec.upto loserMergesSpec)

/-- 'bookendlaw10.LoserOwn', WHERE WHAT IT READS IS OF BULK AT MOST 1048576: true; the input reads as it did. -/
def loserOwnUptoRow : OpenClaim := { program := "ytggmnhlfgjjgaaa", sum := "68d5bbb5d7e4e389111123d39ddcc3abe39424142d734fd89dcc4e02e3579eaf", func := "bookend/bookendlaw10.LoserOwn", spec := "loserOwn", inPlace := ["internal/bytealg.abigen_runtime_cmpstring"], unfollowed := true, recurses := true, apart := false, narrowed := true }
def LoserOwnUptoSaid : Prop := loserOwnUptoRow.holds Try.pinned (OpenSpec.upto loserOwnSpec)

end Rows
end Go.Proofs.Ytggmnhlfgjjgaaa
