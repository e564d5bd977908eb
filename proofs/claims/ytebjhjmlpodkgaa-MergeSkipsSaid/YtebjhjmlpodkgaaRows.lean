/-
  No cell of these rows narrows 'for every input' (looked for: loops, veiled, ifaces, maps, wideKeys, modest, calm, conditions, laid).
  DERIVED. THE GIVEN ROWS OF THIS SEAT. 10 by the template 'for every input the law returns true; each argument reads behind the call as it read before'; 0 by the template 'total and deterministic' (their statements: YtebjhjmlpodkgaaTotals.lean).
  GIVEN WITH THE SEED: the statements are not yours to turn. If you find one false, say at which input.
  Laid BY PROGRAM, IN A SANDBOX (cutbox-rows.mjs): the forced cells as the released guide's own fill.sh prints them over the translation 8c85609a9bbfab40… (all of the seat's roots in one cut). By AI agents, Wed Nov 11 2026. No macro, syntax, notation, axiom, sorry.
-/
import Derived.Test.YtebjhjmlpodkgaaChecked
import GoSem.Claim
import GoSem.ClaimJoined
import GoSem.ClaimMapViews
import Derived.JoinedTies
import Derived.KernelRfl
namespace Go.Proofs.Ytebjhjmlpodkgaa
/- THE CELL 'sum', in the pinned program and in every row, IS THE sha256 OF THE DUMP (.gsa) THAT YtebjhjmlpodkgaaProg.lean LOADS. Nothing in Lean hashes anything: it is a label: what it is worth is what the hold of that sum in a sandbox is worth. -/
noncomputable def Try.pinned : Pinned := { name := "ytebjhjmlpodkgaa", sum := "8c85609a9bbfab40b88f6391404c6dd7de38f73751a5b8e458c0869e994a5e40", checked := Try.checked }
namespace Rows
def none {H : Type} : Left H := { results := [], args := [] }

/-- 'bookendlaw11.MergeBegins': WHATEVER THE INPUT: true; the input reads as it did. -/
def mergeBeginsSpec : ChangeSpec := { name := "mergeBegins", fn := fun _ => fun
  | [d] => { results := [.lit (.bool true)], args := [d] }
  | _ => none }
def mergeBeginsRow : OpenClaim := { program := "ytebjhjmlpodkgaa", sum := "8c85609a9bbfab40b88f6391404c6dd7de38f73751a5b8e458c0869e994a5e40", func := "bookend/bookendlaw11.MergeBegins", spec := "mergeBegins", inPlace := ["internal/bytealg.abigen_runtime_cmpstring"], unfollowed := true, recurses := true, apart := false }
def MergeBeginsSaid : Prop := mergeBeginsRow.holds Try.pinned (OpenSpec.ofChange mergeBeginsSpec)

/-- ITS FALSE NEIGHBOUR: 'it returns false'. Refute it at one input. -/
def mergeBeginsWrong : ChangeSpec := { name := "mergeBegins", fn := fun _ => fun
  | [d] => { results := [.lit (.bool false)], args := [d] }
  | _ => none }
def MergeBeginsWrongFalsely : Prop := mergeBeginsRow.holds Try.pinned (OpenSpec.ofChange mergeBeginsWrong)

/-- 'bookendlaw11.MergeStates': WHATEVER THE INPUT: true; the input reads as it did. -/
def mergeStatesSpec : ChangeSpec := { name := "mergeStates", fn := fun _ => fun
  | [d1, d2] => { results := [.lit (.bool true)], args := [d1, d2] }
  | _ => none }
def mergeStatesRow : OpenClaim := { program := "ytebjhjmlpodkgaa", sum := "8c85609a9bbfab40b88f6391404c6dd7de38f73751a5b8e458c0869e994a5e40", func := "bookend/bookendlaw11.MergeStates", spec := "mergeStates", inPlace := ["internal/bytealg.abigen_runtime_cmpstring"], unfollowed := true, recurses := true, apart := false }
def MergeStatesSaid : Prop := mergeStatesRow.holds Try.pinned (OpenSpec.ofChange mergeStatesSpec)

/-- ITS FALSE NEIGHBOUR: 'it returns false'. Refute it at one input. -/
def mergeStatesWrong : ChangeSpec := { name := "mergeStates", fn := fun _ => fun
  | [d1, d2] => { results := [.lit (.bool false)], args := [d1, d2] }
  | _ => none }
def MergeStatesWrongFalsely : Prop := mergeStatesRow.holds Try.pinned (OpenSpec.ofChange mergeStatesWrong)

/-- 'bookendlaw11.MergeGoes': WHATEVER THE INPUT: true; the input reads as it did. -/
def mergeGoesSpec : ChangeSpec := { name := "mergeGoes", fn := fun _ => fun
  | [d1, d2] => { results := [.lit (.bool true)], args := [d1, d2] }
  | _ => none }
def mergeGoesRow : OpenClaim := { program := "ytebjhjmlpodkgaa", sum := "8c85609a9bbfab40b88f6391404c6dd7de38f73751a5b8e458c0869e994a5e40", func := "bookend/bookendlaw11.MergeGoes", spec := "mergeGoes", inPlace := ["internal/bytealg.abigen_runtime_cmpstring"], unfollowed := true, recurses := true, apart := false }
def MergeGoesSaid : Prop := mergeGoesRow.holds Try.pinned (OpenSpec.ofChange mergeGoesSpec)

/-- ITS FALSE NEIGHBOUR: 'it returns false'. Refute it at one input. -/
def mergeGoesWrong : ChangeSpec := { name := "mergeGoes", fn := fun _ => fun
  | [d1, d2] => { results := [.lit (.bool false)], args := [d1, d2] }
  | _ => none }
def MergeGoesWrongFalsely : Prop := mergeGoesRow.holds Try.pinned (OpenSpec.ofChange mergeGoesWrong)

/-- 'bookendlaw11.MergeOrders': WHATEVER THE INPUT: true; the input reads as it did. -/
def mergeOrdersSpec : ChangeSpec := { name := "mergeOrders", fn := fun _ => fun
  | [d] => { results := [.lit (.bool true)], args := [d] }
  | _ => none }
def mergeOrdersRow : OpenClaim := { program := "ytebjhjmlpodkgaa", sum := "8c85609a9bbfab40b88f6391404c6dd7de38f73751a5b8e458c0869e994a5e40", func := "bookend/bookendlaw11.MergeOrders", spec := "mergeOrders", inPlace := ["internal/bytealg.abigen_runtime_cmpstring"], unfollowed := true, recurses := true, apart := false }
def MergeOrdersSaid : Prop := mergeOrdersRow.holds Try.pinned (OpenSpec.ofChange mergeOrdersSpec)

/-- ITS FALSE NEIGHBOUR: 'it returns false'. Refute it at one input. -/
def mergeOrdersWrong : ChangeSpec := { name := "mergeOrders", fn := fun _ => fun
  | [d] => { results := [.lit (.bool false)], args := [d] }
  | _ => none }
def MergeOrdersWrongFalsely : Prop := mergeOrdersRow.holds Try.pinned (OpenSpec.ofChange mergeOrdersWrong)

/-- 'bookendlaw11.MergeSkips': WHATEVER THE INPUT: true; the input reads as it did. -/
def mergeSkipsSpec : ChangeSpec := { name := "mergeSkips", fn := fun _ => fun
  | [d1, d2] => { results := [.lit (.bool true)], args := [d1, d2] }
  | _ => none }
def mergeSkipsRow : OpenClaim := { program := "ytebjhjmlpodkgaa", sum := "8c85609a9bbfab40b88f6391404c6dd7de38f73751a5b8e458c0869e994a5e40", func := "bookend/bookendlaw11.MergeSkips", spec := "mergeSkips", inPlace := ["internal/bytealg.abigen_runtime_cmpstring"], unfollowed := true, recurses := true, apart := false }
def MergeSkipsSaid : Prop := mergeSkipsRow.holds Try.pinned (OpenSpec.ofChange mergeSkipsSpec)

/-- ITS FALSE NEIGHBOUR: 'it returns false'. Refute it at one input. -/
def mergeSkipsWrong : ChangeSpec := { name := "mergeSkips", fn := fun _ => fun
  | [d1, d2] => { results := [.lit (.bool false)], args := [d1, d2] }
  | _ => none }
def MergeSkipsWrongFalsely : Prop := mergeSkipsRow.holds Try.pinned (OpenSpec.ofChange mergeSkipsWrong)

/-- 'bookendlaw11.MergeOwn': WHATEVER THE INPUT: true; the input reads as it did. -/
def mergeOwnSpec : ChangeSpec := { name := "mergeOwn", fn := fun _ => fun
  | [d1, d2] => { results := [.lit (.bool true)], args := [d1, d2] }
  | _ => none }
def mergeOwnRow : OpenClaim := { program := "ytebjhjmlpodkgaa", sum := "8c85609a9bbfab40b88f6391404c6dd7de38f73751a5b8e458c0869e994a5e40", func := "bookend/bookendlaw11.MergeOwn", spec := "mergeOwn", inPlace := ["internal/bytealg.abigen_runtime_cmpstring"], unfollowed := true, recurses := true, apart := false }
def MergeOwnSaid : Prop := mergeOwnRow.holds Try.pinned (OpenSpec.ofChange mergeOwnSpec)

/-- ITS FALSE NEIGHBOUR: 'it returns false'. Refute it at one input. -/
def mergeOwnWrong : ChangeSpec := { name := "mergeOwn", fn := fun _ => fun
  | [d1, d2] => { results := [.lit (.bool false)], args := [d1, d2] }
  | _ => none }
def MergeOwnWrongFalsely : Prop := mergeOwnRow.holds Try.pinned (OpenSpec.ofChange mergeOwnWrong)

/-- 'bookendlaw13.SlicesCuts': WHATEVER THE INPUT: true; the input reads as it did. -/
def slicesCutsSpec : ChangeSpec := { name := "slicesCuts", fn := fun _ => fun
  | [d1, d2, d3] => { results := [.lit (.bool true)], args := [d1, d2, d3] }
  | _ => none }
def slicesCutsRow : OpenClaim := { program := "ytebjhjmlpodkgaa", sum := "8c85609a9bbfab40b88f6391404c6dd7de38f73751a5b8e458c0869e994a5e40", func := "bookend/bookendlaw13.SlicesCuts", spec := "slicesCuts", inPlace := ["internal/bytealg.abigen_runtime_cmpstring"], unfollowed := true, recurses := true, apart := false }
def SlicesCutsSaid : Prop := slicesCutsRow.holds Try.pinned (OpenSpec.ofChange slicesCutsSpec)

/-- ITS FALSE NEIGHBOUR: 'it returns false'. Refute it at one input. -/
def slicesCutsWrong : ChangeSpec := { name := "slicesCuts", fn := fun _ => fun
  | [d1, d2, d3] => { results := [.lit (.bool false)], args := [d1, d2, d3] }
  | _ => none }
def SlicesCutsWrongFalsely : Prop := slicesCutsRow.holds Try.pinned (OpenSpec.ofChange slicesCutsWrong)

/-- 'bookendlaw13.SlicesSums': WHATEVER THE INPUT: true; the input reads as it did. -/
def slicesSumsSpec : ChangeSpec := { name := "slicesSums", fn := fun _ => fun
  | [d1, d2] => { results := [.lit (.bool true)], args := [d1, d2] }
  | _ => none }
def slicesSumsRow : OpenClaim := { program := "ytebjhjmlpodkgaa", sum := "8c85609a9bbfab40b88f6391404c6dd7de38f73751a5b8e458c0869e994a5e40", func := "bookend/bookendlaw13.SlicesSums", spec := "slicesSums", inPlace := ["internal/bytealg.abigen_runtime_cmpstring"], unfollowed := true, recurses := true, apart := false }
def SlicesSumsSaid : Prop := slicesSumsRow.holds Try.pinned (OpenSpec.ofChange slicesSumsSpec)

/-- ITS FALSE NEIGHBOUR: 'it returns false'. Refute it at one input. -/
def slicesSumsWrong : ChangeSpec := { name := "slicesSums", fn := fun _ => fun
  | [d1, d2] => { results := [.lit (.bool false)], args := [d1, d2] }
  | _ => none }
def SlicesSumsWrongFalsely : Prop := slicesSumsRow.holds Try.pinned (OpenSpec.ofChange slicesSumsWrong)

/-- 'bookendlaw13.SlicesOutputs': WHATEVER THE INPUT: true; the input reads as it did. -/
def slicesOutputsSpec : ChangeSpec := { name := "slicesOutputs", fn := fun _ => fun
  | [d1, d2] => { results := [.lit (.bool true)], args := [d1, d2] }
  | _ => none }
def slicesOutputsRow : OpenClaim := { program := "ytebjhjmlpodkgaa", sum := "8c85609a9bbfab40b88f6391404c6dd7de38f73751a5b8e458c0869e994a5e40", func := "bookend/bookendlaw13.SlicesOutputs", spec := "slicesOutputs", inPlace := ["internal/bytealg.abigen_runtime_cmpstring"], unfollowed := true, recurses := true, apart := false }
def SlicesOutputsSaid : Prop := slicesOutputsRow.holds Try.pinned (OpenSpec.ofChange slicesOutputsSpec)

/-- ITS FALSE NEIGHBOUR: 'it returns false'. Refute it at one input. -/
def slicesOutputsWrong : ChangeSpec := { name := "slicesOutputs", fn := fun _ => fun
  | [d1, d2] => { results := [.lit (.bool false)], args := [d1, d2] }
  | _ => none }
def SlicesOutputsWrongFalsely : Prop := slicesOutputsRow.holds Try.pinned (OpenSpec.ofChange slicesOutputsWrong)

/-- 'bookendlaw13.SlicesOwn': WHATEVER THE INPUT: true; the input reads as it did. -/
def slicesOwnSpec : ChangeSpec := { name := "slicesOwn", fn := fun _ => fun
  | [d1, d2, d3] => { results := [.lit (.bool true)], args := [d1, d2, d3] }
  | _ => none }
def slicesOwnRow : OpenClaim := { program := "ytebjhjmlpodkgaa", sum := "8c85609a9bbfab40b88f6391404c6dd7de38f73751a5b8e458c0869e994a5e40", func := "bookend/bookendlaw13.SlicesOwn", spec := "slicesOwn", inPlace := ["internal/bytealg.abigen_runtime_cmpstring"], unfollowed := true, recurses := true, apart := false }
def SlicesOwnSaid : Prop := slicesOwnRow.holds Try.pinned (OpenSpec.ofChange slicesOwnSpec)

/-- ITS FALSE NEIGHBOUR: 'it returns false'. Refute it at one input. -/
def slicesOwnWrong : ChangeSpec := { name := "slicesOwn", fn := fun _ => fun
  | [d1, d2, d3] => { results := [.lit (.bool false)], args := [d1, d2, d3] }
  | _ => none }
def SlicesOwnWrongFalsely : Prop := slicesOwnRow.holds Try.pinned (OpenSpec.ofChange slicesOwnWrong)

/- THE SECOND FORM. 'bulk': how many values and letters a reading holds, each counted each time it is reached (what is shared counts as often as it is met; a slice's spare places count too). A statement '..UptoSaid' is the law's where the arguments, and the package variables that the reading takes, are together of bulk at most 1048576: NARROWER than '..Said'. Prove '..Said' where nothing that the law and all that it calls make is longer than what came in: it says more and counts as full. Else prove '..UptoSaid'. A law counts once. -/
mutual
def uptoBulk {H : Type} : DataW H → Nat
  | .lit (.string bytes) => bytes.length + 1
  | .lit _ => 1
  | .nil => 1
  | .ptr d => uptoBulk d + 1
  | .slice elems spare => uptoBulkAll elems + uptoBulkAll spare + 1
  | .agg parts => uptoBulkAll parts + 1
  | .iface _ d => uptoBulk d + 1
  | .map entries => uptoBulkEntries entries + 1
  | .held _ => 1
def uptoBulkAll {H : Type} : List (DataW H) → Nat
  | [] => 0
  | d :: r => uptoBulk d + uptoBulkAll r
def uptoBulkEntries {H : Type} : List (Lit × DataW H) → Nat
  | [] => 0
  | x :: r => uptoBulkEntry x + uptoBulkEntries r
def uptoBulkEntry {H : Type} : Lit × DataW H → Nat
  | (.string bytes, d) => bytes.length + uptoBulk d + 1
  | (_, d) => uptoBulk d + 1
 end
def uptoSmall : (H : Type) → List (DataW H) → Bool := fun _ ds => decide (uptoBulkAll ds ≤ 1048576)
def OpenSpec.upto (s : _root_.Go.ChangeSpec) : _root_.Go.OpenSpec := { _root_.Go.OpenSpec.ofChange s with cond := some uptoSmall }

/-- 'bookendlaw11.MergeBegins', WHERE WHAT IT READS IS OF BULK AT MOST 1048576: true; the input reads as it did. -/
def mergeBeginsUptoRow : OpenClaim := { program := "ytebjhjmlpodkgaa", sum := "8c85609a9bbfab40b88f6391404c6dd7de38f73751a5b8e458c0869e994a5e40", func := "bookend/bookendlaw11.MergeBegins", spec := "mergeBegins", inPlace := ["internal/bytealg.abigen_runtime_cmpstring"], unfollowed := true, recurses := true, apart := false, narrowed := true }
def MergeBeginsUptoSaid : Prop := mergeBeginsUptoRow.holds Try.pinned (OpenSpec.upto mergeBeginsSpec)

/-- 'bookendlaw11.MergeStates', WHERE WHAT IT READS IS OF BULK AT MOST 1048576: true; the input reads as it did. -/
def mergeStatesUptoRow : OpenClaim := { program := "ytebjhjmlpodkgaa", sum := "8c85609a9bbfab40b88f6391404c6dd7de38f73751a5b8e458c0869e994a5e40", func := "bookend/bookendlaw11.MergeStates", spec := "mergeStates", inPlace := ["internal/bytealg.abigen_runtime_cmpstring"], unfollowed := true, recurses := true, apart := false, narrowed := true }
def MergeStatesUptoSaid : Prop := mergeStatesUptoRow.holds Try.pinned (OpenSpec.upto mergeStatesSpec)

/-- 'bookendlaw11.MergeGoes', WHERE WHAT IT READS IS OF BULK AT MOST 1048576: true; the input reads as it did. -/
def mergeGoesUptoRow : OpenClaim := { program := "ytebjhjmlpodkgaa", sum := "8c85609a9bbfab40b88f6391404c6dd7de38f73751a5b8e458c0869e994a5e40", func := "bookend/bookendlaw11.MergeGoes", spec := "mergeGoes", inPlace := ["internal/bytealg.abigen_runtime_cmpstring"], unfollowed := true, recurses := true, apart := false, narrowed := true }
def MergeGoesUptoSaid : Prop := mergeGoesUptoRow.holds Try.pinned (OpenSpec.upto mergeGoesSpec)

/-- 'bookendlaw11.MergeOrders', WHERE WHAT IT READS IS OF BULK AT MOST 1048576: true; the input reads as it did. -/
def mergeOrdersUptoRow : OpenClaim := { program := "ytebjhjmlpodkgaa", sum := "8c85609a9bbfab40b88f6391404c6dd7de38f73751a5b8e458c0869e994a5e40", func := "bookend/bookendlaw11.MergeOrders", spec := "mergeOrders", inPlace := ["internal/bytealg.abigen_runtime_cmpstring"], unfollowed := true, recurses := true, apart := false, narrowed := true }
def MergeOrdersUptoSaid : Prop := mergeOrdersUptoRow.holds Try.pinned (OpenSpec.upto mergeOrdersSpec)

/-- 'bookendlaw11.MergeSkips', WHERE WHAT IT READS IS OF BULK AT MOST 1048576: true; the input reads as it did. -/
def mergeSkipsUptoRow : OpenClaim := { program := "ytebjhjmlpodkgaa", sum := "8c85609a9bbfab40b88f6391404c6dd7de38f73751a5b8e458c0869e994a5e40", func := "bookend/bookendlaw11.MergeSkips", spec := "mergeSkips", inPlace := ["internal/bytealg.abigen_runtime_cmpstring"], unfollowed := true, recurses := true, apart := false, narrowed := true }
def MergeSkipsUptoSaid : Prop := mergeSkipsUptoRow.holds Try.pinned (OpenSpec.upto mergeSkipsSpec)

/-- 'bookendlaw11.MergeOwn', WHERE WHAT IT READS IS OF BULK AT MOST 1048576: true; the input reads as it did. -/
def mergeOwnUptoRow : OpenClaim := { program := "ytebjhjmlpodkgaa", sum := "8c85609a9bbfab40b88f6391404c6dd7de38f73751a5b8e458c0869e994a5e40", func := "bookend/bookendlaw11.MergeOwn", spec := "mergeOwn", inPlace := ["internal/bytealg.abigen_runtime_cmpstring"], unfollowed := true, recurses := true, apart := false, narrowed := true }
def MergeOwnUptoSaid : Prop := mergeOwnUptoRow.holds Try.pinned (OpenSpec.upto mergeOwnSpec)

/-- 'bookendlaw13.SlicesCuts', WHERE WHAT IT READS IS OF BULK AT MOST 1048576: true; the input reads as it did. -/
def slicesCutsUptoRow : OpenClaim := { program := "ytebjhjmlpodkgaa", sum := "8c85609a9bbfab40b88f6391404c6dd7de38f73751a5b8e458c0869e994a5e40", func := "bookend/bookendlaw13.SlicesCuts", spec := "slicesCuts", inPlace := ["internal/bytealg.abigen_runtime_cmpstring"], unfollowed := true, recurses := true, apart := false, narrowed := true }
def SlicesCutsUptoSaid : Prop := slicesCutsUptoRow.holds Try.pinned (OpenSpec.upto slicesCutsSpec)

/-- 'bookendlaw13.SlicesSums', WHERE WHAT IT READS IS OF BULK AT MOST 1048576: true; the input reads as it did. -/
def slicesSumsUptoRow : OpenClaim := { program := "ytebjhjmlpodkgaa", sum := "8c85609a9bbfab40b88f6391404c6dd7de38f73751a5b8e458c0869e994a5e40", func := "bookend/bookendlaw13.SlicesSums", spec := "slicesSums", inPlace := ["internal/bytealg.abigen_runtime_cmpstring"], unfollowed := true, recurses := true, apart := false, narrowed := true }
def SlicesSumsUptoSaid : Prop := slicesSumsUptoRow.holds Try.pinned (OpenSpec.upto slicesSumsSpec)

/-- 'bookendlaw13.SlicesOutputs', WHERE WHAT IT READS IS OF BULK AT MOST 1048576: true; the input reads as it did. -/
def slicesOutputsUptoRow : OpenClaim := { program := "ytebjhjmlpodkgaa", sum := "8c85609a9bbfab40b88f6391404c6dd7de38f73751a5b8e458c0869e994a5e40", func := "bookend/bookendlaw13.SlicesOutputs", spec := "slicesOutputs", inPlace := ["internal/bytealg.abigen_runtime_cmpstring"], unfollowed := true, recurses := true, apart := false, narrowed := true }
def SlicesOutputsUptoSaid : Prop := slicesOutputsUptoRow.holds Try.pinned (OpenSpec.upto slicesOutputsSpec)

/-- 'bookendlaw13.SlicesOwn', WHERE WHAT IT READS IS OF BULK AT MOST 1048576: true; the input reads as it did. -/
def slicesOwnUptoRow : OpenClaim := { program := "ytebjhjmlpodkgaa", sum := "8c85609a9bbfab40b88f6391404c6dd7de38f73751a5b8e458c0869e994a5e40", func := "bookend/bookendlaw13.SlicesOwn", spec := "slicesOwn", inPlace := ["internal/bytealg.abigen_runtime_cmpstring"], unfollowed := true, recurses := true, apart := false, narrowed := true }
def SlicesOwnUptoSaid : Prop := slicesOwnUptoRow.holds Try.pinned (OpenSpec.upto slicesOwnSpec)

end Rows
end Go.Proofs.Ytebjhjmlpodkgaa
