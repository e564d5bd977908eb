/-
  No cell of these rows narrows 'for every input' (looked for: loops, veiled, ifaces, maps, wideKeys, modest, calm, conditions, laid).
  DERIVED. THE GIVEN ROWS OF THIS SEAT. 8 by the template 'for every input the law returns true; each argument reads behind the call as it read before'; 0 by the template 'total and deterministic' (their statements: YtgljgjkoaaibnaaTotals.lean).
  GIVEN WITH THE SEED: the statements are not yours to turn. If you find one false, say at which input.
  Laid BY PROGRAM, IN A SANDBOX (cutbox-rows.mjs): the forced cells as the released guide's own fill.sh prints them over the translation 320dee7787359753… (all of the seat's roots in one cut). By AI agents, Wed Nov 11 2026. No macro, syntax, notation, axiom, sorry.
-/
import Derived.Test.YtgljgjkoaaibnaaChecked
import GoSem.Claim
import GoSem.ClaimJoined
import GoSem.ClaimMapViews
import Derived.JoinedTies
import Derived.KernelRfl
namespace Go.Proofs.Ytgljgjkoaaibnaa
/- THE CELL 'sum', in the pinned program and in every row, IS THE sha256 OF THE DUMP (.gsa) THAT YtgljgjkoaaibnaaProg.lean LOADS. Nothing in Lean hashes anything: it is a label: what it is worth is what the hold of that sum in a sandbox is worth. -/
noncomputable def Try.pinned : Pinned := { name := "ytgljgjkoaaibnaa", sum := "320dee778735975302c55399f3ebd18028fdf39956ae0faa1c03b40d57eb31c3", checked := Try.checked }
namespace Rows
def none {H : Type} : Left H := { results := [], args := [] }

/-- 'bookendlaw02.KeysOrders': WHATEVER THE INPUT: true; the input reads as it did. -/
def keysOrdersSpec : ChangeSpec := { name := "keysOrders", fn := fun _ => fun
  | [d1, d2] => { results := [.lit (.bool true)], args := [d1, d2] }
  | _ => none }
def keysOrdersRow : OpenClaim := { program := "ytgljgjkoaaibnaa", sum := "320dee778735975302c55399f3ebd18028fdf39956ae0faa1c03b40d57eb31c3", func := "bookend/bookendlaw02.KeysOrders", spec := "keysOrders", apart := false }
def KeysOrdersSaid : Prop := keysOrdersRow.holds Try.pinned (OpenSpec.ofChange keysOrdersSpec)

/-- ITS FALSE NEIGHBOUR: 'it returns false'. Refute it at one input. -/
def keysOrdersWrong : ChangeSpec := { name := "keysOrders", fn := fun _ => fun
  | [d1, d2] => { results := [.lit (.bool false)], args := [d1, d2] }
  | _ => none }
def KeysOrdersWrongFalsely : Prop := keysOrdersRow.holds Try.pinned (OpenSpec.ofChange keysOrdersWrong)

/-- 'bookendlaw02.KeysNexts': WHATEVER THE INPUT: true; the input reads as it did. -/
def keysNextsSpec : ChangeSpec := { name := "keysNexts", fn := fun _ => fun
  | [d1, d2] => { results := [.lit (.bool true)], args := [d1, d2] }
  | _ => none }
def keysNextsRow : OpenClaim := { program := "ytgljgjkoaaibnaa", sum := "320dee778735975302c55399f3ebd18028fdf39956ae0faa1c03b40d57eb31c3", func := "bookend/bookendlaw02.KeysNexts", spec := "keysNexts", apart := false }
def KeysNextsSaid : Prop := keysNextsRow.holds Try.pinned (OpenSpec.ofChange keysNextsSpec)

/-- ITS FALSE NEIGHBOUR: 'it returns false'. Refute it at one input. -/
def keysNextsWrong : ChangeSpec := { name := "keysNexts", fn := fun _ => fun
  | [d1, d2] => { results := [.lit (.bool false)], args := [d1, d2] }
  | _ => none }
def KeysNextsWrongFalsely : Prop := keysNextsRow.holds Try.pinned (OpenSpec.ofChange keysNextsWrong)

/-- 'bookendlaw02.KeysRanges': WHATEVER THE INPUT: true; the input reads as it did. -/
def keysRangesSpec : ChangeSpec := { name := "keysRanges", fn := fun _ => fun
  | [d1, d2, d3] => { results := [.lit (.bool true)], args := [d1, d2, d3] }
  | _ => none }
def keysRangesRow : OpenClaim := { program := "ytgljgjkoaaibnaa", sum := "320dee778735975302c55399f3ebd18028fdf39956ae0faa1c03b40d57eb31c3", func := "bookend/bookendlaw02.KeysRanges", spec := "keysRanges", apart := false }
def KeysRangesSaid : Prop := keysRangesRow.holds Try.pinned (OpenSpec.ofChange keysRangesSpec)

/-- ITS FALSE NEIGHBOUR: 'it returns false'. Refute it at one input. -/
def keysRangesWrong : ChangeSpec := { name := "keysRanges", fn := fun _ => fun
  | [d1, d2, d3] => { results := [.lit (.bool false)], args := [d1, d2, d3] }
  | _ => none }
def KeysRangesWrongFalsely : Prop := keysRangesRow.holds Try.pinned (OpenSpec.ofChange keysRangesWrong)

/-- 'bookendlaw02.KeysTexts': WHATEVER THE INPUT: true; the input reads as it did. -/
def keysTextsSpec : ChangeSpec := { name := "keysTexts", fn := fun _ => fun
  | [d1, d2] => { results := [.lit (.bool true)], args := [d1, d2] }
  | _ => none }
def keysTextsRow : OpenClaim := { program := "ytgljgjkoaaibnaa", sum := "320dee778735975302c55399f3ebd18028fdf39956ae0faa1c03b40d57eb31c3", func := "bookend/bookendlaw02.KeysTexts", spec := "keysTexts", inPlace := ["internal/bytealg.IndexByteString"], apart := false }
def KeysTextsSaid : Prop := keysTextsRow.holds Try.pinned (OpenSpec.ofChange keysTextsSpec)

/-- ITS FALSE NEIGHBOUR: 'it returns false'. Refute it at one input. -/
def keysTextsWrong : ChangeSpec := { name := "keysTexts", fn := fun _ => fun
  | [d1, d2] => { results := [.lit (.bool false)], args := [d1, d2] }
  | _ => none }
def KeysTextsWrongFalsely : Prop := keysTextsRow.holds Try.pinned (OpenSpec.ofChange keysTextsWrong)

/-- 'bookendlaw02.KeysLeast': WHATEVER THE INPUT: true; the input reads as it did. -/
def keysLeastSpec : ChangeSpec := { name := "keysLeast", fn := fun _ => fun
  | [d1, d2, d3] => { results := [.lit (.bool true)], args := [d1, d2, d3] }
  | _ => none }
def keysLeastRow : OpenClaim := { program := "ytgljgjkoaaibnaa", sum := "320dee778735975302c55399f3ebd18028fdf39956ae0faa1c03b40d57eb31c3", func := "bookend/bookendlaw02.KeysLeast", spec := "keysLeast", apart := false }
def KeysLeastSaid : Prop := keysLeastRow.holds Try.pinned (OpenSpec.ofChange keysLeastSpec)

/-- ITS FALSE NEIGHBOUR: 'it returns false'. Refute it at one input. -/
def keysLeastWrong : ChangeSpec := { name := "keysLeast", fn := fun _ => fun
  | [d1, d2, d3] => { results := [.lit (.bool false)], args := [d1, d2, d3] }
  | _ => none }
def KeysLeastWrongFalsely : Prop := keysLeastRow.holds Try.pinned (OpenSpec.ofChange keysLeastWrong)

/-- 'bookendlaw02.KeysSorted': WHATEVER THE INPUT: true; the input reads as it did. -/
def keysSortedSpec : ChangeSpec := { name := "keysSorted", fn := fun _ => fun
  | [d1, d2, d3] => { results := [.lit (.bool true)], args := [d1, d2, d3] }
  | _ => none }
def keysSortedRow : OpenClaim := { program := "ytgljgjkoaaibnaa", sum := "320dee778735975302c55399f3ebd18028fdf39956ae0faa1c03b40d57eb31c3", func := "bookend/bookendlaw02.KeysSorted", spec := "keysSorted", apart := false }
def KeysSortedSaid : Prop := keysSortedRow.holds Try.pinned (OpenSpec.ofChange keysSortedSpec)

/-- ITS FALSE NEIGHBOUR: 'it returns false'. Refute it at one input. -/
def keysSortedWrong : ChangeSpec := { name := "keysSorted", fn := fun _ => fun
  | [d1, d2, d3] => { results := [.lit (.bool false)], args := [d1, d2, d3] }
  | _ => none }
def KeysSortedWrongFalsely : Prop := keysSortedRow.holds Try.pinned (OpenSpec.ofChange keysSortedWrong)

/-- 'bookendlaw02.KeysMeets': WHATEVER THE INPUT: true; the input reads as it did. -/
def keysMeetsSpec : ChangeSpec := { name := "keysMeets", fn := fun _ => fun
  | [d1, d2, d3] => { results := [.lit (.bool true)], args := [d1, d2, d3] }
  | _ => none }
def keysMeetsRow : OpenClaim := { program := "ytgljgjkoaaibnaa", sum := "320dee778735975302c55399f3ebd18028fdf39956ae0faa1c03b40d57eb31c3", func := "bookend/bookendlaw02.KeysMeets", spec := "keysMeets", apart := false }
def KeysMeetsSaid : Prop := keysMeetsRow.holds Try.pinned (OpenSpec.ofChange keysMeetsSpec)

/-- ITS FALSE NEIGHBOUR: 'it returns false'. Refute it at one input. -/
def keysMeetsWrong : ChangeSpec := { name := "keysMeets", fn := fun _ => fun
  | [d1, d2, d3] => { results := [.lit (.bool false)], args := [d1, d2, d3] }
  | _ => none }
def KeysMeetsWrongFalsely : Prop := keysMeetsRow.holds Try.pinned (OpenSpec.ofChange keysMeetsWrong)

/-- 'bookendlaw02.KeysKnown': WHATEVER THE INPUT: true; the input reads as it did. -/
def keysKnownSpec : ChangeSpec := { name := "keysKnown", fn := fun _ => fun
  | [] => { results := [.lit (.bool true)], args := [] }
  | _ => none }
def keysKnownRow : OpenClaim := { program := "ytgljgjkoaaibnaa", sum := "320dee778735975302c55399f3ebd18028fdf39956ae0faa1c03b40d57eb31c3", func := "bookend/bookendlaw02.KeysKnown", spec := "keysKnown", inPlace := ["internal/bytealg.IndexByteString"], apart := false }
def KeysKnownSaid : Prop := keysKnownRow.holds Try.pinned (OpenSpec.ofChange keysKnownSpec)

/-- ITS FALSE NEIGHBOUR: 'it returns false'. Refute it at one input. -/
def keysKnownWrong : ChangeSpec := { name := "keysKnown", fn := fun _ => fun
  | [] => { results := [.lit (.bool false)], args := [] }
  | _ => none }
def KeysKnownWrongFalsely : Prop := keysKnownRow.holds Try.pinned (OpenSpec.ofChange keysKnownWrong)

/- THE SECOND FORM. 'bulk': how many values and letters a reading holds, each counted each time it is reached (what is shared counts as often as it is met; a slice's spare places count too). A statement '..UptoSaid' is the law's where the arguments, and the package variables that the reading takes, are together of bulk at most 1048576: NARROWER than '..Said'. Prove '..Said' where nothing that the law and all that it calls make is longer than what came in: it says more and counts as full. Else prove '..UptoSaid'. A law counts once. -/
mutual
def uptoBulk {H : Type} : DataW H → Nat
  | .lit (.string bytes) => bytes.length + 1
  | .lit _ => 1
  | .nil => 1
  | .ptr d => uptoBulk d + 1
  | .slice elems spare => uptoBulkAll elems + uptoBulkAll spare + 1
  | .agg parts => uptoBulkAll parts + 1
  | .iface _ d => uptoBulk d + 1
  | .map entries => uptoBulkEntries entries + 1
  | .held _ => 1
def uptoBulkAll {H : Type} : List (DataW H) → Nat
  | [] => 0
  | d :: r => uptoBulk d + uptoBulkAll r
def uptoBulkEntries {H : Type} : List (Lit × DataW H) → Nat
  | [] => 0
  | x :: r => uptoBulkEntry x + uptoBulkEntries r
def uptoBulkEntry {H : Type} : Lit × DataW H → Nat
  | (.string bytes, d) => bytes.length + uptoBulk d + 1
  | (_, d) => uptoBulk d + 1
 end
def uptoSmall : (H : Type) → List (DataW H) → Bool := fun _ ds => decide (uptoBulkAll ds ≤ 1048576)
def OpenSpec.upto (s : _root_.Go.ChangeSpec) : _root_.Go.OpenSpec := { _root_.Go.OpenSpec.ofChange s with cond := some uptoSmall }

/-- 'bookendlaw02.KeysOrders', WHERE WHAT IT READS IS OF BULK AT MOST 1048576: true; the input reads as it did. -/
def keysOrdersUptoRow : OpenClaim := { program := "ytgljgjkoaaibnaa", sum := "320dee778735975302c55399f3ebd18028fdf39956ae0faa1c03b40d57eb31c3", func := "bookend/bookendlaw02.KeysOrders", spec := "keysOrders", apart := false, narrowed := true }
def KeysOrdersUptoSaid : Prop := keysOrdersUptoRow.holds Try.pinned (OpenSpec.upto keysOrdersSpec)

/-- 'bookendlaw02.KeysNexts', WHERE WHAT IT READS IS OF BULK AT MOST 1048576: true; the input reads as it did. -/
def keysNextsUptoRow : OpenClaim := { program := "ytgljgjkoaaibnaa", sum := "320dee778735975302c55399f3ebd18028fdf39956ae0faa1c03b40d57eb31c3", func := "bookend/bookendlaw02.KeysNexts", spec := "keysNexts", apart := false, narrowed := true }
def KeysNextsUptoSaid : Prop := keysNextsUptoRow.holds Try.pinned (OpenSpec.upto keysNextsSpec)

/-- 'bookendlaw02.KeysRanges', WHERE WHAT IT READS IS OF BULK AT MOST 1048576: true; the input reads as it did. -/
def keysRangesUptoRow : OpenClaim := { program := "ytgljgjkoaaibnaa", sum := "320dee778735975302c55399f3ebd18028fdf39956ae0faa1c03b40d57eb31c3", func := "bookend/bookendlaw02.KeysRanges", spec := "keysRanges", apart := false, narrowed := true }
def KeysRangesUptoSaid : Prop := keysRangesUptoRow.holds Try.pinned (OpenSpec.upto keysRangesSpec)

/-- 'bookendlaw02.KeysTexts', WHERE WHAT IT READS IS OF BULK AT MOST 1048576: true; the input reads as it did. -/
def keysTextsUptoRow : OpenClaim := { program := "ytgljgjkoaaibnaa", sum := "320dee778735975302c55399f3ebd18028fdf39956ae0faa1c03b40d57eb31c3", func := "bookend/bookendlaw02.KeysTexts", spec := "keysTexts", inPlace := ["internal/bytealg.IndexByteString"], apart := false, narrowed := true }
def KeysTextsUptoSaid : Prop := keysTextsUptoRow.holds Try.pinned (OpenSpec.upto keysTextsSpec)

/-- 'bookendlaw02.KeysLeast', WHERE WHAT IT READS IS OF BULK AT MOST 1048576: true; the input reads as it did. -/
def keysLeastUptoRow : OpenClaim := { program := "ytgljgjkoaaibnaa", sum := "320dee778735975302c55399f3ebd18028fdf39956ae0faa1c03b40d57eb31c3", func := "bookend/bookendlaw02.KeysLeast", spec := "keysLeast", apart := false, narrowed := true }
def KeysLeastUptoSaid : Prop := keysLeastUptoRow.holds Try.pinned (OpenSpec.upto keysLeastSpec)

/-- 'bookendlaw02.KeysSorted', WHERE WHAT IT READS IS OF BULK AT MOST 1048576: true; the input reads as it did. -/
def keysSortedUptoRow : OpenClaim := { program := "ytgljgjkoaaibnaa", sum := "320dee778735975302c55399f3ebd18028fdf39956ae0faa1c03b40d57eb31c3", func := "bookend/bookendlaw02.KeysSorted", spec := "keysSorted", apart := false, narrowed := true }
def KeysSortedUptoSaid : Prop := keysSortedUptoRow.holds Try.pinned (OpenSpec.upto keysSortedSpec)

/-- 'bookendlaw02.KeysMeets', WHERE WHAT IT READS IS OF BULK AT MOST 1048576: true; the input reads as it did. -/
def keysMeetsUptoRow : OpenClaim := { program := "ytgljgjkoaaibnaa", sum := "320dee778735975302c55399f3ebd18028fdf39956ae0faa1c03b40d57eb31c3", func := "bookend/bookendlaw02.KeysMeets", spec := "keysMeets", apart := false, narrowed := true }
def KeysMeetsUptoSaid : Prop := keysMeetsUptoRow.holds Try.pinned (OpenSpec.upto keysMeetsSpec)

/-- 'bookendlaw02.KeysKnown', WHERE WHAT IT READS IS OF BULK AT MOST 1048576: true; the input reads as it did. -/
def keysKnownUptoRow : OpenClaim := { program := "ytgljgjkoaaibnaa", sum := "320dee778735975302c55399f3ebd18028fdf39956ae0faa1c03b40d57eb31c3", func := "bookend/bookendlaw02.KeysKnown", spec := "keysKnown", inPlace := ["internal/bytealg.IndexByteString"], apart := false, narrowed := true }
def KeysKnownUptoSaid : Prop := keysKnownUptoRow.holds Try.pinned (OpenSpec.upto keysKnownSpec)

end Rows
end Go.Proofs.Ytgljgjkoaaibnaa
