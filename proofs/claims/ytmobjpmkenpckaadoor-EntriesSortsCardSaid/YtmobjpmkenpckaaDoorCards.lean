/-
  DERIVED. GIVEN WITH THE SEED: THE CARDS: each row of YtmobjpmkenpckaaDoorRows.lean that lists a variable, with what it lists TIED to the program's text (the seventh form; the later family's looks); each row that meets fmt, with fmt's text TOLD by the authors' own Lean function (tested against real Go, not proved from fmt's source: count such statements apart). THE CARD IS WHAT COUNTS. Prove the row's statement (the work); the ties are given (YtmobjpmkenpckaaDoorTie.lean); close each card by the builder's one call (the guide's Derived/Test/ToyasCard.lean, 'card_holds'). Laid BY PROGRAM, IN A SANDBOX (cutbox-door.mjs). By AI agents, Wed Nov 11 2026. No macro, syntax, notation, axiom, sorry.
-/
import Derived.Test.YtmobjpmkenpckaaDoorRows
import GoSem.ClaimSeven
namespace Go.Proofs.YtmobjpmkenpckaaDoor
namespace Rows

/-- THE TIED CARD OF 'bookendlaw03.EntriesSorts'. -/
def entriesSortsCard : Claim7 := { stood := { row := entriesSortsRow, standIns := [], harness := (true, "3f61480c9fcfe6bfaf250560a50745a9b5bd39eb20922d594eb0a5bfa5af5ac3"), looks := false }, kinds := [], alts := [], laidByText := true, laidKinds := [.data, .data, .data], laidTests := true, laidLooks := .later }
def EntriesSortsCardSaid : Prop := Claim7.holds Tryd.pinned (.plain (OpenSpec.ofChange entriesSortsSpec)) entriesSortsCard

/-- THE TIED CARD OF 'bookendlaw03.EntriesLayers'. -/
def entriesLayersCard : Claim7 := { stood := { row := entriesLayersRow, standIns := [], harness := (true, "3f61480c9fcfe6bfaf250560a50745a9b5bd39eb20922d594eb0a5bfa5af5ac3"), looks := false }, kinds := [], alts := [], laidByText := true, laidKinds := [.data, .data, .data], laidTests := true, laidLooks := .later }
def EntriesLayersCardSaid : Prop := Claim7.holds Tryd.pinned (.plain (OpenSpec.ofChange entriesLayersSpec)) entriesLayersCard

/-- THE TIED CARD OF 'bookendlaw03.EntriesKnown'. -/
def entriesKnownCard : Claim7 := { stood := { row := entriesKnownRow, standIns := [], harness := (true, "3f61480c9fcfe6bfaf250560a50745a9b5bd39eb20922d594eb0a5bfa5af5ac3"), looks := false }, kinds := [], alts := [], laidByText := true, laidKinds := [.data, .data, .data], laidTests := true, laidLooks := .later }
def EntriesKnownCardSaid : Prop := Claim7.holds Tryd.pinned (.plain (OpenSpec.ofChange entriesKnownSpec)) entriesKnownCard

/-- THE SECOND FORM's CARD OF 'bookendlaw03.EntriesSorts'. -/
def entriesSortsUptoCard : Claim7 := { stood := { row := entriesSortsUptoRow, standIns := [], harness := (true, "3f61480c9fcfe6bfaf250560a50745a9b5bd39eb20922d594eb0a5bfa5af5ac3"), looks := false }, kinds := [], alts := [], laidByText := true, laidKinds := [.data, .data, .data], laidTests := true, laidLooks := .later }
def EntriesSortsUptoCardSaid : Prop := Claim7.holds Tryd.pinned (.plain (OpenSpec.upto entriesSortsSpec)) entriesSortsUptoCard

/-- THE SECOND FORM's CARD OF 'bookendlaw03.EntriesLayers'. -/
def entriesLayersUptoCard : Claim7 := { stood := { row := entriesLayersUptoRow, standIns := [], harness := (true, "3f61480c9fcfe6bfaf250560a50745a9b5bd39eb20922d594eb0a5bfa5af5ac3"), looks := false }, kinds := [], alts := [], laidByText := true, laidKinds := [.data, .data, .data], laidTests := true, laidLooks := .later }
def EntriesLayersUptoCardSaid : Prop := Claim7.holds Tryd.pinned (.plain (OpenSpec.upto entriesLayersSpec)) entriesLayersUptoCard

/-- THE SECOND FORM's CARD OF 'bookendlaw03.EntriesKnown'. -/
def entriesKnownUptoCard : Claim7 := { stood := { row := entriesKnownUptoRow, standIns := [], harness := (true, "3f61480c9fcfe6bfaf250560a50745a9b5bd39eb20922d594eb0a5bfa5af5ac3"), looks := false }, kinds := [], alts := [], laidByText := true, laidKinds := [.data, .data, .data], laidTests := true, laidLooks := .later }
def EntriesKnownUptoCardSaid : Prop := Claim7.holds Tryd.pinned (.plain (OpenSpec.upto entriesKnownSpec)) entriesKnownUptoCard
end Rows
end Go.Proofs.YtmobjpmkenpckaaDoor
