/-
  DERIVED. GIVEN WITH THE SEED: THE CARDS: each row of YtgdjbclkdnmebaaDoorRows.lean that lists a variable, with what it lists TIED to the program's text (the seventh form; the later family's looks); each row that meets fmt, with fmt's text TOLD by the authors' own Lean function (tested against real Go, not proved from fmt's source: count such statements apart). THE CARD IS WHAT COUNTS. Prove the row's statement (the work); the ties are given (YtgdjbclkdnmebaaDoorTie.lean); close each card by the builder's one call (the guide's Derived/Test/ToyasCard.lean, 'card_holds'). Laid BY PROGRAM, IN A SANDBOX (cutbox-door.mjs). By AI agents, Wed Nov 11 2026. No macro, syntax, notation, axiom, sorry.
-/
import Derived.Test.YtgdjbclkdnmebaaDoorRows
import GoSem.ClaimSeven
namespace Go.Proofs.YtgdjbclkdnmebaaDoor
namespace Rows

/-- THE TIED CARD OF 'laws.FnExactPinsText'. -/
def fnExactPinsTextCard : Claim7 := { stood := { row := fnExactPinsTextRow, standIns := [], harness := (true, "102c2a497bb0f3ec2a07be2bfaae409fb21fb539aafa85c2f3b460615d56b7b4"), looks := true }, kinds := [], alts := [], laidByText := true, laidKinds := [.data, .data, .data], laidTests := true, laidLooks := .later }
def FnExactPinsTextCardSaid : Prop := Claim7.holds Tryd.pinned (.plain (OpenSpec.ofChange fnExactPinsTextSpec)) fnExactPinsTextCard

/-- THE TIED CARD OF 'laws.FnExactParsePins'. -/
def fnExactParsePinsCard : Claim7 := { stood := { row := fnExactParsePinsRow, standIns := [], harness := (true, "102c2a497bb0f3ec2a07be2bfaae409fb21fb539aafa85c2f3b460615d56b7b4"), looks := true }, kinds := [], alts := [], laidByText := true, laidKinds := [.data, .data, .data, .data, .sentinel, .sentinel, .pinned], laidTests := true, laidLooks := .later }
def FnExactParsePinsCardSaid : Prop := Claim7.holds Tryd.pinned (.plain (OpenSpec.ofChange fnExactParsePinsSpec)) fnExactParsePinsCard

/-- THE TIED CARD OF 'laws.FnExactPuzzleText'. -/
def fnExactPuzzleTextCard : Claim7 := { stood := { row := fnExactPuzzleTextRow, standIns := [], harness := (true, "102c2a497bb0f3ec2a07be2bfaae409fb21fb539aafa85c2f3b460615d56b7b4"), looks := true }, kinds := [], alts := [], laidByText := true, laidKinds := [.data, .data, .data], laidTests := true, laidLooks := .later }
def FnExactPuzzleTextCardSaid : Prop := Claim7.holds Tryd.pinned (.plain (OpenSpec.ofChange fnExactPuzzleTextSpec)) fnExactPuzzleTextCard

/-- THE TIED CARD OF 'laws.FnExactParsePuzzle'. -/
def fnExactParsePuzzleCard : Claim7 := { stood := { row := fnExactParsePuzzleRow, standIns := [], harness := (true, "102c2a497bb0f3ec2a07be2bfaae409fb21fb539aafa85c2f3b460615d56b7b4"), looks := true }, kinds := [], alts := [], laidByText := true, laidKinds := [.data, .data, .data, .data, .sentinel, .sentinel, .pinned], laidTests := true, laidLooks := .later }
def FnExactParsePuzzleCardSaid : Prop := Claim7.holds Tryd.pinned (.plain (OpenSpec.ofChange fnExactParsePuzzleSpec)) fnExactParsePuzzleCard

/-- THE SECOND FORM's CARD OF 'laws.FnExactPinsText'. -/
def fnExactPinsTextUptoCard : Claim7 := { stood := { row := fnExactPinsTextUptoRow, standIns := [], harness := (true, "102c2a497bb0f3ec2a07be2bfaae409fb21fb539aafa85c2f3b460615d56b7b4"), looks := true }, kinds := [], alts := [], laidByText := true, laidKinds := [.data, .data, .data], laidTests := true, laidLooks := .later }
def FnExactPinsTextUptoCardSaid : Prop := Claim7.holds Tryd.pinned (.plain (OpenSpec.upto fnExactPinsTextSpec)) fnExactPinsTextUptoCard

/-- THE SECOND FORM's CARD OF 'laws.FnExactParsePins'. -/
def fnExactParsePinsUptoCard : Claim7 := { stood := { row := fnExactParsePinsUptoRow, standIns := [], harness := (true, "102c2a497bb0f3ec2a07be2bfaae409fb21fb539aafa85c2f3b460615d56b7b4"), looks := true }, kinds := [], alts := [], laidByText := true, laidKinds := [.data, .data, .data, .data, .sentinel, .sentinel, .pinned], laidTests := true, laidLooks := .later }
def FnExactParsePinsUptoCardSaid : Prop := Claim7.holds Tryd.pinned (.plain (OpenSpec.upto fnExactParsePinsSpec)) fnExactParsePinsUptoCard

/-- THE SECOND FORM's CARD OF 'laws.FnExactPuzzleText'. -/
def fnExactPuzzleTextUptoCard : Claim7 := { stood := { row := fnExactPuzzleTextUptoRow, standIns := [], harness := (true, "102c2a497bb0f3ec2a07be2bfaae409fb21fb539aafa85c2f3b460615d56b7b4"), looks := true }, kinds := [], alts := [], laidByText := true, laidKinds := [.data, .data, .data], laidTests := true, laidLooks := .later }
def FnExactPuzzleTextUptoCardSaid : Prop := Claim7.holds Tryd.pinned (.plain (OpenSpec.upto fnExactPuzzleTextSpec)) fnExactPuzzleTextUptoCard

/-- THE SECOND FORM's CARD OF 'laws.FnExactParsePuzzle'. -/
def fnExactParsePuzzleUptoCard : Claim7 := { stood := { row := fnExactParsePuzzleUptoRow, standIns := [], harness := (true, "102c2a497bb0f3ec2a07be2bfaae409fb21fb539aafa85c2f3b460615d56b7b4"), looks := true }, kinds := [], alts := [], laidByText := true, laidKinds := [.data, .data, .data, .data, .sentinel, .sentinel, .pinned], laidTests := true, laidLooks := .later }
def FnExactParsePuzzleUptoCardSaid : Prop := Claim7.holds Tryd.pinned (.plain (OpenSpec.upto fnExactParsePuzzleSpec)) fnExactParsePuzzleUptoCard
end Rows
end Go.Proofs.YtgdjbclkdnmebaaDoor
