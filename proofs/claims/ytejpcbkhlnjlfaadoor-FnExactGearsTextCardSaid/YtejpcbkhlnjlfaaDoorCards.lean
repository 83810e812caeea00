/-
  DERIVED. GIVEN WITH THE SEED: THE CARDS: each row of YtejpcbkhlnjlfaaDoorRows.lean that lists a variable, with what it lists TIED to the program's text (the seventh form; the later family's looks); each row that meets fmt, with fmt's text TOLD by the authors' own Lean function (tested against real Go, not proved from fmt's source: count such statements apart). THE CARD IS WHAT COUNTS. Prove the row's statement (the work); the ties are given (YtejpcbkhlnjlfaaDoorTie.lean); close each card by the builder's one call (the guide's Derived/Test/ToyasCard.lean, 'card_holds'). Laid BY PROGRAM, IN A SANDBOX (cutbox-door.mjs). By AI agents, Wed Nov 11 2026. No macro, syntax, notation, axiom, sorry.
-/
import Derived.Test.YtejpcbkhlnjlfaaDoorRows
import GoSem.ClaimSeven
namespace Go.Proofs.YtejpcbkhlnjlfaaDoor
namespace Rows

/-- THE TIED CARD OF 'laws.FnExactGearsText'. -/
def fnExactGearsTextCard : Claim7 := { stood := { row := fnExactGearsTextRow, standIns := [], harness := (true, "92509c7eda68b0c188cfc58785aeea88a4104de29a73d09e14559351d7f1f2b0"), looks := true }, kinds := [], alts := [], laidByText := true, laidKinds := [.data, .data, .data], laidTests := true, laidLooks := .later }
def FnExactGearsTextCardSaid : Prop := Claim7.holds Tryd.pinned (.plain (OpenSpec.ofChange fnExactGearsTextSpec)) fnExactGearsTextCard

/-- THE TIED CARD OF 'laws.FnExactParseGears'. -/
def fnExactParseGearsCard : Claim7 := { stood := { row := fnExactParseGearsRow, standIns := [], harness := (true, "92509c7eda68b0c188cfc58785aeea88a4104de29a73d09e14559351d7f1f2b0"), looks := true }, kinds := [], alts := [], laidByText := true, laidKinds := [.data, .data, .data, .data, .sentinel, .sentinel, .pinned], laidTests := true, laidLooks := .later }
def FnExactParseGearsCardSaid : Prop := Claim7.holds Tryd.pinned (.plain (OpenSpec.ofChange fnExactParseGearsSpec)) fnExactParseGearsCard

/-- THE SECOND FORM's CARD OF 'laws.FnExactGearsText'. -/
def fnExactGearsTextUptoCard : Claim7 := { stood := { row := fnExactGearsTextUptoRow, standIns := [], harness := (true, "92509c7eda68b0c188cfc58785aeea88a4104de29a73d09e14559351d7f1f2b0"), looks := true }, kinds := [], alts := [], laidByText := true, laidKinds := [.data, .data, .data], laidTests := true, laidLooks := .later }
def FnExactGearsTextUptoCardSaid : Prop := Claim7.holds Tryd.pinned (.plain (OpenSpec.upto fnExactGearsTextSpec)) fnExactGearsTextUptoCard

/-- THE SECOND FORM's CARD OF 'laws.FnExactParseGears'. -/
def fnExactParseGearsUptoCard : Claim7 := { stood := { row := fnExactParseGearsUptoRow, standIns := [], harness := (true, "92509c7eda68b0c188cfc58785aeea88a4104de29a73d09e14559351d7f1f2b0"), looks := true }, kinds := [], alts := [], laidByText := true, laidKinds := [.data, .data, .data, .data, .sentinel, .sentinel, .pinned], laidTests := true, laidLooks := .later }
def FnExactParseGearsUptoCardSaid : Prop := Claim7.holds Tryd.pinned (.plain (OpenSpec.upto fnExactParseGearsSpec)) fnExactParseGearsUptoCard
end Rows
end Go.Proofs.YtejpcbkhlnjlfaaDoor
