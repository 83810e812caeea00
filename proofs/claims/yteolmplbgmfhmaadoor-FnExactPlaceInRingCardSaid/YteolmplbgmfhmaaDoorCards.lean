/-
  DERIVED. GIVEN WITH THE SEED: THE CARDS: each row of YteolmplbgmfhmaaDoorRows.lean that lists a variable, with what it lists TIED to the program's text (the seventh form; the later family's looks); each row that meets fmt, with fmt's text TOLD by the authors' own Lean function (tested against real Go, not proved from fmt's source: count such statements apart). THE CARD IS WHAT COUNTS. Prove the row's statement (the work); the ties are given (YteolmplbgmfhmaaDoorTie.lean); close each card by the builder's one call (the guide's Derived/Test/ToyasCard.lean, 'card_holds'). Laid BY PROGRAM, IN A SANDBOX (cutbox-door.mjs). By AI agents, Wed Nov 11 2026. No macro, syntax, notation, axiom, sorry.
-/
import Derived.Test.YteolmplbgmfhmaaDoorRows
import GoSem.ClaimSeven
namespace Go.Proofs.YteolmplbgmfhmaaDoor
namespace Rows

/-- THE TIED CARD OF 'laws.FnExactLeastRing'. -/
def fnExactLeastRingCard : Claim7 := { stood := { row := fnExactLeastRingRow, standIns := [], harness := (true, "b510c07f0c86b925a9fa6362055e44ec8cc6517653674b74aa086380088c0875"), looks := false }, kinds := [], alts := [], laidByText := true, laidKinds := [.data, .pinned], laidTests := true, laidLooks := .later }
def FnExactLeastRingCardSaid : Prop := Claim7.holds Tryd.pinned (.plain (OpenSpec.ofChange fnExactLeastRingSpec)) fnExactLeastRingCard

/-- THE TIED CARD OF 'laws.FnExactGreatestRing'. -/
def fnExactGreatestRingCard : Claim7 := { stood := { row := fnExactGreatestRingRow, standIns := [], harness := (true, "b510c07f0c86b925a9fa6362055e44ec8cc6517653674b74aa086380088c0875"), looks := false }, kinds := [], alts := [], laidByText := true, laidKinds := [.data, .pinned], laidTests := true, laidLooks := .later }
def FnExactGreatestRingCardSaid : Prop := Claim7.holds Tryd.pinned (.plain (OpenSpec.ofChange fnExactGreatestRingSpec)) fnExactGreatestRingCard

/-- THE TIED CARD OF 'laws.FnExactPlaceInRing'. -/
def fnExactPlaceInRingCard : Claim7 := { stood := { row := fnExactPlaceInRingRow, standIns := [], harness := (true, "b510c07f0c86b925a9fa6362055e44ec8cc6517653674b74aa086380088c0875"), looks := false }, kinds := [], alts := [], laidByText := true, laidKinds := [.data, .pinned], laidTests := true, laidLooks := .later }
def FnExactPlaceInRingCardSaid : Prop := Claim7.holds Tryd.pinned (.plain (OpenSpec.ofChange fnExactPlaceInRingSpec)) fnExactPlaceInRingCard

/-- THE TIED CARD OF 'laws.FnExactCodeAtPlace'. -/
def fnExactCodeAtPlaceCard : Claim7 := { stood := { row := fnExactCodeAtPlaceRow, standIns := [], harness := (true, "b510c07f0c86b925a9fa6362055e44ec8cc6517653674b74aa086380088c0875"), looks := false }, kinds := [], alts := [], laidByText := true, laidKinds := [.data, .pinned], laidTests := true, laidLooks := .later }
def FnExactCodeAtPlaceCardSaid : Prop := Claim7.holds Tryd.pinned (.plain (OpenSpec.ofChange fnExactCodeAtPlaceSpec)) fnExactCodeAtPlaceCard

/-- THE TIED CARD OF 'laws.FnExactLeastWords'. -/
def fnExactLeastWordsCard : Claim7 := { stood := { row := fnExactLeastWordsRow, standIns := [], harness := (true, "b510c07f0c86b925a9fa6362055e44ec8cc6517653674b74aa086380088c0875"), looks := false }, kinds := [], alts := [], laidByText := true, laidKinds := [.data, .pinned], laidTests := true, laidLooks := .later }
def FnExactLeastWordsCardSaid : Prop := Claim7.holds Tryd.pinned (.plain (OpenSpec.ofChange fnExactLeastWordsSpec)) fnExactLeastWordsCard

/-- THE TIED CARD OF 'laws.FnExactOpeningText'. -/
def fnExactOpeningTextCard : Claim7 := { stood := { row := fnExactOpeningTextRow, standIns := [], harness := (true, "b510c07f0c86b925a9fa6362055e44ec8cc6517653674b74aa086380088c0875"), looks := false }, kinds := [], alts := [], laidByText := true, laidKinds := [.data, .pinned], laidTests := true, laidLooks := .later }
def FnExactOpeningTextCardSaid : Prop := Claim7.holds Tryd.pinned (.plain (OpenSpec.ofChange fnExactOpeningTextSpec)) fnExactOpeningTextCard

/-- THE SECOND FORM's CARD OF 'laws.FnExactLeastRing'. -/
def fnExactLeastRingUptoCard : Claim7 := { stood := { row := fnExactLeastRingUptoRow, standIns := [], harness := (true, "b510c07f0c86b925a9fa6362055e44ec8cc6517653674b74aa086380088c0875"), looks := false }, kinds := [], alts := [], laidByText := true, laidKinds := [.data, .pinned], laidTests := true, laidLooks := .later }
def FnExactLeastRingUptoCardSaid : Prop := Claim7.holds Tryd.pinned (.plain (OpenSpec.upto fnExactLeastRingSpec)) fnExactLeastRingUptoCard

/-- THE SECOND FORM's CARD OF 'laws.FnExactGreatestRing'. -/
def fnExactGreatestRingUptoCard : Claim7 := { stood := { row := fnExactGreatestRingUptoRow, standIns := [], harness := (true, "b510c07f0c86b925a9fa6362055e44ec8cc6517653674b74aa086380088c0875"), looks := false }, kinds := [], alts := [], laidByText := true, laidKinds := [.data, .pinned], laidTests := true, laidLooks := .later }
def FnExactGreatestRingUptoCardSaid : Prop := Claim7.holds Tryd.pinned (.plain (OpenSpec.upto fnExactGreatestRingSpec)) fnExactGreatestRingUptoCard

/-- THE SECOND FORM's CARD OF 'laws.FnExactPlaceInRing'. -/
def fnExactPlaceInRingUptoCard : Claim7 := { stood := { row := fnExactPlaceInRingUptoRow, standIns := [], harness := (true, "b510c07f0c86b925a9fa6362055e44ec8cc6517653674b74aa086380088c0875"), looks := false }, kinds := [], alts := [], laidByText := true, laidKinds := [.data, .pinned], laidTests := true, laidLooks := .later }
def FnExactPlaceInRingUptoCardSaid : Prop := Claim7.holds Tryd.pinned (.plain (OpenSpec.upto fnExactPlaceInRingSpec)) fnExactPlaceInRingUptoCard

/-- THE SECOND FORM's CARD OF 'laws.FnExactCodeAtPlace'. -/
def fnExactCodeAtPlaceUptoCard : Claim7 := { stood := { row := fnExactCodeAtPlaceUptoRow, standIns := [], harness := (true, "b510c07f0c86b925a9fa6362055e44ec8cc6517653674b74aa086380088c0875"), looks := false }, kinds := [], alts := [], laidByText := true, laidKinds := [.data, .pinned], laidTests := true, laidLooks := .later }
def FnExactCodeAtPlaceUptoCardSaid : Prop := Claim7.holds Tryd.pinned (.plain (OpenSpec.upto fnExactCodeAtPlaceSpec)) fnExactCodeAtPlaceUptoCard

/-- THE SECOND FORM's CARD OF 'laws.FnExactLeastWords'. -/
def fnExactLeastWordsUptoCard : Claim7 := { stood := { row := fnExactLeastWordsUptoRow, standIns := [], harness := (true, "b510c07f0c86b925a9fa6362055e44ec8cc6517653674b74aa086380088c0875"), looks := false }, kinds := [], alts := [], laidByText := true, laidKinds := [.data, .pinned], laidTests := true, laidLooks := .later }
def FnExactLeastWordsUptoCardSaid : Prop := Claim7.holds Tryd.pinned (.plain (OpenSpec.upto fnExactLeastWordsSpec)) fnExactLeastWordsUptoCard

/-- THE SECOND FORM's CARD OF 'laws.FnExactOpeningText'. -/
def fnExactOpeningTextUptoCard : Claim7 := { stood := { row := fnExactOpeningTextUptoRow, standIns := [], harness := (true, "b510c07f0c86b925a9fa6362055e44ec8cc6517653674b74aa086380088c0875"), looks := false }, kinds := [], alts := [], laidByText := true, laidKinds := [.data, .pinned], laidTests := true, laidLooks := .later }
def FnExactOpeningTextUptoCardSaid : Prop := Claim7.holds Tryd.pinned (.plain (OpenSpec.upto fnExactOpeningTextSpec)) fnExactOpeningTextUptoCard
end Rows
end Go.Proofs.YteolmplbgmfhmaaDoor
