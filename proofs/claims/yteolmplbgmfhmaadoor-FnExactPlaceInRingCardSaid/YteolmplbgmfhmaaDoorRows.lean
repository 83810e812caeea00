/-
  NARROWER THAN 'FOR EVERY INPUT', by the rows' own cells (each row's printed sentence says how): FnExactLeastRing: laid · FnExactGreatestRing: laid · FnExactPlaceInRing: laid · FnExactCodeAtPlace: laid · FnExactLeastWords: laid · FnExactOpeningText: laid.
  DERIVED. THE GIVEN ROWS OF THIS SEAT. 6 by the template 'for every input the law returns true; each argument reads behind the call as it read before'; 0 by the template 'total and deterministic' (their statements: YteolmplbgmfhmaaDoorTotals.lean).
  GIVEN WITH THE SEED: the statements are not yours to turn. If you find one false, say at which input.
  Laid BY PROGRAM, IN A SANDBOX (cutbox-rows.mjs): the forced cells as the released guide's own fill.sh prints them over the translation 140fb9bf40c4982e… (all of the seat's roots in one cut). By AI agents, Wed Nov 11 2026. No macro, syntax, notation, axiom, sorry.
-/
import Derived.Test.YteolmplbgmfhmaaDoorChecked
import GoSem.PinnedTables
import GoSem.Claim
import GoSem.ClaimJoined
import GoSem.ClaimMapViews
import Derived.JoinedTies
import Derived.KernelRfl
namespace Go.Proofs.YteolmplbgmfhmaaDoor
/- THE CELL 'sum', in the pinned program and in every row, IS THE sha256 OF THE DUMP (.gsa) THAT YteolmplbgmfhmaaDoorProg.lean LOADS. Nothing in Lean hashes anything: it is a label: what it is worth is what the hold of that sum in a sandbox is worth. -/
noncomputable def Tryd.pinned : Pinned := { name := "yteolmplbgmfhmaadoor", sum := "140fb9bf40c4982e521dffa35a0d661ac23830db518a507fb4a98c4043bf5a08", checked := Tryd.checked }
namespace Rows
def none {H : Type} : Left H := { results := [], args := [] }

/- WHAT THE LISTED PACKAGE-LEVEL VARIABLES READ AS WHEN THE CALL BEGINS. Each datum BY PROGRAM (the guide's laid-datum.mjs) off the statement by which the dump's own 'gosem.cut.vars' lays the variable. In a bare row this is a premise. The card (YteolmplbgmfhmaaDoorCards.lean) ties it to the program's text. -/
def laid_unicode_utf8_acceptRanges {H : Type} : DataW H := .agg [.agg [.lit (.int .u8 128), .lit (.int .u8 191)], .agg [.lit (.int .u8 160), .lit (.int .u8 191)], .agg [.lit (.int .u8 128), .lit (.int .u8 159)], .agg [.lit (.int .u8 144), .lit (.int .u8 191)], .agg [.lit (.int .u8 128), .lit (.int .u8 143)], .agg [.lit (.int .u8 0), .lit (.int .u8 0)], .agg [.lit (.int .u8 0), .lit (.int .u8 0)], .agg [.lit (.int .u8 0), .lit (.int .u8 0)], .agg [.lit (.int .u8 0), .lit (.int .u8 0)], .agg [.lit (.int .u8 0), .lit (.int .u8 0)], .agg [.lit (.int .u8 0), .lit (.int .u8 0)], .agg [.lit (.int .u8 0), .lit (.int .u8 0)], .agg [.lit (.int .u8 0), .lit (.int .u8 0)], .agg [.lit (.int .u8 0), .lit (.int .u8 0)], .agg [.lit (.int .u8 0), .lit (.int .u8 0)], .agg [.lit (.int .u8 0), .lit (.int .u8 0)]]
/-- One of Go's own tables, pinned by name: the form's constant. -/
def laid_unicode_utf8_first : DataW Unit := Go.Pinned.utf8First

/-- 'laws.FnExactLeastRing': WHATEVER THE INPUT: true; the input reads as it did. -/
def fnExactLeastRingSpec : ChangeSpec := { name := "fnExactLeastRing", fn := fun _ => fun
  | [d] => { results := [.lit (.bool true)], args := [d] }
  | _ => none }
def fnExactLeastRingRow : OpenClaim := { program := "yteolmplbgmfhmaadoor", sum := "140fb9bf40c4982e521dffa35a0d661ac23830db518a507fb4a98c4043bf5a08", func := "loop.example/g01304/laws.FnExactLeastRing", spec := "fnExactLeastRing", inPlace := ["internal/abi.NoEscape", "internal/bytealg.MakeNoZero", "internal/bytealg.IndexByteString", "internal/bytealg.IndexString"], unfollowed := true, recurses := true, named := ["unicode/utf8.first", "unicode/utf8.acceptRanges", "internal/bytealg.MaxLen"], apart := false, laid := [("unicode/utf8.acceptRanges", laid_unicode_utf8_acceptRanges), ("unicode/utf8.first", laid_unicode_utf8_first)] }
def FnExactLeastRingSaid : Prop := fnExactLeastRingRow.holds Tryd.pinned (OpenSpec.ofChange fnExactLeastRingSpec)

/-- ITS FALSE NEIGHBOUR: 'it returns false'. Refute it at one input. -/
def fnExactLeastRingWrong : ChangeSpec := { name := "fnExactLeastRing", fn := fun _ => fun
  | [d] => { results := [.lit (.bool false)], args := [d] }
  | _ => none }
def FnExactLeastRingWrongFalsely : Prop := fnExactLeastRingRow.holds Tryd.pinned (OpenSpec.ofChange fnExactLeastRingWrong)

/-- 'laws.FnExactGreatestRing': WHATEVER THE INPUT: true; the input reads as it did. -/
def fnExactGreatestRingSpec : ChangeSpec := { name := "fnExactGreatestRing", fn := fun _ => fun
  | [d] => { results := [.lit (.bool true)], args := [d] }
  | _ => none }
def fnExactGreatestRingRow : OpenClaim := { program := "yteolmplbgmfhmaadoor", sum := "140fb9bf40c4982e521dffa35a0d661ac23830db518a507fb4a98c4043bf5a08", func := "loop.example/g01304/laws.FnExactGreatestRing", spec := "fnExactGreatestRing", inPlace := ["internal/abi.NoEscape", "internal/bytealg.MakeNoZero", "internal/bytealg.IndexByteString", "internal/bytealg.IndexString"], unfollowed := true, recurses := true, named := ["unicode/utf8.first", "unicode/utf8.acceptRanges", "internal/bytealg.MaxLen"], apart := false, laid := [("unicode/utf8.acceptRanges", laid_unicode_utf8_acceptRanges), ("unicode/utf8.first", laid_unicode_utf8_first)] }
def FnExactGreatestRingSaid : Prop := fnExactGreatestRingRow.holds Tryd.pinned (OpenSpec.ofChange fnExactGreatestRingSpec)

/-- ITS FALSE NEIGHBOUR: 'it returns false'. Refute it at one input. -/
def fnExactGreatestRingWrong : ChangeSpec := { name := "fnExactGreatestRing", fn := fun _ => fun
  | [d] => { results := [.lit (.bool false)], args := [d] }
  | _ => none }
def FnExactGreatestRingWrongFalsely : Prop := fnExactGreatestRingRow.holds Tryd.pinned (OpenSpec.ofChange fnExactGreatestRingWrong)

/-- 'laws.FnExactPlaceInRing': WHATEVER THE INPUT: true; the input reads as it did. -/
def fnExactPlaceInRingSpec : ChangeSpec := { name := "fnExactPlaceInRing", fn := fun _ => fun
  | [d1, d2] => { results := [.lit (.bool true)], args := [d1, d2] }
  | _ => none }
def fnExactPlaceInRingRow : OpenClaim := { program := "yteolmplbgmfhmaadoor", sum := "140fb9bf40c4982e521dffa35a0d661ac23830db518a507fb4a98c4043bf5a08", func := "loop.example/g01304/laws.FnExactPlaceInRing", spec := "fnExactPlaceInRing", inPlace := ["internal/abi.NoEscape", "internal/bytealg.MakeNoZero", "internal/bytealg.IndexByteString", "internal/bytealg.IndexString"], unfollowed := true, recurses := true, named := ["unicode/utf8.first", "unicode/utf8.acceptRanges", "internal/bytealg.MaxLen"], apart := false, laid := [("unicode/utf8.acceptRanges", laid_unicode_utf8_acceptRanges), ("unicode/utf8.first", laid_unicode_utf8_first)] }
def FnExactPlaceInRingSaid : Prop := fnExactPlaceInRingRow.holds Tryd.pinned (OpenSpec.ofChange fnExactPlaceInRingSpec)

/-- ITS FALSE NEIGHBOUR: 'it returns false'. Refute it at one input. -/
def fnExactPlaceInRingWrong : ChangeSpec := { name := "fnExactPlaceInRing", fn := fun _ => fun
  | [d1, d2] => { results := [.lit (.bool false)], args := [d1, d2] }
  | _ => none }
def FnExactPlaceInRingWrongFalsely : Prop := fnExactPlaceInRingRow.holds Tryd.pinned (OpenSpec.ofChange fnExactPlaceInRingWrong)

/-- 'laws.FnExactCodeAtPlace': WHATEVER THE INPUT: true; the input reads as it did. -/
def fnExactCodeAtPlaceSpec : ChangeSpec := { name := "fnExactCodeAtPlace", fn := fun _ => fun
  | [d1, d2] => { results := [.lit (.bool true)], args := [d1, d2] }
  | _ => none }
def fnExactCodeAtPlaceRow : OpenClaim := { program := "yteolmplbgmfhmaadoor", sum := "140fb9bf40c4982e521dffa35a0d661ac23830db518a507fb4a98c4043bf5a08", func := "loop.example/g01304/laws.FnExactCodeAtPlace", spec := "fnExactCodeAtPlace", inPlace := ["internal/abi.NoEscape", "internal/bytealg.MakeNoZero", "internal/bytealg.IndexByteString", "internal/bytealg.IndexString"], unfollowed := true, recurses := true, named := ["unicode/utf8.first", "unicode/utf8.acceptRanges", "internal/bytealg.MaxLen"], apart := false, laid := [("unicode/utf8.acceptRanges", laid_unicode_utf8_acceptRanges), ("unicode/utf8.first", laid_unicode_utf8_first)] }
def FnExactCodeAtPlaceSaid : Prop := fnExactCodeAtPlaceRow.holds Tryd.pinned (OpenSpec.ofChange fnExactCodeAtPlaceSpec)

/-- ITS FALSE NEIGHBOUR: 'it returns false'. Refute it at one input. -/
def fnExactCodeAtPlaceWrong : ChangeSpec := { name := "fnExactCodeAtPlace", fn := fun _ => fun
  | [d1, d2] => { results := [.lit (.bool false)], args := [d1, d2] }
  | _ => none }
def FnExactCodeAtPlaceWrongFalsely : Prop := fnExactCodeAtPlaceRow.holds Tryd.pinned (OpenSpec.ofChange fnExactCodeAtPlaceWrong)

/-- 'laws.FnExactLeastWords': WHATEVER THE INPUT: true; the input reads as it did. -/
def fnExactLeastWordsSpec : ChangeSpec := { name := "fnExactLeastWords", fn := fun _ => fun
  | [d] => { results := [.lit (.bool true)], args := [d] }
  | _ => none }
def fnExactLeastWordsRow : OpenClaim := { program := "yteolmplbgmfhmaadoor", sum := "140fb9bf40c4982e521dffa35a0d661ac23830db518a507fb4a98c4043bf5a08", func := "loop.example/g01304/laws.FnExactLeastWords", spec := "fnExactLeastWords", inPlace := ["internal/abi.NoEscape", "internal/bytealg.MakeNoZero", "internal/bytealg.IndexByteString", "internal/bytealg.IndexString"], unfollowed := true, recurses := true, named := ["unicode/utf8.first", "unicode/utf8.acceptRanges", "internal/bytealg.MaxLen"], apart := false, laid := [("unicode/utf8.acceptRanges", laid_unicode_utf8_acceptRanges), ("unicode/utf8.first", laid_unicode_utf8_first)] }
def FnExactLeastWordsSaid : Prop := fnExactLeastWordsRow.holds Tryd.pinned (OpenSpec.ofChange fnExactLeastWordsSpec)

/-- ITS FALSE NEIGHBOUR: 'it returns false'. Refute it at one input. -/
def fnExactLeastWordsWrong : ChangeSpec := { name := "fnExactLeastWords", fn := fun _ => fun
  | [d] => { results := [.lit (.bool false)], args := [d] }
  | _ => none }
def FnExactLeastWordsWrongFalsely : Prop := fnExactLeastWordsRow.holds Tryd.pinned (OpenSpec.ofChange fnExactLeastWordsWrong)

/-- 'laws.FnExactOpeningText': WHATEVER THE INPUT: true; the input reads as it did. -/
def fnExactOpeningTextSpec : ChangeSpec := { name := "fnExactOpeningText", fn := fun _ => fun
  | [d] => { results := [.lit (.bool true)], args := [d] }
  | _ => none }
def fnExactOpeningTextRow : OpenClaim := { program := "yteolmplbgmfhmaadoor", sum := "140fb9bf40c4982e521dffa35a0d661ac23830db518a507fb4a98c4043bf5a08", func := "loop.example/g01304/laws.FnExactOpeningText", spec := "fnExactOpeningText", inPlace := ["internal/abi.NoEscape", "internal/bytealg.MakeNoZero", "internal/bytealg.IndexByteString", "internal/bytealg.IndexString"], unfollowed := true, recurses := true, named := ["unicode/utf8.first", "unicode/utf8.acceptRanges", "internal/bytealg.MaxLen"], apart := false, laid := [("unicode/utf8.acceptRanges", laid_unicode_utf8_acceptRanges), ("unicode/utf8.first", laid_unicode_utf8_first)] }
def FnExactOpeningTextSaid : Prop := fnExactOpeningTextRow.holds Tryd.pinned (OpenSpec.ofChange fnExactOpeningTextSpec)

/-- ITS FALSE NEIGHBOUR: 'it returns false'. Refute it at one input. -/
def fnExactOpeningTextWrong : ChangeSpec := { name := "fnExactOpeningText", fn := fun _ => fun
  | [d] => { results := [.lit (.bool false)], args := [d] }
  | _ => none }
def FnExactOpeningTextWrongFalsely : Prop := fnExactOpeningTextRow.holds Tryd.pinned (OpenSpec.ofChange fnExactOpeningTextWrong)

/- THE SECOND FORM. 'bulk': how many values and letters a reading holds, each counted each time it is reached (what is shared counts as often as it is met; a slice's spare places count too). A statement '..UptoSaid' is the law's where the arguments, and the package variables that the reading takes, are together of bulk at most 1048576: NARROWER than '..Said'. Prove '..Said' where nothing that the law and all that it calls make is longer than what came in: it says more and counts as full. Else prove '..UptoSaid'. A law counts once. -/
mutual
def uptoBulk {H : Type} : DataW H → Nat
  | .lit (.string bytes) => bytes.length + 1
  | .lit _ => 1
  | .nil => 1
  | .ptr d => uptoBulk d + 1
  | .slice elems spare => uptoBulkAll elems + uptoBulkAll spare + 1
  | .agg parts => uptoBulkAll parts + 1
  | .iface _ d => uptoBulk d + 1
  | .map entries => uptoBulkEntries entries + 1
  | .held _ => 1
def uptoBulkAll {H : Type} : List (DataW H) → Nat
  | [] => 0
  | d :: r => uptoBulk d + uptoBulkAll r
def uptoBulkEntries {H : Type} : List (Lit × DataW H) → Nat
  | [] => 0
  | x :: r => uptoBulkEntry x + uptoBulkEntries r
def uptoBulkEntry {H : Type} : Lit × DataW H → Nat
  | (.string bytes, d) => bytes.length + uptoBulk d + 1
  | (_, d) => uptoBulk d + 1
 end
def uptoSmall : (H : Type) → List (DataW H) → Bool := fun _ ds => decide (uptoBulkAll ds ≤ 1048576)
def OpenSpec.upto (s : _root_.Go.ChangeSpec) : _root_.Go.OpenSpec := { _root_.Go.OpenSpec.ofChange s with cond := some uptoSmall }

/-- 'laws.FnExactLeastRing', WHERE WHAT IT READS IS OF BULK AT MOST 1048576: true; the input reads as it did. -/
def fnExactLeastRingUptoRow : OpenClaim := { program := "yteolmplbgmfhmaadoor", sum := "140fb9bf40c4982e521dffa35a0d661ac23830db518a507fb4a98c4043bf5a08", func := "loop.example/g01304/laws.FnExactLeastRing", spec := "fnExactLeastRing", inPlace := ["internal/abi.NoEscape", "internal/bytealg.MakeNoZero", "internal/bytealg.IndexByteString", "internal/bytealg.IndexString"], unfollowed := true, recurses := true, named := ["unicode/utf8.first", "unicode/utf8.acceptRanges", "internal/bytealg.MaxLen"], apart := false, laid := [("unicode/utf8.acceptRanges", laid_unicode_utf8_acceptRanges), ("unicode/utf8.first", laid_unicode_utf8_first)], narrowed := true }
def FnExactLeastRingUptoSaid : Prop := fnExactLeastRingUptoRow.holds Tryd.pinned (OpenSpec.upto fnExactLeastRingSpec)

/-- 'laws.FnExactGreatestRing', WHERE WHAT IT READS IS OF BULK AT MOST 1048576: true; the input reads as it did. -/
def fnExactGreatestRingUptoRow : OpenClaim := { program := "yteolmplbgmfhmaadoor", sum := "140fb9bf40c4982e521dffa35a0d661ac23830db518a507fb4a98c4043bf5a08", func := "loop.example/g01304/laws.FnExactGreatestRing", spec := "fnExactGreatestRing", inPlace := ["internal/abi.NoEscape", "internal/bytealg.MakeNoZero", "internal/bytealg.IndexByteString", "internal/bytealg.IndexString"], unfollowed := true, recurses := true, named := ["unicode/utf8.first", "unicode/utf8.acceptRanges", "internal/bytealg.MaxLen"], apart := false, laid := [("unicode/utf8.acceptRanges", laid_unicode_utf8_acceptRanges), ("unicode/utf8.first", laid_unicode_utf8_first)], narrowed := true }
def FnExactGreatestRingUptoSaid : Prop := fnExactGreatestRingUptoRow.holds Tryd.pinned (OpenSpec.upto fnExactGreatestRingSpec)

/-- 'laws.FnExactPlaceInRing', WHERE WHAT IT READS IS OF BULK AT MOST 1048576: true; the input reads as it did. -/
def fnExactPlaceInRingUptoRow : OpenClaim := { program := "yteolmplbgmfhmaadoor", sum := "140fb9bf40c4982e521dffa35a0d661ac23830db518a507fb4a98c4043bf5a08", func := "loop.example/g01304/laws.FnExactPlaceInRing", spec := "fnExactPlaceInRing", inPlace := ["internal/abi.NoEscape", "internal/bytealg.MakeNoZero", "internal/bytealg.IndexByteString", "internal/bytealg.IndexString"], unfollowed := true, recurses := true, named := ["unicode/utf8.first", "unicode/utf8.acceptRanges", "internal/bytealg.MaxLen"], apart := false, laid := [("unicode/utf8.acceptRanges", laid_unicode_utf8_acceptRanges), ("unicode/utf8.first", laid_unicode_utf8_first)], narrowed := true }
def FnExactPlaceInRingUptoSaid : Prop := fnExactPlaceInRingUptoRow.holds Tryd.pinned (OpenSpec.upto fnExactPlaceInRingSpec)

/-- 'laws.FnExactCodeAtPlace', WHERE WHAT IT READS IS OF BULK AT MOST 1048576: true; the input reads as it did. -/
def fnExactCodeAtPlaceUptoRow : OpenClaim := { program := "yteolmplbgmfhmaadoor", sum := "140fb9bf40c4982e521dffa35a0d661ac23830db518a507fb4a98c4043bf5a08", func := "loop.example/g01304/laws.FnExactCodeAtPlace", spec := "fnExactCodeAtPlace", inPlace := ["internal/abi.NoEscape", "internal/bytealg.MakeNoZero", "internal/bytealg.IndexByteString", "internal/bytealg.IndexString"], unfollowed := true, recurses := true, named := ["unicode/utf8.first", "unicode/utf8.acceptRanges", "internal/bytealg.MaxLen"], apart := false, laid := [("unicode/utf8.acceptRanges", laid_unicode_utf8_acceptRanges), ("unicode/utf8.first", laid_unicode_utf8_first)], narrowed := true }
def FnExactCodeAtPlaceUptoSaid : Prop := fnExactCodeAtPlaceUptoRow.holds Tryd.pinned (OpenSpec.upto fnExactCodeAtPlaceSpec)

/-- 'laws.FnExactLeastWords', WHERE WHAT IT READS IS OF BULK AT MOST 1048576: true; the input reads as it did. -/
def fnExactLeastWordsUptoRow : OpenClaim := { program := "yteolmplbgmfhmaadoor", sum := "140fb9bf40c4982e521dffa35a0d661ac23830db518a507fb4a98c4043bf5a08", func := "loop.example/g01304/laws.FnExactLeastWords", spec := "fnExactLeastWords", inPlace := ["internal/abi.NoEscape", "internal/bytealg.MakeNoZero", "internal/bytealg.IndexByteString", "internal/bytealg.IndexString"], unfollowed := true, recurses := true, named := ["unicode/utf8.first", "unicode/utf8.acceptRanges", "internal/bytealg.MaxLen"], apart := false, laid := [("unicode/utf8.acceptRanges", laid_unicode_utf8_acceptRanges), ("unicode/utf8.first", laid_unicode_utf8_first)], narrowed := true }
def FnExactLeastWordsUptoSaid : Prop := fnExactLeastWordsUptoRow.holds Tryd.pinned (OpenSpec.upto fnExactLeastWordsSpec)

/-- 'laws.FnExactOpeningText', WHERE WHAT IT READS IS OF BULK AT MOST 1048576: true; the input reads as it did. -/
def fnExactOpeningTextUptoRow : OpenClaim := { program := "yteolmplbgmfhmaadoor", sum := "140fb9bf40c4982e521dffa35a0d661ac23830db518a507fb4a98c4043bf5a08", func := "loop.example/g01304/laws.FnExactOpeningText", spec := "fnExactOpeningText", inPlace := ["internal/abi.NoEscape", "internal/bytealg.MakeNoZero", "internal/bytealg.IndexByteString", "internal/bytealg.IndexString"], unfollowed := true, recurses := true, named := ["unicode/utf8.first", "unicode/utf8.acceptRanges", "internal/bytealg.MaxLen"], apart := false, laid := [("unicode/utf8.acceptRanges", laid_unicode_utf8_acceptRanges), ("unicode/utf8.first", laid_unicode_utf8_first)], narrowed := true }
def FnExactOpeningTextUptoSaid : Prop := fnExactOpeningTextUptoRow.holds Tryd.pinned (OpenSpec.upto fnExactOpeningTextSpec)

end Rows
end Go.Proofs.YteolmplbgmfhmaaDoor
