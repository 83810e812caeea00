/-
  No cell of these rows narrows 'for every input' (looked for: loops, veiled, ifaces, maps, wideKeys, modest, calm, conditions, laid).
  DERIVED. THE GIVEN ROWS OF THIS SEAT. 8 by the template 'for every input the law returns true; each argument reads behind the call as it read before'; 0 by the template 'total and deterministic' (their statements: YthnekpdakjcadabTotals.lean).
  GIVEN WITH THE SEED: the statements are not yours to turn. If you find one false, say at which input.
  Laid BY PROGRAM, IN A SANDBOX (cutbox-rows.mjs): the forced cells as the released guide's own fill.sh prints them over the translation 6ae13d8c01d19a7c… (all of the seat's roots in one cut). By AI agents, Wed Nov 11 2026. No macro, syntax, notation, axiom, sorry.
-/
import Derived.Test.YthnekpdakjcadabChecked
import GoSem.Claim
import GoSem.ClaimJoined
import GoSem.ClaimMapViews
import Derived.JoinedTies
import Derived.KernelRfl
namespace Go.Proofs.Ythnekpdakjcadab
/- THE CELL 'sum', in the pinned program and in every row, IS THE sha256 OF THE DUMP (.gsa) THAT YthnekpdakjcadabProg.lean LOADS. Nothing in Lean hashes anything: it is a label: what it is worth is what the hold of that sum in a sandbox is worth. -/
noncomputable def Try.pinned : Pinned := { name := "ythnekpdakjcadab", sum := "6ae13d8c01d19a7c2e7121bf925770549e1b681e4c47ef2ab4dc590fcac5d4be", checked := Try.checked }
namespace Rows
def none {H : Type} : Left H := { results := [], args := [] }

/-- 'laws.FnExactFarthestCodes': WHATEVER THE INPUT: true; the input reads as it did. -/
def fnExactFarthestCodesSpec : ChangeSpec := { name := "fnExactFarthestCodes", fn := fun _ => fun
  | [d1, d2] => { results := [.lit (.bool true)], args := [d1, d2] }
  | _ => none }
def fnExactFarthestCodesRow : OpenClaim := { program := "ythnekpdakjcadab", sum := "6ae13d8c01d19a7c2e7121bf925770549e1b681e4c47ef2ab4dc590fcac5d4be", func := "loop.example/g01304/laws.FnExactFarthestCodes", spec := "fnExactFarthestCodes", recurses := true, apart := false }
def FnExactFarthestCodesSaid : Prop := fnExactFarthestCodesRow.holds Try.pinned (OpenSpec.ofChange fnExactFarthestCodesSpec)

/-- ITS FALSE NEIGHBOUR: 'it returns false'. Refute it at one input. -/
def fnExactFarthestCodesWrong : ChangeSpec := { name := "fnExactFarthestCodes", fn := fun _ => fun
  | [d1, d2] => { results := [.lit (.bool false)], args := [d1, d2] }
  | _ => none }
def FnExactFarthestCodesWrongFalsely : Prop := fnExactFarthestCodesRow.holds Try.pinned (OpenSpec.ofChange fnExactFarthestCodesWrong)

/-- 'laws.FnExactMeanDistance': WHATEVER THE INPUT: true; the input reads as it did. -/
def fnExactMeanDistanceSpec : ChangeSpec := { name := "fnExactMeanDistance", fn := fun _ => fun
  | [d] => { results := [.lit (.bool true)], args := [d] }
  | _ => none }
def fnExactMeanDistanceRow : OpenClaim := { program := "ythnekpdakjcadab", sum := "6ae13d8c01d19a7c2e7121bf925770549e1b681e4c47ef2ab4dc590fcac5d4be", func := "loop.example/g01304/laws.FnExactMeanDistance", spec := "fnExactMeanDistance", apart := false }
def FnExactMeanDistanceSaid : Prop := fnExactMeanDistanceRow.holds Try.pinned (OpenSpec.ofChange fnExactMeanDistanceSpec)

/-- ITS FALSE NEIGHBOUR: 'it returns false'. Refute it at one input. -/
def fnExactMeanDistanceWrong : ChangeSpec := { name := "fnExactMeanDistance", fn := fun _ => fun
  | [d] => { results := [.lit (.bool false)], args := [d] }
  | _ => none }
def FnExactMeanDistanceWrongFalsely : Prop := fnExactMeanDistanceRow.holds Try.pinned (OpenSpec.ofChange fnExactMeanDistanceWrong)

/-- 'laws.FnExactNumberOfCode': WHATEVER THE INPUT: true; the input reads as it did. -/
def fnExactNumberOfCodeSpec : ChangeSpec := { name := "fnExactNumberOfCode", fn := fun _ => fun
  | [d1, d2] => { results := [.lit (.bool true)], args := [d1, d2] }
  | _ => none }
def fnExactNumberOfCodeRow : OpenClaim := { program := "ythnekpdakjcadab", sum := "6ae13d8c01d19a7c2e7121bf925770549e1b681e4c47ef2ab4dc590fcac5d4be", func := "loop.example/g01304/laws.FnExactNumberOfCode", spec := "fnExactNumberOfCode", apart := false }
def FnExactNumberOfCodeSaid : Prop := fnExactNumberOfCodeRow.holds Try.pinned (OpenSpec.ofChange fnExactNumberOfCodeSpec)

/-- ITS FALSE NEIGHBOUR: 'it returns false'. Refute it at one input. -/
def fnExactNumberOfCodeWrong : ChangeSpec := { name := "fnExactNumberOfCode", fn := fun _ => fun
  | [d1, d2] => { results := [.lit (.bool false)], args := [d1, d2] }
  | _ => none }
def FnExactNumberOfCodeWrongFalsely : Prop := fnExactNumberOfCodeRow.holds Try.pinned (OpenSpec.ofChange fnExactNumberOfCodeWrong)

/-- 'laws.FnExactCodeOfNumber': WHATEVER THE INPUT: true; the input reads as it did. -/
def fnExactCodeOfNumberSpec : ChangeSpec := { name := "fnExactCodeOfNumber", fn := fun _ => fun
  | [d1, d2] => { results := [.lit (.bool true)], args := [d1, d2] }
  | _ => none }
def fnExactCodeOfNumberRow : OpenClaim := { program := "ythnekpdakjcadab", sum := "6ae13d8c01d19a7c2e7121bf925770549e1b681e4c47ef2ab4dc590fcac5d4be", func := "loop.example/g01304/laws.FnExactCodeOfNumber", spec := "fnExactCodeOfNumber", recurses := true, apart := false }
def FnExactCodeOfNumberSaid : Prop := fnExactCodeOfNumberRow.holds Try.pinned (OpenSpec.ofChange fnExactCodeOfNumberSpec)

/-- ITS FALSE NEIGHBOUR: 'it returns false'. Refute it at one input. -/
def fnExactCodeOfNumberWrong : ChangeSpec := { name := "fnExactCodeOfNumber", fn := fun _ => fun
  | [d1, d2] => { results := [.lit (.bool false)], args := [d1, d2] }
  | _ => none }
def FnExactCodeOfNumberWrongFalsely : Prop := fnExactCodeOfNumberRow.holds Try.pinned (OpenSpec.ofChange fnExactCodeOfNumberWrong)

/-- 'laws.FnExactAddCodes': WHATEVER THE INPUT: true; the input reads as it did. -/
def fnExactAddCodesSpec : ChangeSpec := { name := "fnExactAddCodes", fn := fun _ => fun
  | [d1, d2, d3] => { results := [.lit (.bool true)], args := [d1, d2, d3] }
  | _ => none }
def fnExactAddCodesRow : OpenClaim := { program := "ythnekpdakjcadab", sum := "6ae13d8c01d19a7c2e7121bf925770549e1b681e4c47ef2ab4dc590fcac5d4be", func := "loop.example/g01304/laws.FnExactAddCodes", spec := "fnExactAddCodes", unfollowed := true, recurses := true, apart := false }
def FnExactAddCodesSaid : Prop := fnExactAddCodesRow.holds Try.pinned (OpenSpec.ofChange fnExactAddCodesSpec)

/-- ITS FALSE NEIGHBOUR: 'it returns false'. Refute it at one input. -/
def fnExactAddCodesWrong : ChangeSpec := { name := "fnExactAddCodes", fn := fun _ => fun
  | [d1, d2, d3] => { results := [.lit (.bool false)], args := [d1, d2, d3] }
  | _ => none }
def FnExactAddCodesWrongFalsely : Prop := fnExactAddCodesRow.holds Try.pinned (OpenSpec.ofChange fnExactAddCodesWrong)

/-- 'laws.FnExactOppositeCode': WHATEVER THE INPUT: true; the input reads as it did. -/
def fnExactOppositeCodeSpec : ChangeSpec := { name := "fnExactOppositeCode", fn := fun _ => fun
  | [d1, d2] => { results := [.lit (.bool true)], args := [d1, d2] }
  | _ => none }
def fnExactOppositeCodeRow : OpenClaim := { program := "ythnekpdakjcadab", sum := "6ae13d8c01d19a7c2e7121bf925770549e1b681e4c47ef2ab4dc590fcac5d4be", func := "loop.example/g01304/laws.FnExactOppositeCode", spec := "fnExactOppositeCode", unfollowed := true, recurses := true, apart := false }
def FnExactOppositeCodeSaid : Prop := fnExactOppositeCodeRow.holds Try.pinned (OpenSpec.ofChange fnExactOppositeCodeSpec)

/-- ITS FALSE NEIGHBOUR: 'it returns false'. Refute it at one input. -/
def fnExactOppositeCodeWrong : ChangeSpec := { name := "fnExactOppositeCode", fn := fun _ => fun
  | [d1, d2] => { results := [.lit (.bool false)], args := [d1, d2] }
  | _ => none }
def FnExactOppositeCodeWrongFalsely : Prop := fnExactOppositeCodeRow.holds Try.pinned (OpenSpec.ofChange fnExactOppositeCodeWrong)

/-- 'laws.FnExactTurnsText': WHATEVER THE INPUT: true; the input reads as it did. -/
def fnExactTurnsTextSpec : ChangeSpec := { name := "fnExactTurnsText", fn := fun _ => fun
  | [d] => { results := [.lit (.bool true)], args := [d] }
  | _ => none }
def fnExactTurnsTextRow : OpenClaim := { program := "ythnekpdakjcadab", sum := "6ae13d8c01d19a7c2e7121bf925770549e1b681e4c47ef2ab4dc590fcac5d4be", func := "loop.example/g01304/laws.FnExactTurnsText", spec := "fnExactTurnsText", recurses := true, apart := false }
def FnExactTurnsTextSaid : Prop := fnExactTurnsTextRow.holds Try.pinned (OpenSpec.ofChange fnExactTurnsTextSpec)

/-- ITS FALSE NEIGHBOUR: 'it returns false'. Refute it at one input. -/
def fnExactTurnsTextWrong : ChangeSpec := { name := "fnExactTurnsText", fn := fun _ => fun
  | [d] => { results := [.lit (.bool false)], args := [d] }
  | _ => none }
def FnExactTurnsTextWrongFalsely : Prop := fnExactTurnsTextRow.holds Try.pinned (OpenSpec.ofChange fnExactTurnsTextWrong)

/-- 'laws.FnExactParseTurns': WHATEVER THE INPUT: true; the input reads as it did. -/
def fnExactParseTurnsSpec : ChangeSpec := { name := "fnExactParseTurns", fn := fun _ => fun
  | [d] => { results := [.lit (.bool true)], args := [d] }
  | _ => none }
def fnExactParseTurnsRow : OpenClaim := { program := "ythnekpdakjcadab", sum := "6ae13d8c01d19a7c2e7121bf925770549e1b681e4c47ef2ab4dc590fcac5d4be", func := "loop.example/g01304/laws.FnExactParseTurns", spec := "fnExactParseTurns", apart := false }
def FnExactParseTurnsSaid : Prop := fnExactParseTurnsRow.holds Try.pinned (OpenSpec.ofChange fnExactParseTurnsSpec)

/-- ITS FALSE NEIGHBOUR: 'it returns false'. Refute it at one input. -/
def fnExactParseTurnsWrong : ChangeSpec := { name := "fnExactParseTurns", fn := fun _ => fun
  | [d] => { results := [.lit (.bool false)], args := [d] }
  | _ => none }
def FnExactParseTurnsWrongFalsely : Prop := fnExactParseTurnsRow.holds Try.pinned (OpenSpec.ofChange fnExactParseTurnsWrong)

/- THE SECOND FORM. 'bulk': how many values and letters a reading holds, each counted each time it is reached (what is shared counts as often as it is met; a slice's spare places count too). A statement '..UptoSaid' is the law's where the arguments, and the package variables that the reading takes, are together of bulk at most 1048576: NARROWER than '..Said'. Prove '..Said' where nothing that the law and all that it calls make is longer than what came in: it says more and counts as full. Else prove '..UptoSaid'. A law counts once. -/
mutual
def uptoBulk {H : Type} : DataW H → Nat
  | .lit (.string bytes) => bytes.length + 1
  | .lit _ => 1
  | .nil => 1
  | .ptr d => uptoBulk d + 1
  | .slice elems spare => uptoBulkAll elems + uptoBulkAll spare + 1
  | .agg parts => uptoBulkAll parts + 1
  | .iface _ d => uptoBulk d + 1
  | .map entries => uptoBulkEntries entries + 1
  | .held _ => 1
def uptoBulkAll {H : Type} : List (DataW H) → Nat
  | [] => 0
  | d :: r => uptoBulk d + uptoBulkAll r
def uptoBulkEntries {H : Type} : List (Lit × DataW H) → Nat
  | [] => 0
  | x :: r => uptoBulkEntry x + uptoBulkEntries r
def uptoBulkEntry {H : Type} : Lit × DataW H → Nat
  | (.string bytes, d) => bytes.length + uptoBulk d + 1
  | (_, d) => uptoBulk d + 1
 end
def uptoSmall : (H : Type) → List (DataW H) → Bool := fun _ ds => decide (uptoBulkAll ds ≤ 1048576)
def OpenSpec.upto (s : _root_.Go.ChangeSpec) : _root_.Go.OpenSpec := { _root_.Go.OpenSpec.ofChange s with cond := some uptoSmall }

/-- 'laws.FnExactFarthestCodes', WHERE WHAT IT READS IS OF BULK AT MOST 1048576: true; the input reads as it did. -/
def fnExactFarthestCodesUptoRow : OpenClaim := { program := "ythnekpdakjcadab", sum := "6ae13d8c01d19a7c2e7121bf925770549e1b681e4c47ef2ab4dc590fcac5d4be", func := "loop.example/g01304/laws.FnExactFarthestCodes", spec := "fnExactFarthestCodes", recurses := true, apart := false, narrowed := true }
def FnExactFarthestCodesUptoSaid : Prop := fnExactFarthestCodesUptoRow.holds Try.pinned (OpenSpec.upto fnExactFarthestCodesSpec)

/-- 'laws.FnExactMeanDistance', WHERE WHAT IT READS IS OF BULK AT MOST 1048576: true; the input reads as it did. -/
def fnExactMeanDistanceUptoRow : OpenClaim := { program := "ythnekpdakjcadab", sum := "6ae13d8c01d19a7c2e7121bf925770549e1b681e4c47ef2ab4dc590fcac5d4be", func := "loop.example/g01304/laws.FnExactMeanDistance", spec := "fnExactMeanDistance", apart := false, narrowed := true }
def FnExactMeanDistanceUptoSaid : Prop := fnExactMeanDistanceUptoRow.holds Try.pinned (OpenSpec.upto fnExactMeanDistanceSpec)

/-- 'laws.FnExactNumberOfCode', WHERE WHAT IT READS IS OF BULK AT MOST 1048576: true; the input reads as it did. -/
def fnExactNumberOfCodeUptoRow : OpenClaim := { program := "ythnekpdakjcadab", sum := "6ae13d8c01d19a7c2e7121bf925770549e1b681e4c47ef2ab4dc590fcac5d4be", func := "loop.example/g01304/laws.FnExactNumberOfCode", spec := "fnExactNumberOfCode", apart := false, narrowed := true }
def FnExactNumberOfCodeUptoSaid : Prop := fnExactNumberOfCodeUptoRow.holds Try.pinned (OpenSpec.upto fnExactNumberOfCodeSpec)

/-- 'laws.FnExactCodeOfNumber', WHERE WHAT IT READS IS OF BULK AT MOST 1048576: true; the input reads as it did. -/
def fnExactCodeOfNumberUptoRow : OpenClaim := { program := "ythnekpdakjcadab", sum := "6ae13d8c01d19a7c2e7121bf925770549e1b681e4c47ef2ab4dc590fcac5d4be", func := "loop.example/g01304/laws.FnExactCodeOfNumber", spec := "fnExactCodeOfNumber", recurses := true, apart := false, narrowed := true }
def FnExactCodeOfNumberUptoSaid : Prop := fnExactCodeOfNumberUptoRow.holds Try.pinned (OpenSpec.upto fnExactCodeOfNumberSpec)

/-- 'laws.FnExactAddCodes', WHERE WHAT IT READS IS OF BULK AT MOST 1048576: true; the input reads as it did. -/
def fnExactAddCodesUptoRow : OpenClaim := { program := "ythnekpdakjcadab", sum := "6ae13d8c01d19a7c2e7121bf925770549e1b681e4c47ef2ab4dc590fcac5d4be", func := "loop.example/g01304/laws.FnExactAddCodes", spec := "fnExactAddCodes", unfollowed := true, recurses := true, apart := false, narrowed := true }
def FnExactAddCodesUptoSaid : Prop := fnExactAddCodesUptoRow.holds Try.pinned (OpenSpec.upto fnExactAddCodesSpec)

/-- 'laws.FnExactOppositeCode', WHERE WHAT IT READS IS OF BULK AT MOST 1048576: true; the input reads as it did. -/
def fnExactOppositeCodeUptoRow : OpenClaim := { program := "ythnekpdakjcadab", sum := "6ae13d8c01d19a7c2e7121bf925770549e1b681e4c47ef2ab4dc590fcac5d4be", func := "loop.example/g01304/laws.FnExactOppositeCode", spec := "fnExactOppositeCode", unfollowed := true, recurses := true, apart := false, narrowed := true }
def FnExactOppositeCodeUptoSaid : Prop := fnExactOppositeCodeUptoRow.holds Try.pinned (OpenSpec.upto fnExactOppositeCodeSpec)

/-- 'laws.FnExactTurnsText', WHERE WHAT IT READS IS OF BULK AT MOST 1048576: true; the input reads as it did. -/
def fnExactTurnsTextUptoRow : OpenClaim := { program := "ythnekpdakjcadab", sum := "6ae13d8c01d19a7c2e7121bf925770549e1b681e4c47ef2ab4dc590fcac5d4be", func := "loop.example/g01304/laws.FnExactTurnsText", spec := "fnExactTurnsText", recurses := true, apart := false, narrowed := true }
def FnExactTurnsTextUptoSaid : Prop := fnExactTurnsTextUptoRow.holds Try.pinned (OpenSpec.upto fnExactTurnsTextSpec)

/-- 'laws.FnExactParseTurns', WHERE WHAT IT READS IS OF BULK AT MOST 1048576: true; the input reads as it did. -/
def fnExactParseTurnsUptoRow : OpenClaim := { program := "ythnekpdakjcadab", sum := "6ae13d8c01d19a7c2e7121bf925770549e1b681e4c47ef2ab4dc590fcac5d4be", func := "loop.example/g01304/laws.FnExactParseTurns", spec := "fnExactParseTurns", apart := false, narrowed := true }
def FnExactParseTurnsUptoSaid : Prop := fnExactParseTurnsUptoRow.holds Try.pinned (OpenSpec.upto fnExactParseTurnsSpec)

end Rows
end Go.Proofs.Ythnekpdakjcadab
