/-
  No cell of these rows narrows 'for every input' (looked for: loops, veiled, ifaces, maps, wideKeys, modest, calm, conditions, laid).
  DERIVED. THE GIVEN ROWS OF THIS SEAT. 12 by the template 'for every input the law returns true; each argument reads behind the call as it read before'; 0 by the template 'total and deterministic' (their statements: YthnekpdakjcadaaTotals.lean).
  GIVEN WITH THE SEED: the statements are not yours to turn. If you find one false, say at which input.
  Laid BY PROGRAM, IN A SANDBOX (cutbox-rows.mjs): the forced cells as the released guide's own fill.sh prints them over the translation 841fef5d79e068fd… (all of the seat's roots in one cut). By AI agents, Wed Nov 11 2026. No macro, syntax, notation, axiom, sorry.
-/
import Derived.Test.YthnekpdakjcadaaChecked
import GoSem.Claim
import GoSem.ClaimJoined
import GoSem.ClaimMapViews
import Derived.JoinedTies
import Derived.KernelRfl
namespace Go.Proofs.Ythnekpdakjcadaa
/- THE CELL 'sum', in the pinned program and in every row, IS THE sha256 OF THE DUMP (.gsa) THAT YthnekpdakjcadaaProg.lean LOADS. Nothing in Lean hashes anything: it is a label: what it is worth is what the hold of that sum in a sandbox is worth. -/
noncomputable def Try.pinned : Pinned := { name := "ythnekpdakjcadaa", sum := "841fef5d79e068fde28d96a54ebce87540761a5f9d7e4e22fa4d78aaaeffc39b", checked := Try.checked }
namespace Rows
def none {H : Type} : Left H := { results := [], args := [] }

/-- 'laws.FnExactIsLock': WHATEVER THE INPUT: true; the input reads as it did. -/
def fnExactIsLockSpec : ChangeSpec := { name := "fnExactIsLock", fn := fun _ => fun
  | [d] => { results := [.lit (.bool true)], args := [d] }
  | _ => none }
def fnExactIsLockRow : OpenClaim := { program := "ythnekpdakjcadaa", sum := "841fef5d79e068fde28d96a54ebce87540761a5f9d7e4e22fa4d78aaaeffc39b", func := "loop.example/g01304/laws.FnExactIsLock", spec := "fnExactIsLock", apart := false }
def FnExactIsLockSaid : Prop := fnExactIsLockRow.holds Try.pinned (OpenSpec.ofChange fnExactIsLockSpec)

/-- ITS FALSE NEIGHBOUR: 'it returns false'. Refute it at one input. -/
def fnExactIsLockWrong : ChangeSpec := { name := "fnExactIsLock", fn := fun _ => fun
  | [d] => { results := [.lit (.bool false)], args := [d] }
  | _ => none }
def FnExactIsLockWrongFalsely : Prop := fnExactIsLockRow.holds Try.pinned (OpenSpec.ofChange fnExactIsLockWrong)

/-- 'laws.FnExactIsCode': WHATEVER THE INPUT: true; the input reads as it did. -/
def fnExactIsCodeSpec : ChangeSpec := { name := "fnExactIsCode", fn := fun _ => fun
  | [d1, d2] => { results := [.lit (.bool true)], args := [d1, d2] }
  | _ => none }
def fnExactIsCodeRow : OpenClaim := { program := "ythnekpdakjcadaa", sum := "841fef5d79e068fde28d96a54ebce87540761a5f9d7e4e22fa4d78aaaeffc39b", func := "loop.example/g01304/laws.FnExactIsCode", spec := "fnExactIsCode", apart := false }
def FnExactIsCodeSaid : Prop := fnExactIsCodeRow.holds Try.pinned (OpenSpec.ofChange fnExactIsCodeSpec)

/-- ITS FALSE NEIGHBOUR: 'it returns false'. Refute it at one input. -/
def fnExactIsCodeWrong : ChangeSpec := { name := "fnExactIsCode", fn := fun _ => fun
  | [d1, d2] => { results := [.lit (.bool false)], args := [d1, d2] }
  | _ => none }
def FnExactIsCodeWrongFalsely : Prop := fnExactIsCodeRow.holds Try.pinned (OpenSpec.ofChange fnExactIsCodeWrong)

/-- 'laws.FnExactCountCodes': WHATEVER THE INPUT: true; the input reads as it did. -/
def fnExactCountCodesSpec : ChangeSpec := { name := "fnExactCountCodes", fn := fun _ => fun
  | [d] => { results := [.lit (.bool true)], args := [d] }
  | _ => none }
def fnExactCountCodesRow : OpenClaim := { program := "ythnekpdakjcadaa", sum := "841fef5d79e068fde28d96a54ebce87540761a5f9d7e4e22fa4d78aaaeffc39b", func := "loop.example/g01304/laws.FnExactCountCodes", spec := "fnExactCountCodes", apart := false }
def FnExactCountCodesSaid : Prop := fnExactCountCodesRow.holds Try.pinned (OpenSpec.ofChange fnExactCountCodesSpec)

/-- ITS FALSE NEIGHBOUR: 'it returns false'. Refute it at one input. -/
def fnExactCountCodesWrong : ChangeSpec := { name := "fnExactCountCodes", fn := fun _ => fun
  | [d] => { results := [.lit (.bool false)], args := [d] }
  | _ => none }
def FnExactCountCodesWrongFalsely : Prop := fnExactCountCodesRow.holds Try.pinned (OpenSpec.ofChange fnExactCountCodesWrong)

/-- 'laws.FnExactZeroCode': WHATEVER THE INPUT: true; the input reads as it did. -/
def fnExactZeroCodeSpec : ChangeSpec := { name := "fnExactZeroCode", fn := fun _ => fun
  | [d] => { results := [.lit (.bool true)], args := [d] }
  | _ => none }
def fnExactZeroCodeRow : OpenClaim := { program := "ythnekpdakjcadaa", sum := "841fef5d79e068fde28d96a54ebce87540761a5f9d7e4e22fa4d78aaaeffc39b", func := "loop.example/g01304/laws.FnExactZeroCode", spec := "fnExactZeroCode", recurses := true, apart := false }
def FnExactZeroCodeSaid : Prop := fnExactZeroCodeRow.holds Try.pinned (OpenSpec.ofChange fnExactZeroCodeSpec)

/-- ITS FALSE NEIGHBOUR: 'it returns false'. Refute it at one input. -/
def fnExactZeroCodeWrong : ChangeSpec := { name := "fnExactZeroCode", fn := fun _ => fun
  | [d] => { results := [.lit (.bool false)], args := [d] }
  | _ => none }
def FnExactZeroCodeWrongFalsely : Prop := fnExactZeroCodeRow.holds Try.pinned (OpenSpec.ofChange fnExactZeroCodeWrong)

/-- 'laws.FnExactTurnWheel': WHATEVER THE INPUT: true; the input reads as it did. -/
def fnExactTurnWheelSpec : ChangeSpec := { name := "fnExactTurnWheel", fn := fun _ => fun
  | [d1, d2, d3] => { results := [.lit (.bool true)], args := [d1, d2, d3] }
  | _ => none }
def fnExactTurnWheelRow : OpenClaim := { program := "ythnekpdakjcadaa", sum := "841fef5d79e068fde28d96a54ebce87540761a5f9d7e4e22fa4d78aaaeffc39b", func := "loop.example/g01304/laws.FnExactTurnWheel", spec := "fnExactTurnWheel", recurses := true, apart := false }
def FnExactTurnWheelSaid : Prop := fnExactTurnWheelRow.holds Try.pinned (OpenSpec.ofChange fnExactTurnWheelSpec)

/-- ITS FALSE NEIGHBOUR: 'it returns false'. Refute it at one input. -/
def fnExactTurnWheelWrong : ChangeSpec := { name := "fnExactTurnWheel", fn := fun _ => fun
  | [d1, d2, d3] => { results := [.lit (.bool false)], args := [d1, d2, d3] }
  | _ => none }
def FnExactTurnWheelWrongFalsely : Prop := fnExactTurnWheelRow.holds Try.pinned (OpenSpec.ofChange fnExactTurnWheelWrong)

/-- 'laws.FnExactTurnWheels': WHATEVER THE INPUT: true; the input reads as it did. -/
def fnExactTurnWheelsSpec : ChangeSpec := { name := "fnExactTurnWheels", fn := fun _ => fun
  | [d1, d2, d3] => { results := [.lit (.bool true)], args := [d1, d2, d3] }
  | _ => none }
def fnExactTurnWheelsRow : OpenClaim := { program := "ythnekpdakjcadaa", sum := "841fef5d79e068fde28d96a54ebce87540761a5f9d7e4e22fa4d78aaaeffc39b", func := "loop.example/g01304/laws.FnExactTurnWheels", spec := "fnExactTurnWheels", recurses := true, apart := false }
def FnExactTurnWheelsSaid : Prop := fnExactTurnWheelsRow.holds Try.pinned (OpenSpec.ofChange fnExactTurnWheelsSpec)

/-- ITS FALSE NEIGHBOUR: 'it returns false'. Refute it at one input. -/
def fnExactTurnWheelsWrong : ChangeSpec := { name := "fnExactTurnWheels", fn := fun _ => fun
  | [d1, d2, d3] => { results := [.lit (.bool false)], args := [d1, d2, d3] }
  | _ => none }
def FnExactTurnWheelsWrongFalsely : Prop := fnExactTurnWheelsRow.holds Try.pinned (OpenSpec.ofChange fnExactTurnWheelsWrong)

/-- 'laws.FnExactBackTurns': WHATEVER THE INPUT: true; the input reads as it did. -/
def fnExactBackTurnsSpec : ChangeSpec := { name := "fnExactBackTurns", fn := fun _ => fun
  | [d1, d2] => { results := [.lit (.bool true)], args := [d1, d2] }
  | _ => none }
def fnExactBackTurnsRow : OpenClaim := { program := "ythnekpdakjcadaa", sum := "841fef5d79e068fde28d96a54ebce87540761a5f9d7e4e22fa4d78aaaeffc39b", func := "loop.example/g01304/laws.FnExactBackTurns", spec := "fnExactBackTurns", unfollowed := true, recurses := true, apart := false }
def FnExactBackTurnsSaid : Prop := fnExactBackTurnsRow.holds Try.pinned (OpenSpec.ofChange fnExactBackTurnsSpec)

/-- ITS FALSE NEIGHBOUR: 'it returns false'. Refute it at one input. -/
def fnExactBackTurnsWrong : ChangeSpec := { name := "fnExactBackTurns", fn := fun _ => fun
  | [d1, d2] => { results := [.lit (.bool false)], args := [d1, d2] }
  | _ => none }
def FnExactBackTurnsWrongFalsely : Prop := fnExactBackTurnsRow.holds Try.pinned (OpenSpec.ofChange fnExactBackTurnsWrong)

/-- 'laws.FnExactFewestTurns': WHATEVER THE INPUT: true; the input reads as it did. -/
def fnExactFewestTurnsSpec : ChangeSpec := { name := "fnExactFewestTurns", fn := fun _ => fun
  | [d1, d2, d3] => { results := [.lit (.bool true)], args := [d1, d2, d3] }
  | _ => none }
def fnExactFewestTurnsRow : OpenClaim := { program := "ythnekpdakjcadaa", sum := "841fef5d79e068fde28d96a54ebce87540761a5f9d7e4e22fa4d78aaaeffc39b", func := "loop.example/g01304/laws.FnExactFewestTurns", spec := "fnExactFewestTurns", unfollowed := true, recurses := true, apart := false }
def FnExactFewestTurnsSaid : Prop := fnExactFewestTurnsRow.holds Try.pinned (OpenSpec.ofChange fnExactFewestTurnsSpec)

/-- ITS FALSE NEIGHBOUR: 'it returns false'. Refute it at one input. -/
def fnExactFewestTurnsWrong : ChangeSpec := { name := "fnExactFewestTurns", fn := fun _ => fun
  | [d1, d2, d3] => { results := [.lit (.bool false)], args := [d1, d2, d3] }
  | _ => none }
def FnExactFewestTurnsWrongFalsely : Prop := fnExactFewestTurnsRow.holds Try.pinned (OpenSpec.ofChange fnExactFewestTurnsWrong)

/-- 'laws.FnExactFirstTurns': WHATEVER THE INPUT: true; the input reads as it did. -/
def fnExactFirstTurnsSpec : ChangeSpec := { name := "fnExactFirstTurns", fn := fun _ => fun
  | [d1, d2, d3] => { results := [.lit (.bool true)], args := [d1, d2, d3] }
  | _ => none }
def fnExactFirstTurnsRow : OpenClaim := { program := "ythnekpdakjcadaa", sum := "841fef5d79e068fde28d96a54ebce87540761a5f9d7e4e22fa4d78aaaeffc39b", func := "loop.example/g01304/laws.FnExactFirstTurns", spec := "fnExactFirstTurns", unfollowed := true, recurses := true, apart := false }
def FnExactFirstTurnsSaid : Prop := fnExactFirstTurnsRow.holds Try.pinned (OpenSpec.ofChange fnExactFirstTurnsSpec)

/-- ITS FALSE NEIGHBOUR: 'it returns false'. Refute it at one input. -/
def fnExactFirstTurnsWrong : ChangeSpec := { name := "fnExactFirstTurns", fn := fun _ => fun
  | [d1, d2, d3] => { results := [.lit (.bool false)], args := [d1, d2, d3] }
  | _ => none }
def FnExactFirstTurnsWrongFalsely : Prop := fnExactFirstTurnsRow.holds Try.pinned (OpenSpec.ofChange fnExactFirstTurnsWrong)

/-- 'laws.FnExactCountFewest': WHATEVER THE INPUT: true; the input reads as it did. -/
def fnExactCountFewestSpec : ChangeSpec := { name := "fnExactCountFewest", fn := fun _ => fun
  | [d1, d2, d3] => { results := [.lit (.bool true)], args := [d1, d2, d3] }
  | _ => none }
def fnExactCountFewestRow : OpenClaim := { program := "ythnekpdakjcadaa", sum := "841fef5d79e068fde28d96a54ebce87540761a5f9d7e4e22fa4d78aaaeffc39b", func := "loop.example/g01304/laws.FnExactCountFewest", spec := "fnExactCountFewest", unfollowed := true, recurses := true, apart := false }
def FnExactCountFewestSaid : Prop := fnExactCountFewestRow.holds Try.pinned (OpenSpec.ofChange fnExactCountFewestSpec)

/-- ITS FALSE NEIGHBOUR: 'it returns false'. Refute it at one input. -/
def fnExactCountFewestWrong : ChangeSpec := { name := "fnExactCountFewest", fn := fun _ => fun
  | [d1, d2, d3] => { results := [.lit (.bool false)], args := [d1, d2, d3] }
  | _ => none }
def FnExactCountFewestWrongFalsely : Prop := fnExactCountFewestRow.holds Try.pinned (OpenSpec.ofChange fnExactCountFewestWrong)

/-- 'laws.FnExactNextCodes': WHATEVER THE INPUT: true; the input reads as it did. -/
def fnExactNextCodesSpec : ChangeSpec := { name := "fnExactNextCodes", fn := fun _ => fun
  | [d1, d2] => { results := [.lit (.bool true)], args := [d1, d2] }
  | _ => none }
def fnExactNextCodesRow : OpenClaim := { program := "ythnekpdakjcadaa", sum := "841fef5d79e068fde28d96a54ebce87540761a5f9d7e4e22fa4d78aaaeffc39b", func := "loop.example/g01304/laws.FnExactNextCodes", spec := "fnExactNextCodes", recurses := true, apart := false }
def FnExactNextCodesSaid : Prop := fnExactNextCodesRow.holds Try.pinned (OpenSpec.ofChange fnExactNextCodesSpec)

/-- ITS FALSE NEIGHBOUR: 'it returns false'. Refute it at one input. -/
def fnExactNextCodesWrong : ChangeSpec := { name := "fnExactNextCodes", fn := fun _ => fun
  | [d1, d2] => { results := [.lit (.bool false)], args := [d1, d2] }
  | _ => none }
def FnExactNextCodesWrongFalsely : Prop := fnExactNextCodesRow.holds Try.pinned (OpenSpec.ofChange fnExactNextCodesWrong)

/-- 'laws.FnExactCountAtDistance': WHATEVER THE INPUT: true; the input reads as it did. -/
def fnExactCountAtDistanceSpec : ChangeSpec := { name := "fnExactCountAtDistance", fn := fun _ => fun
  | [d1, d2] => { results := [.lit (.bool true)], args := [d1, d2] }
  | _ => none }
def fnExactCountAtDistanceRow : OpenClaim := { program := "ythnekpdakjcadaa", sum := "841fef5d79e068fde28d96a54ebce87540761a5f9d7e4e22fa4d78aaaeffc39b", func := "loop.example/g01304/laws.FnExactCountAtDistance", spec := "fnExactCountAtDistance", apart := false }
def FnExactCountAtDistanceSaid : Prop := fnExactCountAtDistanceRow.holds Try.pinned (OpenSpec.ofChange fnExactCountAtDistanceSpec)

/-- ITS FALSE NEIGHBOUR: 'it returns false'. Refute it at one input. -/
def fnExactCountAtDistanceWrong : ChangeSpec := { name := "fnExactCountAtDistance", fn := fun _ => fun
  | [d1, d2] => { results := [.lit (.bool false)], args := [d1, d2] }
  | _ => none }
def FnExactCountAtDistanceWrongFalsely : Prop := fnExactCountAtDistanceRow.holds Try.pinned (OpenSpec.ofChange fnExactCountAtDistanceWrong)

/- THE SECOND FORM. 'bulk': how many values and letters a reading holds, each counted each time it is reached (what is shared counts as often as it is met; a slice's spare places count too). A statement '..UptoSaid' is the law's where the arguments, and the package variables that the reading takes, are together of bulk at most 1048576: NARROWER than '..Said'. Prove '..Said' where nothing that the law and all that it calls make is longer than what came in: it says more and counts as full. Else prove '..UptoSaid'. A law counts once. -/
mutual
def uptoBulk {H : Type} : DataW H → Nat
  | .lit (.string bytes) => bytes.length + 1
  | .lit _ => 1
  | .nil => 1
  | .ptr d => uptoBulk d + 1
  | .slice elems spare => uptoBulkAll elems + uptoBulkAll spare + 1
  | .agg parts => uptoBulkAll parts + 1
  | .iface _ d => uptoBulk d + 1
  | .map entries => uptoBulkEntries entries + 1
  | .held _ => 1
def uptoBulkAll {H : Type} : List (DataW H) → Nat
  | [] => 0
  | d :: r => uptoBulk d + uptoBulkAll r
def uptoBulkEntries {H : Type} : List (Lit × DataW H) → Nat
  | [] => 0
  | x :: r => uptoBulkEntry x + uptoBulkEntries r
def uptoBulkEntry {H : Type} : Lit × DataW H → Nat
  | (.string bytes, d) => bytes.length + uptoBulk d + 1
  | (_, d) => uptoBulk d + 1
 end
def uptoSmall : (H : Type) → List (DataW H) → Bool := fun _ ds => decide (uptoBulkAll ds ≤ 1048576)
def OpenSpec.upto (s : _root_.Go.ChangeSpec) : _root_.Go.OpenSpec := { _root_.Go.OpenSpec.ofChange s with cond := some uptoSmall }

/-- 'laws.FnExactIsLock', WHERE WHAT IT READS IS OF BULK AT MOST 1048576: true; the input reads as it did. -/
def fnExactIsLockUptoRow : OpenClaim := { program := "ythnekpdakjcadaa", sum := "841fef5d79e068fde28d96a54ebce87540761a5f9d7e4e22fa4d78aaaeffc39b", func := "loop.example/g01304/laws.FnExactIsLock", spec := "fnExactIsLock", apart := false, narrowed := true }
def FnExactIsLockUptoSaid : Prop := fnExactIsLockUptoRow.holds Try.pinned (OpenSpec.upto fnExactIsLockSpec)

/-- 'laws.FnExactIsCode', WHERE WHAT IT READS IS OF BULK AT MOST 1048576: true; the input reads as it did. -/
def fnExactIsCodeUptoRow : OpenClaim := { program := "ythnekpdakjcadaa", sum := "841fef5d79e068fde28d96a54ebce87540761a5f9d7e4e22fa4d78aaaeffc39b", func := "loop.example/g01304/laws.FnExactIsCode", spec := "fnExactIsCode", apart := false, narrowed := true }
def FnExactIsCodeUptoSaid : Prop := fnExactIsCodeUptoRow.holds Try.pinned (OpenSpec.upto fnExactIsCodeSpec)

/-- 'laws.FnExactCountCodes', WHERE WHAT IT READS IS OF BULK AT MOST 1048576: true; the input reads as it did. -/
def fnExactCountCodesUptoRow : OpenClaim := { program := "ythnekpdakjcadaa", sum := "841fef5d79e068fde28d96a54ebce87540761a5f9d7e4e22fa4d78aaaeffc39b", func := "loop.example/g01304/laws.FnExactCountCodes", spec := "fnExactCountCodes", apart := false, narrowed := true }
def FnExactCountCodesUptoSaid : Prop := fnExactCountCodesUptoRow.holds Try.pinned (OpenSpec.upto fnExactCountCodesSpec)

/-- 'laws.FnExactZeroCode', WHERE WHAT IT READS IS OF BULK AT MOST 1048576: true; the input reads as it did. -/
def fnExactZeroCodeUptoRow : OpenClaim := { program := "ythnekpdakjcadaa", sum := "841fef5d79e068fde28d96a54ebce87540761a5f9d7e4e22fa4d78aaaeffc39b", func := "loop.example/g01304/laws.FnExactZeroCode", spec := "fnExactZeroCode", recurses := true, apart := false, narrowed := true }
def FnExactZeroCodeUptoSaid : Prop := fnExactZeroCodeUptoRow.holds Try.pinned (OpenSpec.upto fnExactZeroCodeSpec)

/-- 'laws.FnExactTurnWheel', WHERE WHAT IT READS IS OF BULK AT MOST 1048576: true; the input reads as it did. -/
def fnExactTurnWheelUptoRow : OpenClaim := { program := "ythnekpdakjcadaa", sum := "841fef5d79e068fde28d96a54ebce87540761a5f9d7e4e22fa4d78aaaeffc39b", func := "loop.example/g01304/laws.FnExactTurnWheel", spec := "fnExactTurnWheel", recurses := true, apart := false, narrowed := true }
def FnExactTurnWheelUptoSaid : Prop := fnExactTurnWheelUptoRow.holds Try.pinned (OpenSpec.upto fnExactTurnWheelSpec)

/-- 'laws.FnExactTurnWheels', WHERE WHAT IT READS IS OF BULK AT MOST 1048576: true; the input reads as it did. -/
def fnExactTurnWheelsUptoRow : OpenClaim := { program := "ythnekpdakjcadaa", sum := "841fef5d79e068fde28d96a54ebce87540761a5f9d7e4e22fa4d78aaaeffc39b", func := "loop.example/g01304/laws.FnExactTurnWheels", spec := "fnExactTurnWheels", recurses := true, apart := false, narrowed := true }
def FnExactTurnWheelsUptoSaid : Prop := fnExactTurnWheelsUptoRow.holds Try.pinned (OpenSpec.upto fnExactTurnWheelsSpec)

/-- 'laws.FnExactBackTurns', WHERE WHAT IT READS IS OF BULK AT MOST 1048576: true; the input reads as it did. -/
def fnExactBackTurnsUptoRow : OpenClaim := { program := "ythnekpdakjcadaa", sum := "841fef5d79e068fde28d96a54ebce87540761a5f9d7e4e22fa4d78aaaeffc39b", func := "loop.example/g01304/laws.FnExactBackTurns", spec := "fnExactBackTurns", unfollowed := true, recurses := true, apart := false, narrowed := true }
def FnExactBackTurnsUptoSaid : Prop := fnExactBackTurnsUptoRow.holds Try.pinned (OpenSpec.upto fnExactBackTurnsSpec)

/-- 'laws.FnExactFewestTurns', WHERE WHAT IT READS IS OF BULK AT MOST 1048576: true; the input reads as it did. -/
def fnExactFewestTurnsUptoRow : OpenClaim := { program := "ythnekpdakjcadaa", sum := "841fef5d79e068fde28d96a54ebce87540761a5f9d7e4e22fa4d78aaaeffc39b", func := "loop.example/g01304/laws.FnExactFewestTurns", spec := "fnExactFewestTurns", unfollowed := true, recurses := true, apart := false, narrowed := true }
def FnExactFewestTurnsUptoSaid : Prop := fnExactFewestTurnsUptoRow.holds Try.pinned (OpenSpec.upto fnExactFewestTurnsSpec)

/-- 'laws.FnExactFirstTurns', WHERE WHAT IT READS IS OF BULK AT MOST 1048576: true; the input reads as it did. -/
def fnExactFirstTurnsUptoRow : OpenClaim := { program := "ythnekpdakjcadaa", sum := "841fef5d79e068fde28d96a54ebce87540761a5f9d7e4e22fa4d78aaaeffc39b", func := "loop.example/g01304/laws.FnExactFirstTurns", spec := "fnExactFirstTurns", unfollowed := true, recurses := true, apart := false, narrowed := true }
def FnExactFirstTurnsUptoSaid : Prop := fnExactFirstTurnsUptoRow.holds Try.pinned (OpenSpec.upto fnExactFirstTurnsSpec)

/-- 'laws.FnExactCountFewest', WHERE WHAT IT READS IS OF BULK AT MOST 1048576: true; the input reads as it did. -/
def fnExactCountFewestUptoRow : OpenClaim := { program := "ythnekpdakjcadaa", sum := "841fef5d79e068fde28d96a54ebce87540761a5f9d7e4e22fa4d78aaaeffc39b", func := "loop.example/g01304/laws.FnExactCountFewest", spec := "fnExactCountFewest", unfollowed := true, recurses := true, apart := false, narrowed := true }
def FnExactCountFewestUptoSaid : Prop := fnExactCountFewestUptoRow.holds Try.pinned (OpenSpec.upto fnExactCountFewestSpec)

/-- 'laws.FnExactNextCodes', WHERE WHAT IT READS IS OF BULK AT MOST 1048576: true; the input reads as it did. -/
def fnExactNextCodesUptoRow : OpenClaim := { program := "ythnekpdakjcadaa", sum := "841fef5d79e068fde28d96a54ebce87540761a5f9d7e4e22fa4d78aaaeffc39b", func := "loop.example/g01304/laws.FnExactNextCodes", spec := "fnExactNextCodes", recurses := true, apart := false, narrowed := true }
def FnExactNextCodesUptoSaid : Prop := fnExactNextCodesUptoRow.holds Try.pinned (OpenSpec.upto fnExactNextCodesSpec)

/-- 'laws.FnExactCountAtDistance', WHERE WHAT IT READS IS OF BULK AT MOST 1048576: true; the input reads as it did. -/
def fnExactCountAtDistanceUptoRow : OpenClaim := { program := "ythnekpdakjcadaa", sum := "841fef5d79e068fde28d96a54ebce87540761a5f9d7e4e22fa4d78aaaeffc39b", func := "loop.example/g01304/laws.FnExactCountAtDistance", spec := "fnExactCountAtDistance", apart := false, narrowed := true }
def FnExactCountAtDistanceUptoSaid : Prop := fnExactCountAtDistanceUptoRow.holds Try.pinned (OpenSpec.upto fnExactCountAtDistanceSpec)

end Rows
end Go.Proofs.Ythnekpdakjcadaa
