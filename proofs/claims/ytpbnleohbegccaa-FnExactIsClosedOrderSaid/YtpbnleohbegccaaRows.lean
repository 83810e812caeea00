/-
  No cell of these rows narrows 'for every input' (looked for: loops, veiled, ifaces, maps, wideKeys, modest, calm, conditions, laid).
  DERIVED. THE GIVEN ROWS OF THIS SEAT. 16 by the template 'for every input the law returns true; each argument reads behind the call as it read before'; 0 by the template 'total and deterministic' (their statements: YtpbnleohbegccaaTotals.lean).
  GIVEN WITH THE SEED: the statements are not yours to turn. If you find one false, say at which input.
  Laid BY PROGRAM, IN A SANDBOX (cutbox-rows.mjs): the forced cells as the released guide's own fill.sh prints them over the translation f1f2d19ca14a36a3… (all of the seat's roots in one cut). By AI agents, Wed Nov 11 2026. No macro, syntax, notation, axiom, sorry.
-/
import Derived.Test.YtpbnleohbegccaaChecked
import GoSem.Claim
import GoSem.ClaimJoined
import GoSem.ClaimMapViews
import Derived.JoinedTies
import Derived.KernelRfl
namespace Go.Proofs.Ytpbnleohbegccaa
/- THE CELL 'sum', in the pinned program and in every row, IS THE sha256 OF THE DUMP (.gsa) THAT YtpbnleohbegccaaProg.lean LOADS. Nothing in Lean hashes anything: it is a label: what it is worth is what the hold of that sum in a sandbox is worth. -/
noncomputable def Try.pinned : Pinned := { name := "ytpbnleohbegccaa", sum := "f1f2d19ca14a36a378f9f701c2692a5034cf08b47e833f52ea8e26897e34c472", checked := Try.checked }
namespace Rows
def none {H : Type} : Left H := { results := [], args := [] }

/-- 'laws.FnExactForthCode': WHATEVER THE INPUT: true; the input reads as it did. -/
def fnExactForthCodeSpec : ChangeSpec := { name := "fnExactForthCode", fn := fun _ => fun
  | [d1, d2] => { results := [.lit (.bool true)], args := [d1, d2] }
  | _ => none }
def fnExactForthCodeRow : OpenClaim := { program := "ytpbnleohbegccaa", sum := "f1f2d19ca14a36a378f9f701c2692a5034cf08b47e833f52ea8e26897e34c472", func := "loop.example/g01304/laws.FnExactForthCode", spec := "fnExactForthCode", recurses := true, apart := false }
def FnExactForthCodeSaid : Prop := fnExactForthCodeRow.holds Try.pinned (OpenSpec.ofChange fnExactForthCodeSpec)

/-- ITS FALSE NEIGHBOUR: 'it returns false'. Refute it at one input. -/
def fnExactForthCodeWrong : ChangeSpec := { name := "fnExactForthCode", fn := fun _ => fun
  | [d1, d2] => { results := [.lit (.bool false)], args := [d1, d2] }
  | _ => none }
def FnExactForthCodeWrongFalsely : Prop := fnExactForthCodeRow.holds Try.pinned (OpenSpec.ofChange fnExactForthCodeWrong)

/-- 'laws.FnExactForthRank': WHATEVER THE INPUT: true; the input reads as it did. -/
def fnExactForthRankSpec : ChangeSpec := { name := "fnExactForthRank", fn := fun _ => fun
  | [d1, d2] => { results := [.lit (.bool true)], args := [d1, d2] }
  | _ => none }
def fnExactForthRankRow : OpenClaim := { program := "ytpbnleohbegccaa", sum := "f1f2d19ca14a36a378f9f701c2692a5034cf08b47e833f52ea8e26897e34c472", func := "loop.example/g01304/laws.FnExactForthRank", spec := "fnExactForthRank", unfollowed := true, recurses := true, leaving := true, apart := false }
def FnExactForthRankSaid : Prop := fnExactForthRankRow.holds Try.pinned (OpenSpec.ofChange fnExactForthRankSpec)

/-- ITS FALSE NEIGHBOUR: 'it returns false'. Refute it at one input. -/
def fnExactForthRankWrong : ChangeSpec := { name := "fnExactForthRank", fn := fun _ => fun
  | [d1, d2] => { results := [.lit (.bool false)], args := [d1, d2] }
  | _ => none }
def FnExactForthRankWrongFalsely : Prop := fnExactForthRankRow.holds Try.pinned (OpenSpec.ofChange fnExactForthRankWrong)

/-- 'laws.FnExactRoundCode': WHATEVER THE INPUT: true; the input reads as it did. -/
def fnExactRoundCodeSpec : ChangeSpec := { name := "fnExactRoundCode", fn := fun _ => fun
  | [d1, d2] => { results := [.lit (.bool true)], args := [d1, d2] }
  | _ => none }
def fnExactRoundCodeRow : OpenClaim := { program := "ytpbnleohbegccaa", sum := "f1f2d19ca14a36a378f9f701c2692a5034cf08b47e833f52ea8e26897e34c472", func := "loop.example/g01304/laws.FnExactRoundCode", spec := "fnExactRoundCode", unfollowed := true, recurses := true, leaving := true, apart := false }
def FnExactRoundCodeSaid : Prop := fnExactRoundCodeRow.holds Try.pinned (OpenSpec.ofChange fnExactRoundCodeSpec)

/-- ITS FALSE NEIGHBOUR: 'it returns false'. Refute it at one input. -/
def fnExactRoundCodeWrong : ChangeSpec := { name := "fnExactRoundCode", fn := fun _ => fun
  | [d1, d2] => { results := [.lit (.bool false)], args := [d1, d2] }
  | _ => none }
def FnExactRoundCodeWrongFalsely : Prop := fnExactRoundCodeRow.holds Try.pinned (OpenSpec.ofChange fnExactRoundCodeWrong)

/-- 'laws.FnExactRoundRank': WHATEVER THE INPUT: true; the input reads as it did. -/
def fnExactRoundRankSpec : ChangeSpec := { name := "fnExactRoundRank", fn := fun _ => fun
  | [d1, d2] => { results := [.lit (.bool true)], args := [d1, d2] }
  | _ => none }
def fnExactRoundRankRow : OpenClaim := { program := "ytpbnleohbegccaa", sum := "f1f2d19ca14a36a378f9f701c2692a5034cf08b47e833f52ea8e26897e34c472", func := "loop.example/g01304/laws.FnExactRoundRank", spec := "fnExactRoundRank", apart := false }
def FnExactRoundRankSaid : Prop := fnExactRoundRankRow.holds Try.pinned (OpenSpec.ofChange fnExactRoundRankSpec)

/-- ITS FALSE NEIGHBOUR: 'it returns false'. Refute it at one input. -/
def fnExactRoundRankWrong : ChangeSpec := { name := "fnExactRoundRank", fn := fun _ => fun
  | [d1, d2] => { results := [.lit (.bool false)], args := [d1, d2] }
  | _ => none }
def FnExactRoundRankWrongFalsely : Prop := fnExactRoundRankRow.holds Try.pinned (OpenSpec.ofChange fnExactRoundRankWrong)

/-- 'laws.FnExactTurnInForth': WHATEVER THE INPUT: true; the input reads as it did. -/
def fnExactTurnInForthSpec : ChangeSpec := { name := "fnExactTurnInForth", fn := fun _ => fun
  | [d1, d2] => { results := [.lit (.bool true)], args := [d1, d2] }
  | _ => none }
def fnExactTurnInForthRow : OpenClaim := { program := "ytpbnleohbegccaa", sum := "f1f2d19ca14a36a378f9f701c2692a5034cf08b47e833f52ea8e26897e34c472", func := "loop.example/g01304/laws.FnExactTurnInForth", spec := "fnExactTurnInForth", unfollowed := true, recurses := true, leaving := true, apart := false }
def FnExactTurnInForthSaid : Prop := fnExactTurnInForthRow.holds Try.pinned (OpenSpec.ofChange fnExactTurnInForthSpec)

/-- ITS FALSE NEIGHBOUR: 'it returns false'. Refute it at one input. -/
def fnExactTurnInForthWrong : ChangeSpec := { name := "fnExactTurnInForth", fn := fun _ => fun
  | [d1, d2] => { results := [.lit (.bool false)], args := [d1, d2] }
  | _ => none }
def FnExactTurnInForthWrongFalsely : Prop := fnExactTurnInForthRow.holds Try.pinned (OpenSpec.ofChange fnExactTurnInForthWrong)

/-- 'laws.FnExactTurnInRound': WHATEVER THE INPUT: true; the input reads as it did. -/
def fnExactTurnInRoundSpec : ChangeSpec := { name := "fnExactTurnInRound", fn := fun _ => fun
  | [d1, d2] => { results := [.lit (.bool true)], args := [d1, d2] }
  | _ => none }
def fnExactTurnInRoundRow : OpenClaim := { program := "ytpbnleohbegccaa", sum := "f1f2d19ca14a36a378f9f701c2692a5034cf08b47e833f52ea8e26897e34c472", func := "loop.example/g01304/laws.FnExactTurnInRound", spec := "fnExactTurnInRound", unfollowed := true, recurses := true, leaving := true, apart := false }
def FnExactTurnInRoundSaid : Prop := fnExactTurnInRoundRow.holds Try.pinned (OpenSpec.ofChange fnExactTurnInRoundSpec)

/-- ITS FALSE NEIGHBOUR: 'it returns false'. Refute it at one input. -/
def fnExactTurnInRoundWrong : ChangeSpec := { name := "fnExactTurnInRound", fn := fun _ => fun
  | [d1, d2] => { results := [.lit (.bool false)], args := [d1, d2] }
  | _ => none }
def FnExactTurnInRoundWrongFalsely : Prop := fnExactTurnInRoundRow.holds Try.pinned (OpenSpec.ofChange fnExactTurnInRoundWrong)

/-- 'laws.FnExactForthPart': WHATEVER THE INPUT: true; the input reads as it did. -/
def fnExactForthPartSpec : ChangeSpec := { name := "fnExactForthPart", fn := fun _ => fun
  | [d1, d2, d3] => { results := [.lit (.bool true)], args := [d1, d2, d3] }
  | _ => none }
def fnExactForthPartRow : OpenClaim := { program := "ytpbnleohbegccaa", sum := "f1f2d19ca14a36a378f9f701c2692a5034cf08b47e833f52ea8e26897e34c472", func := "loop.example/g01304/laws.FnExactForthPart", spec := "fnExactForthPart", inPlace := ["(*sync.WaitGroup).Add", "internal/race.ReleaseMerge", "internal/race.Disable", "internal/race.Enable", "internal/synctest.IsInBubble", "internal/synctest.Associate[sync.WaitGroup]", "sync.fatal", "sync/atomic.OrUint64", "sync/atomic.AddUint64", "internal/race.Read", "sync/atomic.LoadUint64", "sync/atomic.StoreUint64", "internal/synctest.Disassociate[sync.WaitGroup]", "sync.runtime_Semrelease", "(*sync.WaitGroup).Done", "(*sync.WaitGroup).Wait", "internal/race.Acquire", "internal/synctest.IsAssociated[sync.WaitGroup]", "sync/atomic.CompareAndSwapUint64", "internal/race.Write", "sync.runtime_SemacquireWaitGroup"], unfollowed := true, recurses := true, leaving := true, apart := false }
def FnExactForthPartSaid : Prop := fnExactForthPartRow.holds Try.pinned (OpenSpec.ofChange fnExactForthPartSpec)

/-- ITS FALSE NEIGHBOUR: 'it returns false'. Refute it at one input. -/
def fnExactForthPartWrong : ChangeSpec := { name := "fnExactForthPart", fn := fun _ => fun
  | [d1, d2, d3] => { results := [.lit (.bool false)], args := [d1, d2, d3] }
  | _ => none }
def FnExactForthPartWrongFalsely : Prop := fnExactForthPartRow.holds Try.pinned (OpenSpec.ofChange fnExactForthPartWrong)

/-- 'laws.FnExactRoundPart': WHATEVER THE INPUT: true; the input reads as it did. -/
def fnExactRoundPartSpec : ChangeSpec := { name := "fnExactRoundPart", fn := fun _ => fun
  | [d1, d2, d3] => { results := [.lit (.bool true)], args := [d1, d2, d3] }
  | _ => none }
def fnExactRoundPartRow : OpenClaim := { program := "ytpbnleohbegccaa", sum := "f1f2d19ca14a36a378f9f701c2692a5034cf08b47e833f52ea8e26897e34c472", func := "loop.example/g01304/laws.FnExactRoundPart", spec := "fnExactRoundPart", inPlace := ["(*sync.WaitGroup).Add", "internal/race.ReleaseMerge", "internal/race.Disable", "internal/race.Enable", "internal/synctest.IsInBubble", "internal/synctest.Associate[sync.WaitGroup]", "sync.fatal", "sync/atomic.OrUint64", "sync/atomic.AddUint64", "internal/race.Read", "sync/atomic.LoadUint64", "sync/atomic.StoreUint64", "internal/synctest.Disassociate[sync.WaitGroup]", "sync.runtime_Semrelease", "(*sync.WaitGroup).Done", "(*sync.WaitGroup).Wait", "internal/race.Acquire", "internal/synctest.IsAssociated[sync.WaitGroup]", "sync/atomic.CompareAndSwapUint64", "internal/race.Write", "sync.runtime_SemacquireWaitGroup"], unfollowed := true, recurses := true, leaving := true, apart := false }
def FnExactRoundPartSaid : Prop := fnExactRoundPartRow.holds Try.pinned (OpenSpec.ofChange fnExactRoundPartSpec)

/-- ITS FALSE NEIGHBOUR: 'it returns false'. Refute it at one input. -/
def fnExactRoundPartWrong : ChangeSpec := { name := "fnExactRoundPart", fn := fun _ => fun
  | [d1, d2, d3] => { results := [.lit (.bool false)], args := [d1, d2, d3] }
  | _ => none }
def FnExactRoundPartWrongFalsely : Prop := fnExactRoundPartRow.holds Try.pinned (OpenSpec.ofChange fnExactRoundPartWrong)

/-- 'laws.FnExactWheelTurns': WHATEVER THE INPUT: true; the input reads as it did. -/
def fnExactWheelTurnsSpec : ChangeSpec := { name := "fnExactWheelTurns", fn := fun _ => fun
  | [d] => { results := [.lit (.bool true)], args := [d] }
  | _ => none }
def fnExactWheelTurnsRow : OpenClaim := { program := "ytpbnleohbegccaa", sum := "f1f2d19ca14a36a378f9f701c2692a5034cf08b47e833f52ea8e26897e34c472", func := "loop.example/g01304/laws.FnExactWheelTurns", spec := "fnExactWheelTurns", apart := false }
def FnExactWheelTurnsSaid : Prop := fnExactWheelTurnsRow.holds Try.pinned (OpenSpec.ofChange fnExactWheelTurnsSpec)

/-- ITS FALSE NEIGHBOUR: 'it returns false'. Refute it at one input. -/
def fnExactWheelTurnsWrong : ChangeSpec := { name := "fnExactWheelTurns", fn := fun _ => fun
  | [d] => { results := [.lit (.bool false)], args := [d] }
  | _ => none }
def FnExactWheelTurnsWrongFalsely : Prop := fnExactWheelTurnsRow.holds Try.pinned (OpenSpec.ofChange fnExactWheelTurnsWrong)

/-- 'laws.FnExactIsTurnOrder': WHATEVER THE INPUT: true; the input reads as it did. -/
def fnExactIsTurnOrderSpec : ChangeSpec := { name := "fnExactIsTurnOrder", fn := fun _ => fun
  | [d1, d2] => { results := [.lit (.bool true)], args := [d1, d2] }
  | _ => none }
def fnExactIsTurnOrderRow : OpenClaim := { program := "ytpbnleohbegccaa", sum := "f1f2d19ca14a36a378f9f701c2692a5034cf08b47e833f52ea8e26897e34c472", func := "loop.example/g01304/laws.FnExactIsTurnOrder", spec := "fnExactIsTurnOrder", unfollowed := true, recurses := true, leaving := true, apart := false }
def FnExactIsTurnOrderSaid : Prop := fnExactIsTurnOrderRow.holds Try.pinned (OpenSpec.ofChange fnExactIsTurnOrderSpec)

/-- ITS FALSE NEIGHBOUR: 'it returns false'. Refute it at one input. -/
def fnExactIsTurnOrderWrong : ChangeSpec := { name := "fnExactIsTurnOrder", fn := fun _ => fun
  | [d1, d2] => { results := [.lit (.bool false)], args := [d1, d2] }
  | _ => none }
def FnExactIsTurnOrderWrongFalsely : Prop := fnExactIsTurnOrderRow.holds Try.pinned (OpenSpec.ofChange fnExactIsTurnOrderWrong)

/-- 'laws.FnExactIsWholeOrder': WHATEVER THE INPUT: true; the input reads as it did. -/
def fnExactIsWholeOrderSpec : ChangeSpec := { name := "fnExactIsWholeOrder", fn := fun _ => fun
  | [d1, d2] => { results := [.lit (.bool true)], args := [d1, d2] }
  | _ => none }
def fnExactIsWholeOrderRow : OpenClaim := { program := "ytpbnleohbegccaa", sum := "f1f2d19ca14a36a378f9f701c2692a5034cf08b47e833f52ea8e26897e34c472", func := "loop.example/g01304/laws.FnExactIsWholeOrder", spec := "fnExactIsWholeOrder", unfollowed := true, recurses := true, leaving := true, apart := false }
def FnExactIsWholeOrderSaid : Prop := fnExactIsWholeOrderRow.holds Try.pinned (OpenSpec.ofChange fnExactIsWholeOrderSpec)

/-- ITS FALSE NEIGHBOUR: 'it returns false'. Refute it at one input. -/
def fnExactIsWholeOrderWrong : ChangeSpec := { name := "fnExactIsWholeOrder", fn := fun _ => fun
  | [d1, d2] => { results := [.lit (.bool false)], args := [d1, d2] }
  | _ => none }
def FnExactIsWholeOrderWrongFalsely : Prop := fnExactIsWholeOrderRow.holds Try.pinned (OpenSpec.ofChange fnExactIsWholeOrderWrong)

/-- 'laws.FnExactIsClosedOrder': WHATEVER THE INPUT: true; the input reads as it did. -/
def fnExactIsClosedOrderSpec : ChangeSpec := { name := "fnExactIsClosedOrder", fn := fun _ => fun
  | [d1, d2] => { results := [.lit (.bool true)], args := [d1, d2] }
  | _ => none }
def fnExactIsClosedOrderRow : OpenClaim := { program := "ytpbnleohbegccaa", sum := "f1f2d19ca14a36a378f9f701c2692a5034cf08b47e833f52ea8e26897e34c472", func := "loop.example/g01304/laws.FnExactIsClosedOrder", spec := "fnExactIsClosedOrder", unfollowed := true, recurses := true, leaving := true, apart := false }
def FnExactIsClosedOrderSaid : Prop := fnExactIsClosedOrderRow.holds Try.pinned (OpenSpec.ofChange fnExactIsClosedOrderSpec)

/-- ITS FALSE NEIGHBOUR: 'it returns false'. Refute it at one input. -/
def fnExactIsClosedOrderWrong : ChangeSpec := { name := "fnExactIsClosedOrder", fn := fun _ => fun
  | [d1, d2] => { results := [.lit (.bool false)], args := [d1, d2] }
  | _ => none }
def FnExactIsClosedOrderWrongFalsely : Prop := fnExactIsClosedOrderRow.holds Try.pinned (OpenSpec.ofChange fnExactIsClosedOrderWrong)

/-- 'laws.FnExactTurnsOfOrder': WHATEVER THE INPUT: true; the input reads as it did. -/
def fnExactTurnsOfOrderSpec : ChangeSpec := { name := "fnExactTurnsOfOrder", fn := fun _ => fun
  | [d1, d2] => { results := [.lit (.bool true)], args := [d1, d2] }
  | _ => none }
def fnExactTurnsOfOrderRow : OpenClaim := { program := "ytpbnleohbegccaa", sum := "f1f2d19ca14a36a378f9f701c2692a5034cf08b47e833f52ea8e26897e34c472", func := "loop.example/g01304/laws.FnExactTurnsOfOrder", spec := "fnExactTurnsOfOrder", unfollowed := true, recurses := true, leaving := true, apart := false }
def FnExactTurnsOfOrderSaid : Prop := fnExactTurnsOfOrderRow.holds Try.pinned (OpenSpec.ofChange fnExactTurnsOfOrderSpec)

/-- ITS FALSE NEIGHBOUR: 'it returns false'. Refute it at one input. -/
def fnExactTurnsOfOrderWrong : ChangeSpec := { name := "fnExactTurnsOfOrder", fn := fun _ => fun
  | [d1, d2] => { results := [.lit (.bool false)], args := [d1, d2] }
  | _ => none }
def FnExactTurnsOfOrderWrongFalsely : Prop := fnExactTurnsOfOrderRow.holds Try.pinned (OpenSpec.ofChange fnExactTurnsOfOrderWrong)

/-- 'laws.FnExactFirstWhole': WHATEVER THE INPUT: true; the input reads as it did. -/
def fnExactFirstWholeSpec : ChangeSpec := { name := "fnExactFirstWhole", fn := fun _ => fun
  | [d] => { results := [.lit (.bool true)], args := [d] }
  | _ => none }
def fnExactFirstWholeRow : OpenClaim := { program := "ytpbnleohbegccaa", sum := "f1f2d19ca14a36a378f9f701c2692a5034cf08b47e833f52ea8e26897e34c472", func := "loop.example/g01304/laws.FnExactFirstWhole", spec := "fnExactFirstWhole", recurses := true, apart := false }
def FnExactFirstWholeSaid : Prop := fnExactFirstWholeRow.holds Try.pinned (OpenSpec.ofChange fnExactFirstWholeSpec)

/-- ITS FALSE NEIGHBOUR: 'it returns false'. Refute it at one input. -/
def fnExactFirstWholeWrong : ChangeSpec := { name := "fnExactFirstWhole", fn := fun _ => fun
  | [d] => { results := [.lit (.bool false)], args := [d] }
  | _ => none }
def FnExactFirstWholeWrongFalsely : Prop := fnExactFirstWholeRow.holds Try.pinned (OpenSpec.ofChange fnExactFirstWholeWrong)

/-- 'laws.FnExactCountWhole': WHATEVER THE INPUT: true; the input reads as it did. -/
def fnExactCountWholeSpec : ChangeSpec := { name := "fnExactCountWhole", fn := fun _ => fun
  | [d] => { results := [.lit (.bool true)], args := [d] }
  | _ => none }
def fnExactCountWholeRow : OpenClaim := { program := "ytpbnleohbegccaa", sum := "f1f2d19ca14a36a378f9f701c2692a5034cf08b47e833f52ea8e26897e34c472", func := "loop.example/g01304/laws.FnExactCountWhole", spec := "fnExactCountWhole", recurses := true, apart := false }
def FnExactCountWholeSaid : Prop := fnExactCountWholeRow.holds Try.pinned (OpenSpec.ofChange fnExactCountWholeSpec)

/-- ITS FALSE NEIGHBOUR: 'it returns false'. Refute it at one input. -/
def fnExactCountWholeWrong : ChangeSpec := { name := "fnExactCountWhole", fn := fun _ => fun
  | [d] => { results := [.lit (.bool false)], args := [d] }
  | _ => none }
def FnExactCountWholeWrongFalsely : Prop := fnExactCountWholeRow.holds Try.pinned (OpenSpec.ofChange fnExactCountWholeWrong)

/-- 'laws.FnExactCountClosed': WHATEVER THE INPUT: true; the input reads as it did. -/
def fnExactCountClosedSpec : ChangeSpec := { name := "fnExactCountClosed", fn := fun _ => fun
  | [d] => { results := [.lit (.bool true)], args := [d] }
  | _ => none }
def fnExactCountClosedRow : OpenClaim := { program := "ytpbnleohbegccaa", sum := "f1f2d19ca14a36a378f9f701c2692a5034cf08b47e833f52ea8e26897e34c472", func := "loop.example/g01304/laws.FnExactCountClosed", spec := "fnExactCountClosed", unfollowed := true, recurses := true, leaving := true, apart := false }
def FnExactCountClosedSaid : Prop := fnExactCountClosedRow.holds Try.pinned (OpenSpec.ofChange fnExactCountClosedSpec)

/-- ITS FALSE NEIGHBOUR: 'it returns false'. Refute it at one input. -/
def fnExactCountClosedWrong : ChangeSpec := { name := "fnExactCountClosed", fn := fun _ => fun
  | [d] => { results := [.lit (.bool false)], args := [d] }
  | _ => none }
def FnExactCountClosedWrongFalsely : Prop := fnExactCountClosedRow.holds Try.pinned (OpenSpec.ofChange fnExactCountClosedWrong)

/- THE SECOND FORM. 'bulk': how many values and letters a reading holds, each counted each time it is reached (what is shared counts as often as it is met; a slice's spare places count too). A statement '..UptoSaid' is the law's where the arguments, and the package variables that the reading takes, are together of bulk at most 1048576: NARROWER than '..Said'. Prove '..Said' where nothing that the law and all that it calls make is longer than what came in: it says more and counts as full. Else prove '..UptoSaid'. A law counts once. -/
mutual
def uptoBulk {H : Type} : DataW H → Nat
  | .lit (.string bytes) => bytes.length + 1
  | .lit _ => 1
  | .nil => 1
  | .ptr d => uptoBulk d + 1
  | .slice elems spare => uptoBulkAll elems + uptoBulkAll spare + 1
  | .agg parts => uptoBulkAll parts + 1
  | .iface _ d => uptoBulk d + 1
  | .map entries => uptoBulkEntries entries + 1
  | .held _ => 1
def uptoBulkAll {H : Type} : List (DataW H) → Nat
  | [] => 0
  | d :: r => uptoBulk d + uptoBulkAll r
def uptoBulkEntries {H : Type} : List (Lit × DataW H) → Nat
  | [] => 0
  | x :: r => uptoBulkEntry x + uptoBulkEntries r
def uptoBulkEntry {H : Type} : Lit × DataW H → Nat
  | (.string bytes, d) => bytes.length + uptoBulk d + 1
  | (_, d) => uptoBulk d + 1
 end
def uptoSmall : (H : Type) → List (DataW H) → Bool := fun _ ds => decide (uptoBulkAll ds ≤ 1048576)
def OpenSpec.upto (s : _root_.Go.ChangeSpec) : _root_.Go.OpenSpec := { _root_.Go.OpenSpec.ofChange s with cond := some uptoSmall }

/-- 'laws.FnExactForthCode', WHERE WHAT IT READS IS OF BULK AT MOST 1048576: true; the input reads as it did. -/
def fnExactForthCodeUptoRow : OpenClaim := { program := "ytpbnleohbegccaa", sum := "f1f2d19ca14a36a378f9f701c2692a5034cf08b47e833f52ea8e26897e34c472", func := "loop.example/g01304/laws.FnExactForthCode", spec := "fnExactForthCode", recurses := true, apart := false, narrowed := true }
def FnExactForthCodeUptoSaid : Prop := fnExactForthCodeUptoRow.holds Try.pinned (OpenSpec.upto fnExactForthCodeSpec)

/-- 'laws.FnExactForthRank', WHERE WHAT IT READS IS OF BULK AT MOST 1048576: true; the input reads as it did. -/
def fnExactForthRankUptoRow : OpenClaim := { program := "ytpbnleohbegccaa", sum := "f1f2d19ca14a36a378f9f701c2692a5034cf08b47e833f52ea8e26897e34c472", func := "loop.example/g01304/laws.FnExactForthRank", spec := "fnExactForthRank", unfollowed := true, recurses := true, leaving := true, apart := false, narrowed := true }
def FnExactForthRankUptoSaid : Prop := fnExactForthRankUptoRow.holds Try.pinned (OpenSpec.upto fnExactForthRankSpec)

/-- 'laws.FnExactRoundCode', WHERE WHAT IT READS IS OF BULK AT MOST 1048576: true; the input reads as it did. -/
def fnExactRoundCodeUptoRow : OpenClaim := { program := "ytpbnleohbegccaa", sum := "f1f2d19ca14a36a378f9f701c2692a5034cf08b47e833f52ea8e26897e34c472", func := "loop.example/g01304/laws.FnExactRoundCode", spec := "fnExactRoundCode", unfollowed := true, recurses := true, leaving := true, apart := false, narrowed := true }
def FnExactRoundCodeUptoSaid : Prop := fnExactRoundCodeUptoRow.holds Try.pinned (OpenSpec.upto fnExactRoundCodeSpec)

/-- 'laws.FnExactRoundRank', WHERE WHAT IT READS IS OF BULK AT MOST 1048576: true; the input reads as it did. -/
def fnExactRoundRankUptoRow : OpenClaim := { program := "ytpbnleohbegccaa", sum := "f1f2d19ca14a36a378f9f701c2692a5034cf08b47e833f52ea8e26897e34c472", func := "loop.example/g01304/laws.FnExactRoundRank", spec := "fnExactRoundRank", apart := false, narrowed := true }
def FnExactRoundRankUptoSaid : Prop := fnExactRoundRankUptoRow.holds Try.pinned (OpenSpec.upto fnExactRoundRankSpec)

/-- 'laws.FnExactTurnInForth', WHERE WHAT IT READS IS OF BULK AT MOST 1048576: true; the input reads as it did. -/
def fnExactTurnInForthUptoRow : OpenClaim := { program := "ytpbnleohbegccaa", sum := "f1f2d19ca14a36a378f9f701c2692a5034cf08b47e833f52ea8e26897e34c472", func := "loop.example/g01304/laws.FnExactTurnInForth", spec := "fnExactTurnInForth", unfollowed := true, recurses := true, leaving := true, apart := false, narrowed := true }
def FnExactTurnInForthUptoSaid : Prop := fnExactTurnInForthUptoRow.holds Try.pinned (OpenSpec.upto fnExactTurnInForthSpec)

/-- 'laws.FnExactTurnInRound', WHERE WHAT IT READS IS OF BULK AT MOST 1048576: true; the input reads as it did. -/
def fnExactTurnInRoundUptoRow : OpenClaim := { program := "ytpbnleohbegccaa", sum := "f1f2d19ca14a36a378f9f701c2692a5034cf08b47e833f52ea8e26897e34c472", func := "loop.example/g01304/laws.FnExactTurnInRound", spec := "fnExactTurnInRound", unfollowed := true, recurses := true, leaving := true, apart := false, narrowed := true }
def FnExactTurnInRoundUptoSaid : Prop := fnExactTurnInRoundUptoRow.holds Try.pinned (OpenSpec.upto fnExactTurnInRoundSpec)

/-- 'laws.FnExactForthPart', WHERE WHAT IT READS IS OF BULK AT MOST 1048576: true; the input reads as it did. -/
def fnExactForthPartUptoRow : OpenClaim := { program := "ytpbnleohbegccaa", sum := "f1f2d19ca14a36a378f9f701c2692a5034cf08b47e833f52ea8e26897e34c472", func := "loop.example/g01304/laws.FnExactForthPart", spec := "fnExactForthPart", inPlace := ["(*sync.WaitGroup).Add", "internal/race.ReleaseMerge", "internal/race.Disable", "internal/race.Enable", "internal/synctest.IsInBubble", "internal/synctest.Associate[sync.WaitGroup]", "sync.fatal", "sync/atomic.OrUint64", "sync/atomic.AddUint64", "internal/race.Read", "sync/atomic.LoadUint64", "sync/atomic.StoreUint64", "internal/synctest.Disassociate[sync.WaitGroup]", "sync.runtime_Semrelease", "(*sync.WaitGroup).Done", "(*sync.WaitGroup).Wait", "internal/race.Acquire", "internal/synctest.IsAssociated[sync.WaitGroup]", "sync/atomic.CompareAndSwapUint64", "internal/race.Write", "sync.runtime_SemacquireWaitGroup"], unfollowed := true, recurses := true, leaving := true, apart := false, narrowed := true }
def FnExactForthPartUptoSaid : Prop := fnExactForthPartUptoRow.holds Try.pinned (OpenSpec.upto fnExactForthPartSpec)

/-- 'laws.FnExactRoundPart', WHERE WHAT IT READS IS OF BULK AT MOST 1048576: true; the input reads as it did. -/
def fnExactRoundPartUptoRow : OpenClaim := { program := "ytpbnleohbegccaa", sum := "f1f2d19ca14a36a378f9f701c2692a5034cf08b47e833f52ea8e26897e34c472", func := "loop.example/g01304/laws.FnExactRoundPart", spec := "fnExactRoundPart", inPlace := ["(*sync.WaitGroup).Add", "internal/race.ReleaseMerge", "internal/race.Disable", "internal/race.Enable", "internal/synctest.IsInBubble", "internal/synctest.Associate[sync.WaitGroup]", "sync.fatal", "sync/atomic.OrUint64", "sync/atomic.AddUint64", "internal/race.Read", "sync/atomic.LoadUint64", "sync/atomic.StoreUint64", "internal/synctest.Disassociate[sync.WaitGroup]", "sync.runtime_Semrelease", "(*sync.WaitGroup).Done", "(*sync.WaitGroup).Wait", "internal/race.Acquire", "internal/synctest.IsAssociated[sync.WaitGroup]", "sync/atomic.CompareAndSwapUint64", "internal/race.Write", "sync.runtime_SemacquireWaitGroup"], unfollowed := true, recurses := true, leaving := true, apart := false, narrowed := true }
def FnExactRoundPartUptoSaid : Prop := fnExactRoundPartUptoRow.holds Try.pinned (OpenSpec.upto fnExactRoundPartSpec)

/-- 'laws.FnExactWheelTurns', WHERE WHAT IT READS IS OF BULK AT MOST 1048576: true; the input reads as it did. -/
def fnExactWheelTurnsUptoRow : OpenClaim := { program := "ytpbnleohbegccaa", sum := "f1f2d19ca14a36a378f9f701c2692a5034cf08b47e833f52ea8e26897e34c472", func := "loop.example/g01304/laws.FnExactWheelTurns", spec := "fnExactWheelTurns", apart := false, narrowed := true }
def FnExactWheelTurnsUptoSaid : Prop := fnExactWheelTurnsUptoRow.holds Try.pinned (OpenSpec.upto fnExactWheelTurnsSpec)

/-- 'laws.FnExactIsTurnOrder', WHERE WHAT IT READS IS OF BULK AT MOST 1048576: true; the input reads as it did. -/
def fnExactIsTurnOrderUptoRow : OpenClaim := { program := "ytpbnleohbegccaa", sum := "f1f2d19ca14a36a378f9f701c2692a5034cf08b47e833f52ea8e26897e34c472", func := "loop.example/g01304/laws.FnExactIsTurnOrder", spec := "fnExactIsTurnOrder", unfollowed := true, recurses := true, leaving := true, apart := false, narrowed := true }
def FnExactIsTurnOrderUptoSaid : Prop := fnExactIsTurnOrderUptoRow.holds Try.pinned (OpenSpec.upto fnExactIsTurnOrderSpec)

/-- 'laws.FnExactIsWholeOrder', WHERE WHAT IT READS IS OF BULK AT MOST 1048576: true; the input reads as it did. -/
def fnExactIsWholeOrderUptoRow : OpenClaim := { program := "ytpbnleohbegccaa", sum := "f1f2d19ca14a36a378f9f701c2692a5034cf08b47e833f52ea8e26897e34c472", func := "loop.example/g01304/laws.FnExactIsWholeOrder", spec := "fnExactIsWholeOrder", unfollowed := true, recurses := true, leaving := true, apart := false, narrowed := true }
def FnExactIsWholeOrderUptoSaid : Prop := fnExactIsWholeOrderUptoRow.holds Try.pinned (OpenSpec.upto fnExactIsWholeOrderSpec)

/-- 'laws.FnExactIsClosedOrder', WHERE WHAT IT READS IS OF BULK AT MOST 1048576: true; the input reads as it did. -/
def fnExactIsClosedOrderUptoRow : OpenClaim := { program := "ytpbnleohbegccaa", sum := "f1f2d19ca14a36a378f9f701c2692a5034cf08b47e833f52ea8e26897e34c472", func := "loop.example/g01304/laws.FnExactIsClosedOrder", spec := "fnExactIsClosedOrder", unfollowed := true, recurses := true, leaving := true, apart := false, narrowed := true }
def FnExactIsClosedOrderUptoSaid : Prop := fnExactIsClosedOrderUptoRow.holds Try.pinned (OpenSpec.upto fnExactIsClosedOrderSpec)

/-- 'laws.FnExactTurnsOfOrder', WHERE WHAT IT READS IS OF BULK AT MOST 1048576: true; the input reads as it did. -/
def fnExactTurnsOfOrderUptoRow : OpenClaim := { program := "ytpbnleohbegccaa", sum := "f1f2d19ca14a36a378f9f701c2692a5034cf08b47e833f52ea8e26897e34c472", func := "loop.example/g01304/laws.FnExactTurnsOfOrder", spec := "fnExactTurnsOfOrder", unfollowed := true, recurses := true, leaving := true, apart := false, narrowed := true }
def FnExactTurnsOfOrderUptoSaid : Prop := fnExactTurnsOfOrderUptoRow.holds Try.pinned (OpenSpec.upto fnExactTurnsOfOrderSpec)

/-- 'laws.FnExactFirstWhole', WHERE WHAT IT READS IS OF BULK AT MOST 1048576: true; the input reads as it did. -/
def fnExactFirstWholeUptoRow : OpenClaim := { program := "ytpbnleohbegccaa", sum := "f1f2d19ca14a36a378f9f701c2692a5034cf08b47e833f52ea8e26897e34c472", func := "loop.example/g01304/laws.FnExactFirstWhole", spec := "fnExactFirstWhole", recurses := true, apart := false, narrowed := true }
def FnExactFirstWholeUptoSaid : Prop := fnExactFirstWholeUptoRow.holds Try.pinned (OpenSpec.upto fnExactFirstWholeSpec)

/-- 'laws.FnExactCountWhole', WHERE WHAT IT READS IS OF BULK AT MOST 1048576: true; the input reads as it did. -/
def fnExactCountWholeUptoRow : OpenClaim := { program := "ytpbnleohbegccaa", sum := "f1f2d19ca14a36a378f9f701c2692a5034cf08b47e833f52ea8e26897e34c472", func := "loop.example/g01304/laws.FnExactCountWhole", spec := "fnExactCountWhole", recurses := true, apart := false, narrowed := true }
def FnExactCountWholeUptoSaid : Prop := fnExactCountWholeUptoRow.holds Try.pinned (OpenSpec.upto fnExactCountWholeSpec)

/-- 'laws.FnExactCountClosed', WHERE WHAT IT READS IS OF BULK AT MOST 1048576: true; the input reads as it did. -/
def fnExactCountClosedUptoRow : OpenClaim := { program := "ytpbnleohbegccaa", sum := "f1f2d19ca14a36a378f9f701c2692a5034cf08b47e833f52ea8e26897e34c472", func := "loop.example/g01304/laws.FnExactCountClosed", spec := "fnExactCountClosed", unfollowed := true, recurses := true, leaving := true, apart := false, narrowed := true }
def FnExactCountClosedUptoSaid : Prop := fnExactCountClosedUptoRow.holds Try.pinned (OpenSpec.upto fnExactCountClosedSpec)

end Rows
end Go.Proofs.Ytpbnleohbegccaa
