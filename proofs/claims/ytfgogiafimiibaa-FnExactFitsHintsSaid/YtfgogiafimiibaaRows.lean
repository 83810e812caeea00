/-
  No cell of these rows narrows 'for every input' (looked for: loops, veiled, ifaces, maps, wideKeys, modest, calm, conditions, laid).
  DERIVED. THE GIVEN ROWS OF THIS SEAT. 15 by the template 'for every input the law returns true; each argument reads behind the call as it read before'; 0 by the template 'total and deterministic' (their statements: YtfgogiafimiibaaTotals.lean).
  GIVEN WITH THE SEED: the statements are not yours to turn. If you find one false, say at which input.
  Laid BY PROGRAM, IN A SANDBOX (cutbox-rows.mjs): the forced cells as the released guide's own fill.sh prints them over the translation e9219e4e54d74892… (all of the seat's roots in one cut). By AI agents, Wed Nov 11 2026. No macro, syntax, notation, axiom, sorry.
-/
import Derived.Test.YtfgogiafimiibaaChecked
import GoSem.Claim
import GoSem.ClaimJoined
import GoSem.ClaimMapViews
import Derived.JoinedTies
import Derived.KernelRfl
namespace Go.Proofs.Ytfgogiafimiibaa
/- THE CELL 'sum', in the pinned program and in every row, IS THE sha256 OF THE DUMP (.gsa) THAT YtfgogiafimiibaaProg.lean LOADS. Nothing in Lean hashes anything: it is a label: what it is worth is what the hold of that sum in a sandbox is worth. -/
noncomputable def Try.pinned : Pinned := { name := "ytfgogiafimiibaa", sum := "e9219e4e54d748927a2852a864cf5c7391870c62c975595e8117b06d4ac0d3ef", checked := Try.checked }
namespace Rows
def none {H : Type} : Left H := { results := [], args := [] }

/-- 'laws.FnExactHintOf': WHATEVER THE INPUT: true; the input reads as it did. -/
def fnExactHintOfSpec : ChangeSpec := { name := "fnExactHintOf", fn := fun _ => fun
  | [d1, d2, d3] => { results := [.lit (.bool true)], args := [d1, d2, d3] }
  | _ => none }
def fnExactHintOfRow : OpenClaim := { program := "ytfgogiafimiibaa", sum := "e9219e4e54d748927a2852a864cf5c7391870c62c975595e8117b06d4ac0d3ef", func := "loop.example/g01304/laws.FnExactHintOf", spec := "fnExactHintOf", plainKeys := false, apart := false }
def FnExactHintOfSaid : Prop := fnExactHintOfRow.holds Try.pinned (OpenSpec.ofChange fnExactHintOfSpec)

/-- ITS FALSE NEIGHBOUR: 'it returns false'. Refute it at one input. -/
def fnExactHintOfWrong : ChangeSpec := { name := "fnExactHintOf", fn := fun _ => fun
  | [d1, d2, d3] => { results := [.lit (.bool false)], args := [d1, d2, d3] }
  | _ => none }
def FnExactHintOfWrongFalsely : Prop := fnExactHintOfRow.holds Try.pinned (OpenSpec.ofChange fnExactHintOfWrong)

/-- 'laws.FnExactAreHints': WHATEVER THE INPUT: true; the input reads as it did. -/
def fnExactAreHintsSpec : ChangeSpec := { name := "fnExactAreHints", fn := fun _ => fun
  | [d1, d2] => { results := [.lit (.bool true)], args := [d1, d2] }
  | _ => none }
def fnExactAreHintsRow : OpenClaim := { program := "ytfgogiafimiibaa", sum := "e9219e4e54d748927a2852a864cf5c7391870c62c975595e8117b06d4ac0d3ef", func := "loop.example/g01304/laws.FnExactAreHints", spec := "fnExactAreHints", plainKeys := false, apart := false }
def FnExactAreHintsSaid : Prop := fnExactAreHintsRow.holds Try.pinned (OpenSpec.ofChange fnExactAreHintsSpec)

/-- ITS FALSE NEIGHBOUR: 'it returns false'. Refute it at one input. -/
def fnExactAreHintsWrong : ChangeSpec := { name := "fnExactAreHints", fn := fun _ => fun
  | [d1, d2] => { results := [.lit (.bool false)], args := [d1, d2] }
  | _ => none }
def FnExactAreHintsWrongFalsely : Prop := fnExactAreHintsRow.holds Try.pinned (OpenSpec.ofChange fnExactAreHintsWrong)

/-- 'laws.FnExactFitsHints': WHATEVER THE INPUT: true; the input reads as it did. -/
def fnExactFitsHintsSpec : ChangeSpec := { name := "fnExactFitsHints", fn := fun _ => fun
  | [d1, d2, d3] => { results := [.lit (.bool true)], args := [d1, d2, d3] }
  | _ => none }
def fnExactFitsHintsRow : OpenClaim := { program := "ytfgogiafimiibaa", sum := "e9219e4e54d748927a2852a864cf5c7391870c62c975595e8117b06d4ac0d3ef", func := "loop.example/g01304/laws.FnExactFitsHints", spec := "fnExactFitsHints", plainKeys := false, apart := false }
def FnExactFitsHintsSaid : Prop := fnExactFitsHintsRow.holds Try.pinned (OpenSpec.ofChange fnExactFitsHintsSpec)

/-- ITS FALSE NEIGHBOUR: 'it returns false'. Refute it at one input. -/
def fnExactFitsHintsWrong : ChangeSpec := { name := "fnExactFitsHints", fn := fun _ => fun
  | [d1, d2, d3] => { results := [.lit (.bool false)], args := [d1, d2, d3] }
  | _ => none }
def FnExactFitsHintsWrongFalsely : Prop := fnExactFitsHintsRow.holds Try.pinned (OpenSpec.ofChange fnExactFitsHintsWrong)

/-- 'laws.FnExactCountFitting': WHATEVER THE INPUT: true; the input reads as it did. -/
def fnExactCountFittingSpec : ChangeSpec := { name := "fnExactCountFitting", fn := fun _ => fun
  | [d1, d2] => { results := [.lit (.bool true)], args := [d1, d2] }
  | _ => none }
def fnExactCountFittingRow : OpenClaim := { program := "ytfgogiafimiibaa", sum := "e9219e4e54d748927a2852a864cf5c7391870c62c975595e8117b06d4ac0d3ef", func := "loop.example/g01304/laws.FnExactCountFitting", spec := "fnExactCountFitting", inPlace := ["(*sync.WaitGroup).Add", "internal/race.ReleaseMerge", "internal/race.Disable", "internal/race.Enable", "internal/synctest.IsInBubble", "internal/synctest.Associate[sync.WaitGroup]", "sync.fatal", "sync/atomic.OrUint64", "sync/atomic.AddUint64", "internal/race.Read", "sync/atomic.LoadUint64", "sync/atomic.StoreUint64", "internal/synctest.Disassociate[sync.WaitGroup]", "sync.runtime_Semrelease", "(*sync.WaitGroup).Done", "(*sync.WaitGroup).Wait", "internal/race.Acquire", "internal/synctest.IsAssociated[sync.WaitGroup]", "sync/atomic.CompareAndSwapUint64", "internal/race.Write", "sync.runtime_SemacquireWaitGroup"], unfollowed := true, recurses := true, plainKeys := false, leaving := true, apart := false }
def FnExactCountFittingSaid : Prop := fnExactCountFittingRow.holds Try.pinned (OpenSpec.ofChange fnExactCountFittingSpec)

/-- ITS FALSE NEIGHBOUR: 'it returns false'. Refute it at one input. -/
def fnExactCountFittingWrong : ChangeSpec := { name := "fnExactCountFitting", fn := fun _ => fun
  | [d1, d2] => { results := [.lit (.bool false)], args := [d1, d2] }
  | _ => none }
def FnExactCountFittingWrongFalsely : Prop := fnExactCountFittingRow.holds Try.pinned (OpenSpec.ofChange fnExactCountFittingWrong)

/-- 'laws.FnExactFittingCodes': WHATEVER THE INPUT: true; the input reads as it did. -/
def fnExactFittingCodesSpec : ChangeSpec := { name := "fnExactFittingCodes", fn := fun _ => fun
  | [d1, d2] => { results := [.lit (.bool true)], args := [d1, d2] }
  | _ => none }
def fnExactFittingCodesRow : OpenClaim := { program := "ytfgogiafimiibaa", sum := "e9219e4e54d748927a2852a864cf5c7391870c62c975595e8117b06d4ac0d3ef", func := "loop.example/g01304/laws.FnExactFittingCodes", spec := "fnExactFittingCodes", inPlace := ["(*sync.WaitGroup).Add", "internal/race.ReleaseMerge", "internal/race.Disable", "internal/race.Enable", "internal/synctest.IsInBubble", "internal/synctest.Associate[sync.WaitGroup]", "sync.fatal", "sync/atomic.OrUint64", "sync/atomic.AddUint64", "internal/race.Read", "sync/atomic.LoadUint64", "sync/atomic.StoreUint64", "internal/synctest.Disassociate[sync.WaitGroup]", "sync.runtime_Semrelease", "(*sync.WaitGroup).Done", "(*sync.WaitGroup).Wait", "internal/race.Acquire", "internal/synctest.IsAssociated[sync.WaitGroup]", "sync/atomic.CompareAndSwapUint64", "internal/race.Write", "sync.runtime_SemacquireWaitGroup"], unfollowed := true, recurses := true, plainKeys := false, leaving := true, apart := false }
def FnExactFittingCodesSaid : Prop := fnExactFittingCodesRow.holds Try.pinned (OpenSpec.ofChange fnExactFittingCodesSpec)

/-- ITS FALSE NEIGHBOUR: 'it returns false'. Refute it at one input. -/
def fnExactFittingCodesWrong : ChangeSpec := { name := "fnExactFittingCodes", fn := fun _ => fun
  | [d1, d2] => { results := [.lit (.bool false)], args := [d1, d2] }
  | _ => none }
def FnExactFittingCodesWrongFalsely : Prop := fnExactFittingCodesRow.holds Try.pinned (OpenSpec.ofChange fnExactFittingCodesWrong)

/-- 'laws.FnExactHintTable': WHATEVER THE INPUT: true; the input reads as it did. -/
def fnExactHintTableSpec : ChangeSpec := { name := "fnExactHintTable", fn := fun _ => fun
  | [d1, d2, d3] => { results := [.lit (.bool true)], args := [d1, d2, d3] }
  | _ => none }
def fnExactHintTableRow : OpenClaim := { program := "ytfgogiafimiibaa", sum := "e9219e4e54d748927a2852a864cf5c7391870c62c975595e8117b06d4ac0d3ef", func := "loop.example/g01304/laws.FnExactHintTable", spec := "fnExactHintTable", inPlace := ["(*sync.WaitGroup).Add", "internal/race.ReleaseMerge", "internal/race.Disable", "internal/race.Enable", "internal/synctest.IsInBubble", "internal/synctest.Associate[sync.WaitGroup]", "sync.fatal", "sync/atomic.OrUint64", "sync/atomic.AddUint64", "internal/race.Read", "sync/atomic.LoadUint64", "sync/atomic.StoreUint64", "internal/synctest.Disassociate[sync.WaitGroup]", "sync.runtime_Semrelease", "(*sync.WaitGroup).Done", "(*sync.WaitGroup).Wait", "internal/race.Acquire", "internal/synctest.IsAssociated[sync.WaitGroup]", "sync/atomic.CompareAndSwapUint64", "internal/race.Write", "sync.runtime_SemacquireWaitGroup"], unfollowed := true, recurses := true, plainKeys := false, leaving := true, apart := false }
def FnExactHintTableSaid : Prop := fnExactHintTableRow.holds Try.pinned (OpenSpec.ofChange fnExactHintTableSpec)

/-- ITS FALSE NEIGHBOUR: 'it returns false'. Refute it at one input. -/
def fnExactHintTableWrong : ChangeSpec := { name := "fnExactHintTable", fn := fun _ => fun
  | [d1, d2, d3] => { results := [.lit (.bool false)], args := [d1, d2, d3] }
  | _ => none }
def FnExactHintTableWrongFalsely : Prop := fnExactHintTableRow.holds Try.pinned (OpenSpec.ofChange fnExactHintTableWrong)

/-- 'laws.FnExactWorstOfGuess': WHATEVER THE INPUT: true; the input reads as it did. -/
def fnExactWorstOfGuessSpec : ChangeSpec := { name := "fnExactWorstOfGuess", fn := fun _ => fun
  | [d1, d2, d3] => { results := [.lit (.bool true)], args := [d1, d2, d3] }
  | _ => none }
def fnExactWorstOfGuessRow : OpenClaim := { program := "ytfgogiafimiibaa", sum := "e9219e4e54d748927a2852a864cf5c7391870c62c975595e8117b06d4ac0d3ef", func := "loop.example/g01304/laws.FnExactWorstOfGuess", spec := "fnExactWorstOfGuess", inPlace := ["(*sync.WaitGroup).Add", "internal/race.ReleaseMerge", "internal/race.Disable", "internal/race.Enable", "internal/synctest.IsInBubble", "internal/synctest.Associate[sync.WaitGroup]", "sync.fatal", "sync/atomic.OrUint64", "sync/atomic.AddUint64", "internal/race.Read", "sync/atomic.LoadUint64", "sync/atomic.StoreUint64", "internal/synctest.Disassociate[sync.WaitGroup]", "sync.runtime_Semrelease", "(*sync.WaitGroup).Done", "(*sync.WaitGroup).Wait", "internal/race.Acquire", "internal/synctest.IsAssociated[sync.WaitGroup]", "sync/atomic.CompareAndSwapUint64", "internal/race.Write", "sync.runtime_SemacquireWaitGroup"], unfollowed := true, recurses := true, plainKeys := false, leaving := true, apart := false }
def FnExactWorstOfGuessSaid : Prop := fnExactWorstOfGuessRow.holds Try.pinned (OpenSpec.ofChange fnExactWorstOfGuessSpec)

/-- ITS FALSE NEIGHBOUR: 'it returns false'. Refute it at one input. -/
def fnExactWorstOfGuessWrong : ChangeSpec := { name := "fnExactWorstOfGuess", fn := fun _ => fun
  | [d1, d2, d3] => { results := [.lit (.bool false)], args := [d1, d2, d3] }
  | _ => none }
def FnExactWorstOfGuessWrongFalsely : Prop := fnExactWorstOfGuessRow.holds Try.pinned (OpenSpec.ofChange fnExactWorstOfGuessWrong)

/-- 'laws.FnExactBestGuess': WHATEVER THE INPUT: true; the input reads as it did. -/
def fnExactBestGuessSpec : ChangeSpec := { name := "fnExactBestGuess", fn := fun _ => fun
  | [d1, d2] => { results := [.lit (.bool true)], args := [d1, d2] }
  | _ => none }
def fnExactBestGuessRow : OpenClaim := { program := "ytfgogiafimiibaa", sum := "e9219e4e54d748927a2852a864cf5c7391870c62c975595e8117b06d4ac0d3ef", func := "loop.example/g01304/laws.FnExactBestGuess", spec := "fnExactBestGuess", inPlace := ["(*sync.WaitGroup).Add", "internal/race.ReleaseMerge", "internal/race.Disable", "internal/race.Enable", "internal/synctest.IsInBubble", "internal/synctest.Associate[sync.WaitGroup]", "sync.fatal", "sync/atomic.OrUint64", "sync/atomic.AddUint64", "internal/race.Read", "sync/atomic.LoadUint64", "sync/atomic.StoreUint64", "internal/synctest.Disassociate[sync.WaitGroup]", "sync.runtime_Semrelease", "(*sync.WaitGroup).Done", "(*sync.WaitGroup).Wait", "internal/race.Acquire", "internal/synctest.IsAssociated[sync.WaitGroup]", "sync/atomic.CompareAndSwapUint64", "internal/race.Write", "sync.runtime_SemacquireWaitGroup"], unfollowed := true, recurses := true, plainKeys := false, leaving := true, apart := false }
def FnExactBestGuessSaid : Prop := fnExactBestGuessRow.holds Try.pinned (OpenSpec.ofChange fnExactBestGuessSpec)

/-- ITS FALSE NEIGHBOUR: 'it returns false'. Refute it at one input. -/
def fnExactBestGuessWrong : ChangeSpec := { name := "fnExactBestGuess", fn := fun _ => fun
  | [d1, d2] => { results := [.lit (.bool false)], args := [d1, d2] }
  | _ => none }
def FnExactBestGuessWrongFalsely : Prop := fnExactBestGuessRow.holds Try.pinned (OpenSpec.ofChange fnExactBestGuessWrong)

/-- 'laws.FnExactPlayFirst': WHATEVER THE INPUT: true; the input reads as it did. -/
def fnExactPlayFirstSpec : ChangeSpec := { name := "fnExactPlayFirst", fn := fun _ => fun
  | [d1, d2] => { results := [.lit (.bool true)], args := [d1, d2] }
  | _ => none }
def fnExactPlayFirstRow : OpenClaim := { program := "ytfgogiafimiibaa", sum := "e9219e4e54d748927a2852a864cf5c7391870c62c975595e8117b06d4ac0d3ef", func := "loop.example/g01304/laws.FnExactPlayFirst", spec := "fnExactPlayFirst", inPlace := ["(*sync.WaitGroup).Add", "internal/race.ReleaseMerge", "internal/race.Disable", "internal/race.Enable", "internal/synctest.IsInBubble", "internal/synctest.Associate[sync.WaitGroup]", "sync.fatal", "sync/atomic.OrUint64", "sync/atomic.AddUint64", "internal/race.Read", "sync/atomic.LoadUint64", "sync/atomic.StoreUint64", "internal/synctest.Disassociate[sync.WaitGroup]", "sync.runtime_Semrelease", "(*sync.WaitGroup).Done", "(*sync.WaitGroup).Wait", "internal/race.Acquire", "internal/synctest.IsAssociated[sync.WaitGroup]", "sync/atomic.CompareAndSwapUint64", "internal/race.Write", "sync.runtime_SemacquireWaitGroup"], unfollowed := true, recurses := true, plainKeys := false, leaving := true, apart := false }
def FnExactPlayFirstSaid : Prop := fnExactPlayFirstRow.holds Try.pinned (OpenSpec.ofChange fnExactPlayFirstSpec)

/-- ITS FALSE NEIGHBOUR: 'it returns false'. Refute it at one input. -/
def fnExactPlayFirstWrong : ChangeSpec := { name := "fnExactPlayFirst", fn := fun _ => fun
  | [d1, d2] => { results := [.lit (.bool false)], args := [d1, d2] }
  | _ => none }
def FnExactPlayFirstWrongFalsely : Prop := fnExactPlayFirstRow.holds Try.pinned (OpenSpec.ofChange fnExactPlayFirstWrong)

/-- 'laws.FnExactCountGuesses': WHATEVER THE INPUT: true; the input reads as it did. -/
def fnExactCountGuessesSpec : ChangeSpec := { name := "fnExactCountGuesses", fn := fun _ => fun
  | [d1, d2] => { results := [.lit (.bool true)], args := [d1, d2] }
  | _ => none }
def fnExactCountGuessesRow : OpenClaim := { program := "ytfgogiafimiibaa", sum := "e9219e4e54d748927a2852a864cf5c7391870c62c975595e8117b06d4ac0d3ef", func := "loop.example/g01304/laws.FnExactCountGuesses", spec := "fnExactCountGuesses", inPlace := ["(*sync.WaitGroup).Add", "internal/race.ReleaseMerge", "internal/race.Disable", "internal/race.Enable", "internal/synctest.IsInBubble", "internal/synctest.Associate[sync.WaitGroup]", "sync.fatal", "sync/atomic.OrUint64", "sync/atomic.AddUint64", "internal/race.Read", "sync/atomic.LoadUint64", "sync/atomic.StoreUint64", "internal/synctest.Disassociate[sync.WaitGroup]", "sync.runtime_Semrelease", "(*sync.WaitGroup).Done", "(*sync.WaitGroup).Wait", "internal/race.Acquire", "internal/synctest.IsAssociated[sync.WaitGroup]", "sync/atomic.CompareAndSwapUint64", "internal/race.Write", "sync.runtime_SemacquireWaitGroup"], unfollowed := true, recurses := true, plainKeys := false, leaving := true, apart := false }
def FnExactCountGuessesSaid : Prop := fnExactCountGuessesRow.holds Try.pinned (OpenSpec.ofChange fnExactCountGuessesSpec)

/-- ITS FALSE NEIGHBOUR: 'it returns false'. Refute it at one input. -/
def fnExactCountGuessesWrong : ChangeSpec := { name := "fnExactCountGuesses", fn := fun _ => fun
  | [d1, d2] => { results := [.lit (.bool false)], args := [d1, d2] }
  | _ => none }
def FnExactCountGuessesWrongFalsely : Prop := fnExactCountGuessesRow.holds Try.pinned (OpenSpec.ofChange fnExactCountGuessesWrong)

/-- 'laws.FnExactMostGuesses': WHATEVER THE INPUT: true; the input reads as it did. -/
def fnExactMostGuessesSpec : ChangeSpec := { name := "fnExactMostGuesses", fn := fun _ => fun
  | [d] => { results := [.lit (.bool true)], args := [d] }
  | _ => none }
def fnExactMostGuessesRow : OpenClaim := { program := "ytfgogiafimiibaa", sum := "e9219e4e54d748927a2852a864cf5c7391870c62c975595e8117b06d4ac0d3ef", func := "loop.example/g01304/laws.FnExactMostGuesses", spec := "fnExactMostGuesses", inPlace := ["(*sync.WaitGroup).Add", "internal/race.ReleaseMerge", "internal/race.Disable", "internal/race.Enable", "internal/synctest.IsInBubble", "internal/synctest.Associate[sync.WaitGroup]", "sync.fatal", "sync/atomic.OrUint64", "sync/atomic.AddUint64", "internal/race.Read", "sync/atomic.LoadUint64", "sync/atomic.StoreUint64", "internal/synctest.Disassociate[sync.WaitGroup]", "sync.runtime_Semrelease", "(*sync.WaitGroup).Done", "(*sync.WaitGroup).Wait", "internal/race.Acquire", "internal/synctest.IsAssociated[sync.WaitGroup]", "sync/atomic.CompareAndSwapUint64", "internal/race.Write", "sync.runtime_SemacquireWaitGroup"], unfollowed := true, recurses := true, plainKeys := false, leaving := true, apart := false }
def FnExactMostGuessesSaid : Prop := fnExactMostGuessesRow.holds Try.pinned (OpenSpec.ofChange fnExactMostGuessesSpec)

/-- ITS FALSE NEIGHBOUR: 'it returns false'. Refute it at one input. -/
def fnExactMostGuessesWrong : ChangeSpec := { name := "fnExactMostGuesses", fn := fun _ => fun
  | [d] => { results := [.lit (.bool false)], args := [d] }
  | _ => none }
def FnExactMostGuessesWrongFalsely : Prop := fnExactMostGuessesRow.holds Try.pinned (OpenSpec.ofChange fnExactMostGuessesWrong)

/-- 'laws.FnExactHardestCodes': WHATEVER THE INPUT: true; the input reads as it did. -/
def fnExactHardestCodesSpec : ChangeSpec := { name := "fnExactHardestCodes", fn := fun _ => fun
  | [d] => { results := [.lit (.bool true)], args := [d] }
  | _ => none }
def fnExactHardestCodesRow : OpenClaim := { program := "ytfgogiafimiibaa", sum := "e9219e4e54d748927a2852a864cf5c7391870c62c975595e8117b06d4ac0d3ef", func := "loop.example/g01304/laws.FnExactHardestCodes", spec := "fnExactHardestCodes", inPlace := ["(*sync.WaitGroup).Add", "internal/race.ReleaseMerge", "internal/race.Disable", "internal/race.Enable", "internal/synctest.IsInBubble", "internal/synctest.Associate[sync.WaitGroup]", "sync.fatal", "sync/atomic.OrUint64", "sync/atomic.AddUint64", "internal/race.Read", "sync/atomic.LoadUint64", "sync/atomic.StoreUint64", "internal/synctest.Disassociate[sync.WaitGroup]", "sync.runtime_Semrelease", "(*sync.WaitGroup).Done", "(*sync.WaitGroup).Wait", "internal/race.Acquire", "internal/synctest.IsAssociated[sync.WaitGroup]", "sync/atomic.CompareAndSwapUint64", "internal/race.Write", "sync.runtime_SemacquireWaitGroup"], unfollowed := true, recurses := true, plainKeys := false, leaving := true, apart := false }
def FnExactHardestCodesSaid : Prop := fnExactHardestCodesRow.holds Try.pinned (OpenSpec.ofChange fnExactHardestCodesSpec)

/-- ITS FALSE NEIGHBOUR: 'it returns false'. Refute it at one input. -/
def fnExactHardestCodesWrong : ChangeSpec := { name := "fnExactHardestCodes", fn := fun _ => fun
  | [d] => { results := [.lit (.bool false)], args := [d] }
  | _ => none }
def FnExactHardestCodesWrongFalsely : Prop := fnExactHardestCodesRow.holds Try.pinned (OpenSpec.ofChange fnExactHardestCodesWrong)

/-- 'laws.FnExactNeedlessHints': WHATEVER THE INPUT: true; the input reads as it did. -/
def fnExactNeedlessHintsSpec : ChangeSpec := { name := "fnExactNeedlessHints", fn := fun _ => fun
  | [d1, d2] => { results := [.lit (.bool true)], args := [d1, d2] }
  | _ => none }
def fnExactNeedlessHintsRow : OpenClaim := { program := "ytfgogiafimiibaa", sum := "e9219e4e54d748927a2852a864cf5c7391870c62c975595e8117b06d4ac0d3ef", func := "loop.example/g01304/laws.FnExactNeedlessHints", spec := "fnExactNeedlessHints", inPlace := ["(*sync.WaitGroup).Add", "internal/race.ReleaseMerge", "internal/race.Disable", "internal/race.Enable", "internal/synctest.IsInBubble", "internal/synctest.Associate[sync.WaitGroup]", "sync.fatal", "sync/atomic.OrUint64", "sync/atomic.AddUint64", "internal/race.Read", "sync/atomic.LoadUint64", "sync/atomic.StoreUint64", "internal/synctest.Disassociate[sync.WaitGroup]", "sync.runtime_Semrelease", "(*sync.WaitGroup).Done", "(*sync.WaitGroup).Wait", "internal/race.Acquire", "internal/synctest.IsAssociated[sync.WaitGroup]", "sync/atomic.CompareAndSwapUint64", "internal/race.Write", "sync.runtime_SemacquireWaitGroup"], unfollowed := true, recurses := true, plainKeys := false, leaving := true, apart := false }
def FnExactNeedlessHintsSaid : Prop := fnExactNeedlessHintsRow.holds Try.pinned (OpenSpec.ofChange fnExactNeedlessHintsSpec)

/-- ITS FALSE NEIGHBOUR: 'it returns false'. Refute it at one input. -/
def fnExactNeedlessHintsWrong : ChangeSpec := { name := "fnExactNeedlessHints", fn := fun _ => fun
  | [d1, d2] => { results := [.lit (.bool false)], args := [d1, d2] }
  | _ => none }
def FnExactNeedlessHintsWrongFalsely : Prop := fnExactNeedlessHintsRow.holds Try.pinned (OpenSpec.ofChange fnExactNeedlessHintsWrong)

/-- 'laws.FnExactPossibleHints': WHATEVER THE INPUT: true; the input reads as it did. -/
def fnExactPossibleHintsSpec : ChangeSpec := { name := "fnExactPossibleHints", fn := fun _ => fun
  | [d] => { results := [.lit (.bool true)], args := [d] }
  | _ => none }
def fnExactPossibleHintsRow : OpenClaim := { program := "ytfgogiafimiibaa", sum := "e9219e4e54d748927a2852a864cf5c7391870c62c975595e8117b06d4ac0d3ef", func := "loop.example/g01304/laws.FnExactPossibleHints", spec := "fnExactPossibleHints", inPlace := ["(*sync.WaitGroup).Add", "internal/race.ReleaseMerge", "internal/race.Disable", "internal/race.Enable", "internal/synctest.IsInBubble", "internal/synctest.Associate[sync.WaitGroup]", "sync.fatal", "sync/atomic.OrUint64", "sync/atomic.AddUint64", "internal/race.Read", "sync/atomic.LoadUint64", "sync/atomic.StoreUint64", "internal/synctest.Disassociate[sync.WaitGroup]", "sync.runtime_Semrelease", "(*sync.WaitGroup).Done", "(*sync.WaitGroup).Wait", "internal/race.Acquire", "internal/synctest.IsAssociated[sync.WaitGroup]", "sync/atomic.CompareAndSwapUint64", "internal/race.Write", "sync.runtime_SemacquireWaitGroup"], unfollowed := true, recurses := true, plainKeys := false, leaving := true, apart := false }
def FnExactPossibleHintsSaid : Prop := fnExactPossibleHintsRow.holds Try.pinned (OpenSpec.ofChange fnExactPossibleHintsSpec)

/-- ITS FALSE NEIGHBOUR: 'it returns false'. Refute it at one input. -/
def fnExactPossibleHintsWrong : ChangeSpec := { name := "fnExactPossibleHints", fn := fun _ => fun
  | [d] => { results := [.lit (.bool false)], args := [d] }
  | _ => none }
def FnExactPossibleHintsWrongFalsely : Prop := fnExactPossibleHintsRow.holds Try.pinned (OpenSpec.ofChange fnExactPossibleHintsWrong)

/-- 'laws.FnExactCountWithHint': WHATEVER THE INPUT: true; the input reads as it did. -/
def fnExactCountWithHintSpec : ChangeSpec := { name := "fnExactCountWithHint", fn := fun _ => fun
  | [d1, d2, d3] => { results := [.lit (.bool true)], args := [d1, d2, d3] }
  | _ => none }
def fnExactCountWithHintRow : OpenClaim := { program := "ytfgogiafimiibaa", sum := "e9219e4e54d748927a2852a864cf5c7391870c62c975595e8117b06d4ac0d3ef", func := "loop.example/g01304/laws.FnExactCountWithHint", spec := "fnExactCountWithHint", inPlace := ["(*sync.WaitGroup).Add", "internal/race.ReleaseMerge", "internal/race.Disable", "internal/race.Enable", "internal/synctest.IsInBubble", "internal/synctest.Associate[sync.WaitGroup]", "sync.fatal", "sync/atomic.OrUint64", "sync/atomic.AddUint64", "internal/race.Read", "sync/atomic.LoadUint64", "sync/atomic.StoreUint64", "internal/synctest.Disassociate[sync.WaitGroup]", "sync.runtime_Semrelease", "(*sync.WaitGroup).Done", "(*sync.WaitGroup).Wait", "internal/race.Acquire", "internal/synctest.IsAssociated[sync.WaitGroup]", "sync/atomic.CompareAndSwapUint64", "internal/race.Write", "sync.runtime_SemacquireWaitGroup"], unfollowed := true, recurses := true, plainKeys := false, leaving := true, apart := false }
def FnExactCountWithHintSaid : Prop := fnExactCountWithHintRow.holds Try.pinned (OpenSpec.ofChange fnExactCountWithHintSpec)

/-- ITS FALSE NEIGHBOUR: 'it returns false'. Refute it at one input. -/
def fnExactCountWithHintWrong : ChangeSpec := { name := "fnExactCountWithHint", fn := fun _ => fun
  | [d1, d2, d3] => { results := [.lit (.bool false)], args := [d1, d2, d3] }
  | _ => none }
def FnExactCountWithHintWrongFalsely : Prop := fnExactCountWithHintRow.holds Try.pinned (OpenSpec.ofChange fnExactCountWithHintWrong)

/- THE SECOND FORM. 'bulk': how many values and letters a reading holds, each counted each time it is reached (what is shared counts as often as it is met; a slice's spare places count too). A statement '..UptoSaid' is the law's where the arguments, and the package variables that the reading takes, are together of bulk at most 1048576: NARROWER than '..Said'. Prove '..Said' where nothing that the law and all that it calls make is longer than what came in: it says more and counts as full. Else prove '..UptoSaid'. A law counts once. -/
mutual
def uptoBulk {H : Type} : DataW H → Nat
  | .lit (.string bytes) => bytes.length + 1
  | .lit _ => 1
  | .nil => 1
  | .ptr d => uptoBulk d + 1
  | .slice elems spare => uptoBulkAll elems + uptoBulkAll spare + 1
  | .agg parts => uptoBulkAll parts + 1
  | .iface _ d => uptoBulk d + 1
  | .map entries => uptoBulkEntries entries + 1
  | .held _ => 1
def uptoBulkAll {H : Type} : List (DataW H) → Nat
  | [] => 0
  | d :: r => uptoBulk d + uptoBulkAll r
def uptoBulkEntries {H : Type} : List (Lit × DataW H) → Nat
  | [] => 0
  | x :: r => uptoBulkEntry x + uptoBulkEntries r
def uptoBulkEntry {H : Type} : Lit × DataW H → Nat
  | (.string bytes, d) => bytes.length + uptoBulk d + 1
  | (_, d) => uptoBulk d + 1
 end
def uptoSmall : (H : Type) → List (DataW H) → Bool := fun _ ds => decide (uptoBulkAll ds ≤ 1048576)
def OpenSpec.upto (s : _root_.Go.ChangeSpec) : _root_.Go.OpenSpec := { _root_.Go.OpenSpec.ofChange s with cond := some uptoSmall }

/-- 'laws.FnExactHintOf', WHERE WHAT IT READS IS OF BULK AT MOST 1048576: true; the input reads as it did. -/
def fnExactHintOfUptoRow : OpenClaim := { program := "ytfgogiafimiibaa", sum := "e9219e4e54d748927a2852a864cf5c7391870c62c975595e8117b06d4ac0d3ef", func := "loop.example/g01304/laws.FnExactHintOf", spec := "fnExactHintOf", plainKeys := false, apart := false, narrowed := true }
def FnExactHintOfUptoSaid : Prop := fnExactHintOfUptoRow.holds Try.pinned (OpenSpec.upto fnExactHintOfSpec)

/-- 'laws.FnExactAreHints', WHERE WHAT IT READS IS OF BULK AT MOST 1048576: true; the input reads as it did. -/
def fnExactAreHintsUptoRow : OpenClaim := { program := "ytfgogiafimiibaa", sum := "e9219e4e54d748927a2852a864cf5c7391870c62c975595e8117b06d4ac0d3ef", func := "loop.example/g01304/laws.FnExactAreHints", spec := "fnExactAreHints", plainKeys := false, apart := false, narrowed := true }
def FnExactAreHintsUptoSaid : Prop := fnExactAreHintsUptoRow.holds Try.pinned (OpenSpec.upto fnExactAreHintsSpec)

/-- 'laws.FnExactFitsHints', WHERE WHAT IT READS IS OF BULK AT MOST 1048576: true; the input reads as it did. -/
def fnExactFitsHintsUptoRow : OpenClaim := { program := "ytfgogiafimiibaa", sum := "e9219e4e54d748927a2852a864cf5c7391870c62c975595e8117b06d4ac0d3ef", func := "loop.example/g01304/laws.FnExactFitsHints", spec := "fnExactFitsHints", plainKeys := false, apart := false, narrowed := true }
def FnExactFitsHintsUptoSaid : Prop := fnExactFitsHintsUptoRow.holds Try.pinned (OpenSpec.upto fnExactFitsHintsSpec)

/-- 'laws.FnExactCountFitting', WHERE WHAT IT READS IS OF BULK AT MOST 1048576: true; the input reads as it did. -/
def fnExactCountFittingUptoRow : OpenClaim := { program := "ytfgogiafimiibaa", sum := "e9219e4e54d748927a2852a864cf5c7391870c62c975595e8117b06d4ac0d3ef", func := "loop.example/g01304/laws.FnExactCountFitting", spec := "fnExactCountFitting", inPlace := ["(*sync.WaitGroup).Add", "internal/race.ReleaseMerge", "internal/race.Disable", "internal/race.Enable", "internal/synctest.IsInBubble", "internal/synctest.Associate[sync.WaitGroup]", "sync.fatal", "sync/atomic.OrUint64", "sync/atomic.AddUint64", "internal/race.Read", "sync/atomic.LoadUint64", "sync/atomic.StoreUint64", "internal/synctest.Disassociate[sync.WaitGroup]", "sync.runtime_Semrelease", "(*sync.WaitGroup).Done", "(*sync.WaitGroup).Wait", "internal/race.Acquire", "internal/synctest.IsAssociated[sync.WaitGroup]", "sync/atomic.CompareAndSwapUint64", "internal/race.Write", "sync.runtime_SemacquireWaitGroup"], unfollowed := true, recurses := true, plainKeys := false, leaving := true, apart := false, narrowed := true }
def FnExactCountFittingUptoSaid : Prop := fnExactCountFittingUptoRow.holds Try.pinned (OpenSpec.upto fnExactCountFittingSpec)

/-- 'laws.FnExactFittingCodes', WHERE WHAT IT READS IS OF BULK AT MOST 1048576: true; the input reads as it did. -/
def fnExactFittingCodesUptoRow : OpenClaim := { program := "ytfgogiafimiibaa", sum := "e9219e4e54d748927a2852a864cf5c7391870c62c975595e8117b06d4ac0d3ef", func := "loop.example/g01304/laws.FnExactFittingCodes", spec := "fnExactFittingCodes", inPlace := ["(*sync.WaitGroup).Add", "internal/race.ReleaseMerge", "internal/race.Disable", "internal/race.Enable", "internal/synctest.IsInBubble", "internal/synctest.Associate[sync.WaitGroup]", "sync.fatal", "sync/atomic.OrUint64", "sync/atomic.AddUint64", "internal/race.Read", "sync/atomic.LoadUint64", "sync/atomic.StoreUint64", "internal/synctest.Disassociate[sync.WaitGroup]", "sync.runtime_Semrelease", "(*sync.WaitGroup).Done", "(*sync.WaitGroup).Wait", "internal/race.Acquire", "internal/synctest.IsAssociated[sync.WaitGroup]", "sync/atomic.CompareAndSwapUint64", "internal/race.Write", "sync.runtime_SemacquireWaitGroup"], unfollowed := true, recurses := true, plainKeys := false, leaving := true, apart := false, narrowed := true }
def FnExactFittingCodesUptoSaid : Prop := fnExactFittingCodesUptoRow.holds Try.pinned (OpenSpec.upto fnExactFittingCodesSpec)

/-- 'laws.FnExactHintTable', WHERE WHAT IT READS IS OF BULK AT MOST 1048576: true; the input reads as it did. -/
def fnExactHintTableUptoRow : OpenClaim := { program := "ytfgogiafimiibaa", sum := "e9219e4e54d748927a2852a864cf5c7391870c62c975595e8117b06d4ac0d3ef", func := "loop.example/g01304/laws.FnExactHintTable", spec := "fnExactHintTable", inPlace := ["(*sync.WaitGroup).Add", "internal/race.ReleaseMerge", "internal/race.Disable", "internal/race.Enable", "internal/synctest.IsInBubble", "internal/synctest.Associate[sync.WaitGroup]", "sync.fatal", "sync/atomic.OrUint64", "sync/atomic.AddUint64", "internal/race.Read", "sync/atomic.LoadUint64", "sync/atomic.StoreUint64", "internal/synctest.Disassociate[sync.WaitGroup]", "sync.runtime_Semrelease", "(*sync.WaitGroup).Done", "(*sync.WaitGroup).Wait", "internal/race.Acquire", "internal/synctest.IsAssociated[sync.WaitGroup]", "sync/atomic.CompareAndSwapUint64", "internal/race.Write", "sync.runtime_SemacquireWaitGroup"], unfollowed := true, recurses := true, plainKeys := false, leaving := true, apart := false, narrowed := true }
def FnExactHintTableUptoSaid : Prop := fnExactHintTableUptoRow.holds Try.pinned (OpenSpec.upto fnExactHintTableSpec)

/-- 'laws.FnExactWorstOfGuess', WHERE WHAT IT READS IS OF BULK AT MOST 1048576: true; the input reads as it did. -/
def fnExactWorstOfGuessUptoRow : OpenClaim := { program := "ytfgogiafimiibaa", sum := "e9219e4e54d748927a2852a864cf5c7391870c62c975595e8117b06d4ac0d3ef", func := "loop.example/g01304/laws.FnExactWorstOfGuess", spec := "fnExactWorstOfGuess", inPlace := ["(*sync.WaitGroup).Add", "internal/race.ReleaseMerge", "internal/race.Disable", "internal/race.Enable", "internal/synctest.IsInBubble", "internal/synctest.Associate[sync.WaitGroup]", "sync.fatal", "sync/atomic.OrUint64", "sync/atomic.AddUint64", "internal/race.Read", "sync/atomic.LoadUint64", "sync/atomic.StoreUint64", "internal/synctest.Disassociate[sync.WaitGroup]", "sync.runtime_Semrelease", "(*sync.WaitGroup).Done", "(*sync.WaitGroup).Wait", "internal/race.Acquire", "internal/synctest.IsAssociated[sync.WaitGroup]", "sync/atomic.CompareAndSwapUint64", "internal/race.Write", "sync.runtime_SemacquireWaitGroup"], unfollowed := true, recurses := true, plainKeys := false, leaving := true, apart := false, narrowed := true }
def FnExactWorstOfGuessUptoSaid : Prop := fnExactWorstOfGuessUptoRow.holds Try.pinned (OpenSpec.upto fnExactWorstOfGuessSpec)

/-- 'laws.FnExactBestGuess', WHERE WHAT IT READS IS OF BULK AT MOST 1048576: true; the input reads as it did. -/
def fnExactBestGuessUptoRow : OpenClaim := { program := "ytfgogiafimiibaa", sum := "e9219e4e54d748927a2852a864cf5c7391870c62c975595e8117b06d4ac0d3ef", func := "loop.example/g01304/laws.FnExactBestGuess", spec := "fnExactBestGuess", inPlace := ["(*sync.WaitGroup).Add", "internal/race.ReleaseMerge", "internal/race.Disable", "internal/race.Enable", "internal/synctest.IsInBubble", "internal/synctest.Associate[sync.WaitGroup]", "sync.fatal", "sync/atomic.OrUint64", "sync/atomic.AddUint64", "internal/race.Read", "sync/atomic.LoadUint64", "sync/atomic.StoreUint64", "internal/synctest.Disassociate[sync.WaitGroup]", "sync.runtime_Semrelease", "(*sync.WaitGroup).Done", "(*sync.WaitGroup).Wait", "internal/race.Acquire", "internal/synctest.IsAssociated[sync.WaitGroup]", "sync/atomic.CompareAndSwapUint64", "internal/race.Write", "sync.runtime_SemacquireWaitGroup"], unfollowed := true, recurses := true, plainKeys := false, leaving := true, apart := false, narrowed := true }
def FnExactBestGuessUptoSaid : Prop := fnExactBestGuessUptoRow.holds Try.pinned (OpenSpec.upto fnExactBestGuessSpec)

/-- 'laws.FnExactPlayFirst', WHERE WHAT IT READS IS OF BULK AT MOST 1048576: true; the input reads as it did. -/
def fnExactPlayFirstUptoRow : OpenClaim := { program := "ytfgogiafimiibaa", sum := "e9219e4e54d748927a2852a864cf5c7391870c62c975595e8117b06d4ac0d3ef", func := "loop.example/g01304/laws.FnExactPlayFirst", spec := "fnExactPlayFirst", inPlace := ["(*sync.WaitGroup).Add", "internal/race.ReleaseMerge", "internal/race.Disable", "internal/race.Enable", "internal/synctest.IsInBubble", "internal/synctest.Associate[sync.WaitGroup]", "sync.fatal", "sync/atomic.OrUint64", "sync/atomic.AddUint64", "internal/race.Read", "sync/atomic.LoadUint64", "sync/atomic.StoreUint64", "internal/synctest.Disassociate[sync.WaitGroup]", "sync.runtime_Semrelease", "(*sync.WaitGroup).Done", "(*sync.WaitGroup).Wait", "internal/race.Acquire", "internal/synctest.IsAssociated[sync.WaitGroup]", "sync/atomic.CompareAndSwapUint64", "internal/race.Write", "sync.runtime_SemacquireWaitGroup"], unfollowed := true, recurses := true, plainKeys := false, leaving := true, apart := false, narrowed := true }
def FnExactPlayFirstUptoSaid : Prop := fnExactPlayFirstUptoRow.holds Try.pinned (OpenSpec.upto fnExactPlayFirstSpec)

/-- 'laws.FnExactCountGuesses', WHERE WHAT IT READS IS OF BULK AT MOST 1048576: true; the input reads as it did. -/
def fnExactCountGuessesUptoRow : OpenClaim := { program := "ytfgogiafimiibaa", sum := "e9219e4e54d748927a2852a864cf5c7391870c62c975595e8117b06d4ac0d3ef", func := "loop.example/g01304/laws.FnExactCountGuesses", spec := "fnExactCountGuesses", inPlace := ["(*sync.WaitGroup).Add", "internal/race.ReleaseMerge", "internal/race.Disable", "internal/race.Enable", "internal/synctest.IsInBubble", "internal/synctest.Associate[sync.WaitGroup]", "sync.fatal", "sync/atomic.OrUint64", "sync/atomic.AddUint64", "internal/race.Read", "sync/atomic.LoadUint64", "sync/atomic.StoreUint64", "internal/synctest.Disassociate[sync.WaitGroup]", "sync.runtime_Semrelease", "(*sync.WaitGroup).Done", "(*sync.WaitGroup).Wait", "internal/race.Acquire", "internal/synctest.IsAssociated[sync.WaitGroup]", "sync/atomic.CompareAndSwapUint64", "internal/race.Write", "sync.runtime_SemacquireWaitGroup"], unfollowed := true, recurses := true, plainKeys := false, leaving := true, apart := false, narrowed := true }
def FnExactCountGuessesUptoSaid : Prop := fnExactCountGuessesUptoRow.holds Try.pinned (OpenSpec.upto fnExactCountGuessesSpec)

/-- 'laws.FnExactMostGuesses', WHERE WHAT IT READS IS OF BULK AT MOST 1048576: true; the input reads as it did. -/
def fnExactMostGuessesUptoRow : OpenClaim := { program := "ytfgogiafimiibaa", sum := "e9219e4e54d748927a2852a864cf5c7391870c62c975595e8117b06d4ac0d3ef", func := "loop.example/g01304/laws.FnExactMostGuesses", spec := "fnExactMostGuesses", inPlace := ["(*sync.WaitGroup).Add", "internal/race.ReleaseMerge", "internal/race.Disable", "internal/race.Enable", "internal/synctest.IsInBubble", "internal/synctest.Associate[sync.WaitGroup]", "sync.fatal", "sync/atomic.OrUint64", "sync/atomic.AddUint64", "internal/race.Read", "sync/atomic.LoadUint64", "sync/atomic.StoreUint64", "internal/synctest.Disassociate[sync.WaitGroup]", "sync.runtime_Semrelease", "(*sync.WaitGroup).Done", "(*sync.WaitGroup).Wait", "internal/race.Acquire", "internal/synctest.IsAssociated[sync.WaitGroup]", "sync/atomic.CompareAndSwapUint64", "internal/race.Write", "sync.runtime_SemacquireWaitGroup"], unfollowed := true, recurses := true, plainKeys := false, leaving := true, apart := false, narrowed := true }
def FnExactMostGuessesUptoSaid : Prop := fnExactMostGuessesUptoRow.holds Try.pinned (OpenSpec.upto fnExactMostGuessesSpec)

/-- 'laws.FnExactHardestCodes', WHERE WHAT IT READS IS OF BULK AT MOST 1048576: true; the input reads as it did. -/
def fnExactHardestCodesUptoRow : OpenClaim := { program := "ytfgogiafimiibaa", sum := "e9219e4e54d748927a2852a864cf5c7391870c62c975595e8117b06d4ac0d3ef", func := "loop.example/g01304/laws.FnExactHardestCodes", spec := "fnExactHardestCodes", inPlace := ["(*sync.WaitGroup).Add", "internal/race.ReleaseMerge", "internal/race.Disable", "internal/race.Enable", "internal/synctest.IsInBubble", "internal/synctest.Associate[sync.WaitGroup]", "sync.fatal", "sync/atomic.OrUint64", "sync/atomic.AddUint64", "internal/race.Read", "sync/atomic.LoadUint64", "sync/atomic.StoreUint64", "internal/synctest.Disassociate[sync.WaitGroup]", "sync.runtime_Semrelease", "(*sync.WaitGroup).Done", "(*sync.WaitGroup).Wait", "internal/race.Acquire", "internal/synctest.IsAssociated[sync.WaitGroup]", "sync/atomic.CompareAndSwapUint64", "internal/race.Write", "sync.runtime_SemacquireWaitGroup"], unfollowed := true, recurses := true, plainKeys := false, leaving := true, apart := false, narrowed := true }
def FnExactHardestCodesUptoSaid : Prop := fnExactHardestCodesUptoRow.holds Try.pinned (OpenSpec.upto fnExactHardestCodesSpec)

/-- 'laws.FnExactNeedlessHints', WHERE WHAT IT READS IS OF BULK AT MOST 1048576: true; the input reads as it did. -/
def fnExactNeedlessHintsUptoRow : OpenClaim := { program := "ytfgogiafimiibaa", sum := "e9219e4e54d748927a2852a864cf5c7391870c62c975595e8117b06d4ac0d3ef", func := "loop.example/g01304/laws.FnExactNeedlessHints", spec := "fnExactNeedlessHints", inPlace := ["(*sync.WaitGroup).Add", "internal/race.ReleaseMerge", "internal/race.Disable", "internal/race.Enable", "internal/synctest.IsInBubble", "internal/synctest.Associate[sync.WaitGroup]", "sync.fatal", "sync/atomic.OrUint64", "sync/atomic.AddUint64", "internal/race.Read", "sync/atomic.LoadUint64", "sync/atomic.StoreUint64", "internal/synctest.Disassociate[sync.WaitGroup]", "sync.runtime_Semrelease", "(*sync.WaitGroup).Done", "(*sync.WaitGroup).Wait", "internal/race.Acquire", "internal/synctest.IsAssociated[sync.WaitGroup]", "sync/atomic.CompareAndSwapUint64", "internal/race.Write", "sync.runtime_SemacquireWaitGroup"], unfollowed := true, recurses := true, plainKeys := false, leaving := true, apart := false, narrowed := true }
def FnExactNeedlessHintsUptoSaid : Prop := fnExactNeedlessHintsUptoRow.holds Try.pinned (OpenSpec.upto fnExactNeedlessHintsSpec)

/-- 'laws.FnExactPossibleHints', WHERE WHAT IT READS IS OF BULK AT MOST 1048576: true; the input reads as it did. -/
def fnExactPossibleHintsUptoRow : OpenClaim := { program := "ytfgogiafimiibaa", sum := "e9219e4e54d748927a2852a864cf5c7391870c62c975595e8117b06d4ac0d3ef", func := "loop.example/g01304/laws.FnExactPossibleHints", spec := "fnExactPossibleHints", inPlace := ["(*sync.WaitGroup).Add", "internal/race.ReleaseMerge", "internal/race.Disable", "internal/race.Enable", "internal/synctest.IsInBubble", "internal/synctest.Associate[sync.WaitGroup]", "sync.fatal", "sync/atomic.OrUint64", "sync/atomic.AddUint64", "internal/race.Read", "sync/atomic.LoadUint64", "sync/atomic.StoreUint64", "internal/synctest.Disassociate[sync.WaitGroup]", "sync.runtime_Semrelease", "(*sync.WaitGroup).Done", "(*sync.WaitGroup).Wait", "internal/race.Acquire", "internal/synctest.IsAssociated[sync.WaitGroup]", "sync/atomic.CompareAndSwapUint64", "internal/race.Write", "sync.runtime_SemacquireWaitGroup"], unfollowed := true, recurses := true, plainKeys := false, leaving := true, apart := false, narrowed := true }
def FnExactPossibleHintsUptoSaid : Prop := fnExactPossibleHintsUptoRow.holds Try.pinned (OpenSpec.upto fnExactPossibleHintsSpec)

/-- 'laws.FnExactCountWithHint', WHERE WHAT IT READS IS OF BULK AT MOST 1048576: true; the input reads as it did. -/
def fnExactCountWithHintUptoRow : OpenClaim := { program := "ytfgogiafimiibaa", sum := "e9219e4e54d748927a2852a864cf5c7391870c62c975595e8117b06d4ac0d3ef", func := "loop.example/g01304/laws.FnExactCountWithHint", spec := "fnExactCountWithHint", inPlace := ["(*sync.WaitGroup).Add", "internal/race.ReleaseMerge", "internal/race.Disable", "internal/race.Enable", "internal/synctest.IsInBubble", "internal/synctest.Associate[sync.WaitGroup]", "sync.fatal", "sync/atomic.OrUint64", "sync/atomic.AddUint64", "internal/race.Read", "sync/atomic.LoadUint64", "sync/atomic.StoreUint64", "internal/synctest.Disassociate[sync.WaitGroup]", "sync.runtime_Semrelease", "(*sync.WaitGroup).Done", "(*sync.WaitGroup).Wait", "internal/race.Acquire", "internal/synctest.IsAssociated[sync.WaitGroup]", "sync/atomic.CompareAndSwapUint64", "internal/race.Write", "sync.runtime_SemacquireWaitGroup"], unfollowed := true, recurses := true, plainKeys := false, leaving := true, apart := false, narrowed := true }
def FnExactCountWithHintUptoSaid : Prop := fnExactCountWithHintUptoRow.holds Try.pinned (OpenSpec.upto fnExactCountWithHintSpec)

end Rows
end Go.Proofs.Ytfgogiafimiibaa
