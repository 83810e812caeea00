/-
  No cell of these rows narrows 'for every input' (looked for: loops, veiled, ifaces, maps, wideKeys, modest, calm, conditions, laid).
  DERIVED. THE GIVEN ROWS OF THIS SEAT. 17 by the template 'for every input the law returns true; each argument reads behind the call as it read before'; 0 by the template 'total and deterministic' (their statements: YtgcadcekkojidaaTotals.lean).
  GIVEN WITH THE SEED: the statements are not yours to turn. If you find one false, say at which input.
  Laid BY PROGRAM, IN A SANDBOX (cutbox-rows.mjs): the forced cells as the released guide's own fill.sh prints them over the translation cf909612536c72a8… (all of the seat's roots in one cut). By AI agents, Wed Nov 11 2026. No macro, syntax, notation, axiom, sorry.
-/
import Derived.Test.YtgcadcekkojidaaChecked
import GoSem.Claim
import GoSem.ClaimJoined
import GoSem.ClaimMapViews
import Derived.JoinedTies
import Derived.KernelRfl
namespace Go.Proofs.Ytgcadcekkojidaa
/- THE CELL 'sum', in the pinned program and in every row, IS THE sha256 OF THE DUMP (.gsa) THAT YtgcadcekkojidaaProg.lean LOADS. Nothing in Lean hashes anything: it is a label: what it is worth is what the hold of that sum in a sandbox is worth. -/
noncomputable def Try.pinned : Pinned := { name := "ytgcadcekkojidaa", sum := "cf909612536c72a8ccc7a57f01a33b56e1f2c6f29c27ca39bd418d16a23819f0", checked := Try.checked }
namespace Rows
def none {H : Type} : Left H := { results := [], args := [] }

/-- 'laws.FnExactArePins': WHATEVER THE INPUT: true; the input reads as it did. -/
def fnExactArePinsSpec : ChangeSpec := { name := "fnExactArePins", fn := fun _ => fun
  | [d] => { results := [.lit (.bool true)], args := [d] }
  | _ => none }
def fnExactArePinsRow : OpenClaim := { program := "ytgcadcekkojidaa", sum := "cf909612536c72a8ccc7a57f01a33b56e1f2c6f29c27ca39bd418d16a23819f0", func := "loop.example/g01304/laws.FnExactArePins", spec := "fnExactArePins", apart := false }
def FnExactArePinsSaid : Prop := fnExactArePinsRow.holds Try.pinned (OpenSpec.ofChange fnExactArePinsSpec)

/-- ITS FALSE NEIGHBOUR: 'it returns false'. Refute it at one input. -/
def fnExactArePinsWrong : ChangeSpec := { name := "fnExactArePins", fn := fun _ => fun
  | [d] => { results := [.lit (.bool false)], args := [d] }
  | _ => none }
def FnExactArePinsWrongFalsely : Prop := fnExactArePinsRow.holds Try.pinned (OpenSpec.ofChange fnExactArePinsWrong)

/-- 'laws.FnExactIsKey': WHATEVER THE INPUT: true; the input reads as it did. -/
def fnExactIsKeySpec : ChangeSpec := { name := "fnExactIsKey", fn := fun _ => fun
  | [d1, d2] => { results := [.lit (.bool true)], args := [d1, d2] }
  | _ => none }
def fnExactIsKeyRow : OpenClaim := { program := "ytgcadcekkojidaa", sum := "cf909612536c72a8ccc7a57f01a33b56e1f2c6f29c27ca39bd418d16a23819f0", func := "loop.example/g01304/laws.FnExactIsKey", spec := "fnExactIsKey", apart := false }
def FnExactIsKeySaid : Prop := fnExactIsKeyRow.holds Try.pinned (OpenSpec.ofChange fnExactIsKeySpec)

/-- ITS FALSE NEIGHBOUR: 'it returns false'. Refute it at one input. -/
def fnExactIsKeyWrong : ChangeSpec := { name := "fnExactIsKey", fn := fun _ => fun
  | [d1, d2] => { results := [.lit (.bool false)], args := [d1, d2] }
  | _ => none }
def FnExactIsKeyWrongFalsely : Prop := fnExactIsKeyRow.holds Try.pinned (OpenSpec.ofChange fnExactIsKeyWrong)

/-- 'laws.FnExactDoesOpen': WHATEVER THE INPUT: true; the input reads as it did. -/
def fnExactDoesOpenSpec : ChangeSpec := { name := "fnExactDoesOpen", fn := fun _ => fun
  | [d1, d2] => { results := [.lit (.bool true)], args := [d1, d2] }
  | _ => none }
def fnExactDoesOpenRow : OpenClaim := { program := "ytgcadcekkojidaa", sum := "cf909612536c72a8ccc7a57f01a33b56e1f2c6f29c27ca39bd418d16a23819f0", func := "loop.example/g01304/laws.FnExactDoesOpen", spec := "fnExactDoesOpen", apart := false }
def FnExactDoesOpenSaid : Prop := fnExactDoesOpenRow.holds Try.pinned (OpenSpec.ofChange fnExactDoesOpenSpec)

/-- ITS FALSE NEIGHBOUR: 'it returns false'. Refute it at one input. -/
def fnExactDoesOpenWrong : ChangeSpec := { name := "fnExactDoesOpen", fn := fun _ => fun
  | [d1, d2] => { results := [.lit (.bool false)], args := [d1, d2] }
  | _ => none }
def FnExactDoesOpenWrongFalsely : Prop := fnExactDoesOpenRow.holds Try.pinned (OpenSpec.ofChange fnExactDoesOpenWrong)

/-- 'laws.FnExactCountKeys': WHATEVER THE INPUT: true; the input reads as it did. -/
def fnExactCountKeysSpec : ChangeSpec := { name := "fnExactCountKeys", fn := fun _ => fun
  | [d] => { results := [.lit (.bool true)], args := [d] }
  | _ => none }
def fnExactCountKeysRow : OpenClaim := { program := "ytgcadcekkojidaa", sum := "cf909612536c72a8ccc7a57f01a33b56e1f2c6f29c27ca39bd418d16a23819f0", func := "loop.example/g01304/laws.FnExactCountKeys", spec := "fnExactCountKeys", unfollowed := true, recurses := true, leaving := true, apart := false }
def FnExactCountKeysSaid : Prop := fnExactCountKeysRow.holds Try.pinned (OpenSpec.ofChange fnExactCountKeysSpec)

/-- ITS FALSE NEIGHBOUR: 'it returns false'. Refute it at one input. -/
def fnExactCountKeysWrong : ChangeSpec := { name := "fnExactCountKeys", fn := fun _ => fun
  | [d] => { results := [.lit (.bool false)], args := [d] }
  | _ => none }
def FnExactCountKeysWrongFalsely : Prop := fnExactCountKeysRow.holds Try.pinned (OpenSpec.ofChange fnExactCountKeysWrong)

/-- 'laws.FnExactAllKeys': WHATEVER THE INPUT: true; the input reads as it did. -/
def fnExactAllKeysSpec : ChangeSpec := { name := "fnExactAllKeys", fn := fun _ => fun
  | [d] => { results := [.lit (.bool true)], args := [d] }
  | _ => none }
def fnExactAllKeysRow : OpenClaim := { program := "ytgcadcekkojidaa", sum := "cf909612536c72a8ccc7a57f01a33b56e1f2c6f29c27ca39bd418d16a23819f0", func := "loop.example/g01304/laws.FnExactAllKeys", spec := "fnExactAllKeys", inPlace := ["(*sync.WaitGroup).Add", "internal/race.ReleaseMerge", "internal/race.Disable", "internal/race.Enable", "internal/synctest.IsInBubble", "internal/synctest.Associate[sync.WaitGroup]", "sync.fatal", "sync/atomic.OrUint64", "sync/atomic.AddUint64", "internal/race.Read", "sync/atomic.LoadUint64", "sync/atomic.StoreUint64", "internal/synctest.Disassociate[sync.WaitGroup]", "sync.runtime_Semrelease", "(*sync.WaitGroup).Done", "(*sync.WaitGroup).Wait", "internal/race.Acquire", "internal/synctest.IsAssociated[sync.WaitGroup]", "sync/atomic.CompareAndSwapUint64", "internal/race.Write", "sync.runtime_SemacquireWaitGroup"], unfollowed := true, recurses := true, leaving := true, apart := false }
def FnExactAllKeysSaid : Prop := fnExactAllKeysRow.holds Try.pinned (OpenSpec.ofChange fnExactAllKeysSpec)

/-- ITS FALSE NEIGHBOUR: 'it returns false'. Refute it at one input. -/
def fnExactAllKeysWrong : ChangeSpec := { name := "fnExactAllKeys", fn := fun _ => fun
  | [d] => { results := [.lit (.bool false)], args := [d] }
  | _ => none }
def FnExactAllKeysWrongFalsely : Prop := fnExactAllKeysRow.holds Try.pinned (OpenSpec.ofChange fnExactAllKeysWrong)

/-- 'laws.FnExactPinsOfKey': WHATEVER THE INPUT: true; the input reads as it did. -/
def fnExactPinsOfKeySpec : ChangeSpec := { name := "fnExactPinsOfKey", fn := fun _ => fun
  | [d1, d2] => { results := [.lit (.bool true)], args := [d1, d2] }
  | _ => none }
def fnExactPinsOfKeyRow : OpenClaim := { program := "ytgcadcekkojidaa", sum := "cf909612536c72a8ccc7a57f01a33b56e1f2c6f29c27ca39bd418d16a23819f0", func := "loop.example/g01304/laws.FnExactPinsOfKey", spec := "fnExactPinsOfKey", apart := false }
def FnExactPinsOfKeySaid : Prop := fnExactPinsOfKeyRow.holds Try.pinned (OpenSpec.ofChange fnExactPinsOfKeySpec)

/-- ITS FALSE NEIGHBOUR: 'it returns false'. Refute it at one input. -/
def fnExactPinsOfKeyWrong : ChangeSpec := { name := "fnExactPinsOfKey", fn := fun _ => fun
  | [d1, d2] => { results := [.lit (.bool false)], args := [d1, d2] }
  | _ => none }
def FnExactPinsOfKeyWrongFalsely : Prop := fnExactPinsOfKeyRow.holds Try.pinned (OpenSpec.ofChange fnExactPinsOfKeyWrong)

/-- 'laws.FnExactMasterPins': WHATEVER THE INPUT: true; the input reads as it did. -/
def fnExactMasterPinsSpec : ChangeSpec := { name := "fnExactMasterPins", fn := fun _ => fun
  | [d1, d2] => { results := [.lit (.bool true)], args := [d1, d2] }
  | _ => none }
def fnExactMasterPinsRow : OpenClaim := { program := "ytgcadcekkojidaa", sum := "cf909612536c72a8ccc7a57f01a33b56e1f2c6f29c27ca39bd418d16a23819f0", func := "loop.example/g01304/laws.FnExactMasterPins", spec := "fnExactMasterPins", unfollowed := true, recurses := true, leaving := true, apart := false }
def FnExactMasterPinsSaid : Prop := fnExactMasterPinsRow.holds Try.pinned (OpenSpec.ofChange fnExactMasterPinsSpec)

/-- ITS FALSE NEIGHBOUR: 'it returns false'. Refute it at one input. -/
def fnExactMasterPinsWrong : ChangeSpec := { name := "fnExactMasterPins", fn := fun _ => fun
  | [d1, d2] => { results := [.lit (.bool false)], args := [d1, d2] }
  | _ => none }
def FnExactMasterPinsWrongFalsely : Prop := fnExactMasterPinsRow.holds Try.pinned (OpenSpec.ofChange fnExactMasterPinsWrong)

/-- 'laws.FnExactSharedKeys': WHATEVER THE INPUT: true; the input reads as it did. -/
def fnExactSharedKeysSpec : ChangeSpec := { name := "fnExactSharedKeys", fn := fun _ => fun
  | [d] => { results := [.lit (.bool true)], args := [d] }
  | _ => none }
def fnExactSharedKeysRow : OpenClaim := { program := "ytgcadcekkojidaa", sum := "cf909612536c72a8ccc7a57f01a33b56e1f2c6f29c27ca39bd418d16a23819f0", func := "loop.example/g01304/laws.FnExactSharedKeys", spec := "fnExactSharedKeys", inPlace := ["(*sync.WaitGroup).Add", "internal/race.ReleaseMerge", "internal/race.Disable", "internal/race.Enable", "internal/synctest.IsInBubble", "internal/synctest.Associate[sync.WaitGroup]", "sync.fatal", "sync/atomic.OrUint64", "sync/atomic.AddUint64", "internal/race.Read", "sync/atomic.LoadUint64", "sync/atomic.StoreUint64", "internal/synctest.Disassociate[sync.WaitGroup]", "sync.runtime_Semrelease", "(*sync.WaitGroup).Done", "(*sync.WaitGroup).Wait", "internal/race.Acquire", "internal/synctest.IsAssociated[sync.WaitGroup]", "sync/atomic.CompareAndSwapUint64", "internal/race.Write", "sync.runtime_SemacquireWaitGroup"], unfollowed := true, recurses := true, leaving := true, apart := false }
def FnExactSharedKeysSaid : Prop := fnExactSharedKeysRow.holds Try.pinned (OpenSpec.ofChange fnExactSharedKeysSpec)

/-- ITS FALSE NEIGHBOUR: 'it returns false'. Refute it at one input. -/
def fnExactSharedKeysWrong : ChangeSpec := { name := "fnExactSharedKeys", fn := fun _ => fun
  | [d] => { results := [.lit (.bool false)], args := [d] }
  | _ => none }
def FnExactSharedKeysWrongFalsely : Prop := fnExactSharedKeysRow.holds Try.pinned (OpenSpec.ofChange fnExactSharedKeysWrong)

/-- 'laws.FnExactCountShared': WHATEVER THE INPUT: true; the input reads as it did. -/
def fnExactCountSharedSpec : ChangeSpec := { name := "fnExactCountShared", fn := fun _ => fun
  | [d] => { results := [.lit (.bool true)], args := [d] }
  | _ => none }
def fnExactCountSharedRow : OpenClaim := { program := "ytgcadcekkojidaa", sum := "cf909612536c72a8ccc7a57f01a33b56e1f2c6f29c27ca39bd418d16a23819f0", func := "loop.example/g01304/laws.FnExactCountShared", spec := "fnExactCountShared", unfollowed := true, recurses := true, leaving := true, apart := false }
def FnExactCountSharedSaid : Prop := fnExactCountSharedRow.holds Try.pinned (OpenSpec.ofChange fnExactCountSharedSpec)

/-- ITS FALSE NEIGHBOUR: 'it returns false'. Refute it at one input. -/
def fnExactCountSharedWrong : ChangeSpec := { name := "fnExactCountShared", fn := fun _ => fun
  | [d] => { results := [.lit (.bool false)], args := [d] }
  | _ => none }
def FnExactCountSharedWrongFalsely : Prop := fnExactCountSharedRow.holds Try.pinned (OpenSpec.ofChange fnExactCountSharedWrong)

/-- 'laws.FnExactGhostKeys': WHATEVER THE INPUT: true; the input reads as it did. -/
def fnExactGhostKeysSpec : ChangeSpec := { name := "fnExactGhostKeys", fn := fun _ => fun
  | [d] => { results := [.lit (.bool true)], args := [d] }
  | _ => none }
def fnExactGhostKeysRow : OpenClaim := { program := "ytgcadcekkojidaa", sum := "cf909612536c72a8ccc7a57f01a33b56e1f2c6f29c27ca39bd418d16a23819f0", func := "loop.example/g01304/laws.FnExactGhostKeys", spec := "fnExactGhostKeys", unfollowed := true, recurses := true, leaving := true, apart := false }
def FnExactGhostKeysSaid : Prop := fnExactGhostKeysRow.holds Try.pinned (OpenSpec.ofChange fnExactGhostKeysSpec)

/-- ITS FALSE NEIGHBOUR: 'it returns false'. Refute it at one input. -/
def fnExactGhostKeysWrong : ChangeSpec := { name := "fnExactGhostKeys", fn := fun _ => fun
  | [d] => { results := [.lit (.bool false)], args := [d] }
  | _ => none }
def FnExactGhostKeysWrongFalsely : Prop := fnExactGhostKeysRow.holds Try.pinned (OpenSpec.ofChange fnExactGhostKeysWrong)

/-- 'laws.FnExactMasterOf': WHATEVER THE INPUT: true; the input reads as it did. -/
def fnExactMasterOfSpec : ChangeSpec := { name := "fnExactMasterOf", fn := fun _ => fun
  | [d] => { results := [.lit (.bool true)], args := [d] }
  | _ => none }
def fnExactMasterOfRow : OpenClaim := { program := "ytgcadcekkojidaa", sum := "cf909612536c72a8ccc7a57f01a33b56e1f2c6f29c27ca39bd418d16a23819f0", func := "loop.example/g01304/laws.FnExactMasterOf", spec := "fnExactMasterOf", unfollowed := true, recurses := true, leaving := true, apart := false }
def FnExactMasterOfSaid : Prop := fnExactMasterOfRow.holds Try.pinned (OpenSpec.ofChange fnExactMasterOfSpec)

/-- ITS FALSE NEIGHBOUR: 'it returns false'. Refute it at one input. -/
def fnExactMasterOfWrong : ChangeSpec := { name := "fnExactMasterOf", fn := fun _ => fun
  | [d] => { results := [.lit (.bool false)], args := [d] }
  | _ => none }
def FnExactMasterOfWrongFalsely : Prop := fnExactMasterOfRow.holds Try.pinned (OpenSpec.ofChange fnExactMasterOfWrong)

/-- 'laws.FnExactAddPin': WHATEVER THE INPUT: true; the input reads as it did. -/
def fnExactAddPinSpec : ChangeSpec := { name := "fnExactAddPin", fn := fun _ => fun
  | [d1, d2, d3] => { results := [.lit (.bool true)], args := [d1, d2, d3] }
  | _ => none }
def fnExactAddPinRow : OpenClaim := { program := "ytgcadcekkojidaa", sum := "cf909612536c72a8ccc7a57f01a33b56e1f2c6f29c27ca39bd418d16a23819f0", func := "loop.example/g01304/laws.FnExactAddPin", spec := "fnExactAddPin", apart := false }
def FnExactAddPinSaid : Prop := fnExactAddPinRow.holds Try.pinned (OpenSpec.ofChange fnExactAddPinSpec)

/-- ITS FALSE NEIGHBOUR: 'it returns false'. Refute it at one input. -/
def fnExactAddPinWrong : ChangeSpec := { name := "fnExactAddPin", fn := fun _ => fun
  | [d1, d2, d3] => { results := [.lit (.bool false)], args := [d1, d2, d3] }
  | _ => none }
def FnExactAddPinWrongFalsely : Prop := fnExactAddPinRow.holds Try.pinned (OpenSpec.ofChange fnExactAddPinWrong)

/-- 'laws.FnExactTakePin': WHATEVER THE INPUT: true; the input reads as it did. -/
def fnExactTakePinSpec : ChangeSpec := { name := "fnExactTakePin", fn := fun _ => fun
  | [d1, d2, d3] => { results := [.lit (.bool true)], args := [d1, d2, d3] }
  | _ => none }
def fnExactTakePinRow : OpenClaim := { program := "ytgcadcekkojidaa", sum := "cf909612536c72a8ccc7a57f01a33b56e1f2c6f29c27ca39bd418d16a23819f0", func := "loop.example/g01304/laws.FnExactTakePin", spec := "fnExactTakePin", apart := false }
def FnExactTakePinSaid : Prop := fnExactTakePinRow.holds Try.pinned (OpenSpec.ofChange fnExactTakePinSpec)

/-- ITS FALSE NEIGHBOUR: 'it returns false'. Refute it at one input. -/
def fnExactTakePinWrong : ChangeSpec := { name := "fnExactTakePin", fn := fun _ => fun
  | [d1, d2, d3] => { results := [.lit (.bool false)], args := [d1, d2, d3] }
  | _ => none }
def FnExactTakePinWrongFalsely : Prop := fnExactTakePinRow.holds Try.pinned (OpenSpec.ofChange fnExactTakePinWrong)

/-- 'laws.FnExactCountSmooth': WHATEVER THE INPUT: true; the input reads as it did. -/
def fnExactCountSmoothSpec : ChangeSpec := { name := "fnExactCountSmooth", fn := fun _ => fun
  | [d1, d2, d3] => { results := [.lit (.bool true)], args := [d1, d2, d3] }
  | _ => none }
def fnExactCountSmoothRow : OpenClaim := { program := "ytgcadcekkojidaa", sum := "cf909612536c72a8ccc7a57f01a33b56e1f2c6f29c27ca39bd418d16a23819f0", func := "loop.example/g01304/laws.FnExactCountSmooth", spec := "fnExactCountSmooth", apart := false }
def FnExactCountSmoothSaid : Prop := fnExactCountSmoothRow.holds Try.pinned (OpenSpec.ofChange fnExactCountSmoothSpec)

/-- ITS FALSE NEIGHBOUR: 'it returns false'. Refute it at one input. -/
def fnExactCountSmoothWrong : ChangeSpec := { name := "fnExactCountSmooth", fn := fun _ => fun
  | [d1, d2, d3] => { results := [.lit (.bool false)], args := [d1, d2, d3] }
  | _ => none }
def FnExactCountSmoothWrongFalsely : Prop := fnExactCountSmoothRow.holds Try.pinned (OpenSpec.ofChange fnExactCountSmoothWrong)

/-- 'laws.FnExactSmoothOfRank': WHATEVER THE INPUT: true; the input reads as it did. -/
def fnExactSmoothOfRankSpec : ChangeSpec := { name := "fnExactSmoothOfRank", fn := fun _ => fun
  | [d1, d2, d3, d4] => { results := [.lit (.bool true)], args := [d1, d2, d3, d4] }
  | _ => none }
def fnExactSmoothOfRankRow : OpenClaim := { program := "ytgcadcekkojidaa", sum := "cf909612536c72a8ccc7a57f01a33b56e1f2c6f29c27ca39bd418d16a23819f0", func := "loop.example/g01304/laws.FnExactSmoothOfRank", spec := "fnExactSmoothOfRank", recurses := true, apart := false }
def FnExactSmoothOfRankSaid : Prop := fnExactSmoothOfRankRow.holds Try.pinned (OpenSpec.ofChange fnExactSmoothOfRankSpec)

/-- ITS FALSE NEIGHBOUR: 'it returns false'. Refute it at one input. -/
def fnExactSmoothOfRankWrong : ChangeSpec := { name := "fnExactSmoothOfRank", fn := fun _ => fun
  | [d1, d2, d3, d4] => { results := [.lit (.bool false)], args := [d1, d2, d3, d4] }
  | _ => none }
def FnExactSmoothOfRankWrongFalsely : Prop := fnExactSmoothOfRankRow.holds Try.pinned (OpenSpec.ofChange fnExactSmoothOfRankWrong)

/-- 'laws.FnExactRankOfSmooth': WHATEVER THE INPUT: true; the input reads as it did. -/
def fnExactRankOfSmoothSpec : ChangeSpec := { name := "fnExactRankOfSmooth", fn := fun _ => fun
  | [d1, d2, d3] => { results := [.lit (.bool true)], args := [d1, d2, d3] }
  | _ => none }
def fnExactRankOfSmoothRow : OpenClaim := { program := "ytgcadcekkojidaa", sum := "cf909612536c72a8ccc7a57f01a33b56e1f2c6f29c27ca39bd418d16a23819f0", func := "loop.example/g01304/laws.FnExactRankOfSmooth", spec := "fnExactRankOfSmooth", apart := false }
def FnExactRankOfSmoothSaid : Prop := fnExactRankOfSmoothRow.holds Try.pinned (OpenSpec.ofChange fnExactRankOfSmoothSpec)

/-- ITS FALSE NEIGHBOUR: 'it returns false'. Refute it at one input. -/
def fnExactRankOfSmoothWrong : ChangeSpec := { name := "fnExactRankOfSmooth", fn := fun _ => fun
  | [d1, d2, d3] => { results := [.lit (.bool false)], args := [d1, d2, d3] }
  | _ => none }
def FnExactRankOfSmoothWrongFalsely : Prop := fnExactRankOfSmoothRow.holds Try.pinned (OpenSpec.ofChange fnExactRankOfSmoothWrong)

/-- 'laws.FnExactSmoothKeys': WHATEVER THE INPUT: true; the input reads as it did. -/
def fnExactSmoothKeysSpec : ChangeSpec := { name := "fnExactSmoothKeys", fn := fun _ => fun
  | [d1, d2] => { results := [.lit (.bool true)], args := [d1, d2] }
  | _ => none }
def fnExactSmoothKeysRow : OpenClaim := { program := "ytgcadcekkojidaa", sum := "cf909612536c72a8ccc7a57f01a33b56e1f2c6f29c27ca39bd418d16a23819f0", func := "loop.example/g01304/laws.FnExactSmoothKeys", spec := "fnExactSmoothKeys", apart := false }
def FnExactSmoothKeysSaid : Prop := fnExactSmoothKeysRow.holds Try.pinned (OpenSpec.ofChange fnExactSmoothKeysSpec)

/-- ITS FALSE NEIGHBOUR: 'it returns false'. Refute it at one input. -/
def fnExactSmoothKeysWrong : ChangeSpec := { name := "fnExactSmoothKeys", fn := fun _ => fun
  | [d1, d2] => { results := [.lit (.bool false)], args := [d1, d2] }
  | _ => none }
def FnExactSmoothKeysWrongFalsely : Prop := fnExactSmoothKeysRow.holds Try.pinned (OpenSpec.ofChange fnExactSmoothKeysWrong)

/- THE SECOND FORM. 'bulk': how many values and letters a reading holds, each counted each time it is reached (what is shared counts as often as it is met; a slice's spare places count too). A statement '..UptoSaid' is the law's where the arguments, and the package variables that the reading takes, are together of bulk at most 1048576: NARROWER than '..Said'. Prove '..Said' where nothing that the law and all that it calls make is longer than what came in: it says more and counts as full. Else prove '..UptoSaid'. A law counts once. -/
mutual
def uptoBulk {H : Type} : DataW H → Nat
  | .lit (.string bytes) => bytes.length + 1
  | .lit _ => 1
  | .nil => 1
  | .ptr d => uptoBulk d + 1
  | .slice elems spare => uptoBulkAll elems + uptoBulkAll spare + 1
  | .agg parts => uptoBulkAll parts + 1
  | .iface _ d => uptoBulk d + 1
  | .map entries => uptoBulkEntries entries + 1
  | .held _ => 1
def uptoBulkAll {H : Type} : List (DataW H) → Nat
  | [] => 0
  | d :: r => uptoBulk d + uptoBulkAll r
def uptoBulkEntries {H : Type} : List (Lit × DataW H) → Nat
  | [] => 0
  | x :: r => uptoBulkEntry x + uptoBulkEntries r
def uptoBulkEntry {H : Type} : Lit × DataW H → Nat
  | (.string bytes, d) => bytes.length + uptoBulk d + 1
  | (_, d) => uptoBulk d + 1
 end
def uptoSmall : (H : Type) → List (DataW H) → Bool := fun _ ds => decide (uptoBulkAll ds ≤ 1048576)
def OpenSpec.upto (s : _root_.Go.ChangeSpec) : _root_.Go.OpenSpec := { _root_.Go.OpenSpec.ofChange s with cond := some uptoSmall }

/-- 'laws.FnExactArePins', WHERE WHAT IT READS IS OF BULK AT MOST 1048576: true; the input reads as it did. -/
def fnExactArePinsUptoRow : OpenClaim := { program := "ytgcadcekkojidaa", sum := "cf909612536c72a8ccc7a57f01a33b56e1f2c6f29c27ca39bd418d16a23819f0", func := "loop.example/g01304/laws.FnExactArePins", spec := "fnExactArePins", apart := false, narrowed := true }
def FnExactArePinsUptoSaid : Prop := fnExactArePinsUptoRow.holds Try.pinned (OpenSpec.upto fnExactArePinsSpec)

/-- 'laws.FnExactIsKey', WHERE WHAT IT READS IS OF BULK AT MOST 1048576: true; the input reads as it did. -/
def fnExactIsKeyUptoRow : OpenClaim := { program := "ytgcadcekkojidaa", sum := "cf909612536c72a8ccc7a57f01a33b56e1f2c6f29c27ca39bd418d16a23819f0", func := "loop.example/g01304/laws.FnExactIsKey", spec := "fnExactIsKey", apart := false, narrowed := true }
def FnExactIsKeyUptoSaid : Prop := fnExactIsKeyUptoRow.holds Try.pinned (OpenSpec.upto fnExactIsKeySpec)

/-- 'laws.FnExactDoesOpen', WHERE WHAT IT READS IS OF BULK AT MOST 1048576: true; the input reads as it did. -/
def fnExactDoesOpenUptoRow : OpenClaim := { program := "ytgcadcekkojidaa", sum := "cf909612536c72a8ccc7a57f01a33b56e1f2c6f29c27ca39bd418d16a23819f0", func := "loop.example/g01304/laws.FnExactDoesOpen", spec := "fnExactDoesOpen", apart := false, narrowed := true }
def FnExactDoesOpenUptoSaid : Prop := fnExactDoesOpenUptoRow.holds Try.pinned (OpenSpec.upto fnExactDoesOpenSpec)

/-- 'laws.FnExactCountKeys', WHERE WHAT IT READS IS OF BULK AT MOST 1048576: true; the input reads as it did. -/
def fnExactCountKeysUptoRow : OpenClaim := { program := "ytgcadcekkojidaa", sum := "cf909612536c72a8ccc7a57f01a33b56e1f2c6f29c27ca39bd418d16a23819f0", func := "loop.example/g01304/laws.FnExactCountKeys", spec := "fnExactCountKeys", unfollowed := true, recurses := true, leaving := true, apart := false, narrowed := true }
def FnExactCountKeysUptoSaid : Prop := fnExactCountKeysUptoRow.holds Try.pinned (OpenSpec.upto fnExactCountKeysSpec)

/-- 'laws.FnExactAllKeys', WHERE WHAT IT READS IS OF BULK AT MOST 1048576: true; the input reads as it did. -/
def fnExactAllKeysUptoRow : OpenClaim := { program := "ytgcadcekkojidaa", sum := "cf909612536c72a8ccc7a57f01a33b56e1f2c6f29c27ca39bd418d16a23819f0", func := "loop.example/g01304/laws.FnExactAllKeys", spec := "fnExactAllKeys", inPlace := ["(*sync.WaitGroup).Add", "internal/race.ReleaseMerge", "internal/race.Disable", "internal/race.Enable", "internal/synctest.IsInBubble", "internal/synctest.Associate[sync.WaitGroup]", "sync.fatal", "sync/atomic.OrUint64", "sync/atomic.AddUint64", "internal/race.Read", "sync/atomic.LoadUint64", "sync/atomic.StoreUint64", "internal/synctest.Disassociate[sync.WaitGroup]", "sync.runtime_Semrelease", "(*sync.WaitGroup).Done", "(*sync.WaitGroup).Wait", "internal/race.Acquire", "internal/synctest.IsAssociated[sync.WaitGroup]", "sync/atomic.CompareAndSwapUint64", "internal/race.Write", "sync.runtime_SemacquireWaitGroup"], unfollowed := true, recurses := true, leaving := true, apart := false, narrowed := true }
def FnExactAllKeysUptoSaid : Prop := fnExactAllKeysUptoRow.holds Try.pinned (OpenSpec.upto fnExactAllKeysSpec)

/-- 'laws.FnExactPinsOfKey', WHERE WHAT IT READS IS OF BULK AT MOST 1048576: true; the input reads as it did. -/
def fnExactPinsOfKeyUptoRow : OpenClaim := { program := "ytgcadcekkojidaa", sum := "cf909612536c72a8ccc7a57f01a33b56e1f2c6f29c27ca39bd418d16a23819f0", func := "loop.example/g01304/laws.FnExactPinsOfKey", spec := "fnExactPinsOfKey", apart := false, narrowed := true }
def FnExactPinsOfKeyUptoSaid : Prop := fnExactPinsOfKeyUptoRow.holds Try.pinned (OpenSpec.upto fnExactPinsOfKeySpec)

/-- 'laws.FnExactMasterPins', WHERE WHAT IT READS IS OF BULK AT MOST 1048576: true; the input reads as it did. -/
def fnExactMasterPinsUptoRow : OpenClaim := { program := "ytgcadcekkojidaa", sum := "cf909612536c72a8ccc7a57f01a33b56e1f2c6f29c27ca39bd418d16a23819f0", func := "loop.example/g01304/laws.FnExactMasterPins", spec := "fnExactMasterPins", unfollowed := true, recurses := true, leaving := true, apart := false, narrowed := true }
def FnExactMasterPinsUptoSaid : Prop := fnExactMasterPinsUptoRow.holds Try.pinned (OpenSpec.upto fnExactMasterPinsSpec)

/-- 'laws.FnExactSharedKeys', WHERE WHAT IT READS IS OF BULK AT MOST 1048576: true; the input reads as it did. -/
def fnExactSharedKeysUptoRow : OpenClaim := { program := "ytgcadcekkojidaa", sum := "cf909612536c72a8ccc7a57f01a33b56e1f2c6f29c27ca39bd418d16a23819f0", func := "loop.example/g01304/laws.FnExactSharedKeys", spec := "fnExactSharedKeys", inPlace := ["(*sync.WaitGroup).Add", "internal/race.ReleaseMerge", "internal/race.Disable", "internal/race.Enable", "internal/synctest.IsInBubble", "internal/synctest.Associate[sync.WaitGroup]", "sync.fatal", "sync/atomic.OrUint64", "sync/atomic.AddUint64", "internal/race.Read", "sync/atomic.LoadUint64", "sync/atomic.StoreUint64", "internal/synctest.Disassociate[sync.WaitGroup]", "sync.runtime_Semrelease", "(*sync.WaitGroup).Done", "(*sync.WaitGroup).Wait", "internal/race.Acquire", "internal/synctest.IsAssociated[sync.WaitGroup]", "sync/atomic.CompareAndSwapUint64", "internal/race.Write", "sync.runtime_SemacquireWaitGroup"], unfollowed := true, recurses := true, leaving := true, apart := false, narrowed := true }
def FnExactSharedKeysUptoSaid : Prop := fnExactSharedKeysUptoRow.holds Try.pinned (OpenSpec.upto fnExactSharedKeysSpec)

/-- 'laws.FnExactCountShared', WHERE WHAT IT READS IS OF BULK AT MOST 1048576: true; the input reads as it did. -/
def fnExactCountSharedUptoRow : OpenClaim := { program := "ytgcadcekkojidaa", sum := "cf909612536c72a8ccc7a57f01a33b56e1f2c6f29c27ca39bd418d16a23819f0", func := "loop.example/g01304/laws.FnExactCountShared", spec := "fnExactCountShared", unfollowed := true, recurses := true, leaving := true, apart := false, narrowed := true }
def FnExactCountSharedUptoSaid : Prop := fnExactCountSharedUptoRow.holds Try.pinned (OpenSpec.upto fnExactCountSharedSpec)

/-- 'laws.FnExactGhostKeys', WHERE WHAT IT READS IS OF BULK AT MOST 1048576: true; the input reads as it did. -/
def fnExactGhostKeysUptoRow : OpenClaim := { program := "ytgcadcekkojidaa", sum := "cf909612536c72a8ccc7a57f01a33b56e1f2c6f29c27ca39bd418d16a23819f0", func := "loop.example/g01304/laws.FnExactGhostKeys", spec := "fnExactGhostKeys", unfollowed := true, recurses := true, leaving := true, apart := false, narrowed := true }
def FnExactGhostKeysUptoSaid : Prop := fnExactGhostKeysUptoRow.holds Try.pinned (OpenSpec.upto fnExactGhostKeysSpec)

/-- 'laws.FnExactMasterOf', WHERE WHAT IT READS IS OF BULK AT MOST 1048576: true; the input reads as it did. -/
def fnExactMasterOfUptoRow : OpenClaim := { program := "ytgcadcekkojidaa", sum := "cf909612536c72a8ccc7a57f01a33b56e1f2c6f29c27ca39bd418d16a23819f0", func := "loop.example/g01304/laws.FnExactMasterOf", spec := "fnExactMasterOf", unfollowed := true, recurses := true, leaving := true, apart := false, narrowed := true }
def FnExactMasterOfUptoSaid : Prop := fnExactMasterOfUptoRow.holds Try.pinned (OpenSpec.upto fnExactMasterOfSpec)

/-- 'laws.FnExactAddPin', WHERE WHAT IT READS IS OF BULK AT MOST 1048576: true; the input reads as it did. -/
def fnExactAddPinUptoRow : OpenClaim := { program := "ytgcadcekkojidaa", sum := "cf909612536c72a8ccc7a57f01a33b56e1f2c6f29c27ca39bd418d16a23819f0", func := "loop.example/g01304/laws.FnExactAddPin", spec := "fnExactAddPin", apart := false, narrowed := true }
def FnExactAddPinUptoSaid : Prop := fnExactAddPinUptoRow.holds Try.pinned (OpenSpec.upto fnExactAddPinSpec)

/-- 'laws.FnExactTakePin', WHERE WHAT IT READS IS OF BULK AT MOST 1048576: true; the input reads as it did. -/
def fnExactTakePinUptoRow : OpenClaim := { program := "ytgcadcekkojidaa", sum := "cf909612536c72a8ccc7a57f01a33b56e1f2c6f29c27ca39bd418d16a23819f0", func := "loop.example/g01304/laws.FnExactTakePin", spec := "fnExactTakePin", apart := false, narrowed := true }
def FnExactTakePinUptoSaid : Prop := fnExactTakePinUptoRow.holds Try.pinned (OpenSpec.upto fnExactTakePinSpec)

/-- 'laws.FnExactCountSmooth', WHERE WHAT IT READS IS OF BULK AT MOST 1048576: true; the input reads as it did. -/
def fnExactCountSmoothUptoRow : OpenClaim := { program := "ytgcadcekkojidaa", sum := "cf909612536c72a8ccc7a57f01a33b56e1f2c6f29c27ca39bd418d16a23819f0", func := "loop.example/g01304/laws.FnExactCountSmooth", spec := "fnExactCountSmooth", apart := false, narrowed := true }
def FnExactCountSmoothUptoSaid : Prop := fnExactCountSmoothUptoRow.holds Try.pinned (OpenSpec.upto fnExactCountSmoothSpec)

/-- 'laws.FnExactSmoothOfRank', WHERE WHAT IT READS IS OF BULK AT MOST 1048576: true; the input reads as it did. -/
def fnExactSmoothOfRankUptoRow : OpenClaim := { program := "ytgcadcekkojidaa", sum := "cf909612536c72a8ccc7a57f01a33b56e1f2c6f29c27ca39bd418d16a23819f0", func := "loop.example/g01304/laws.FnExactSmoothOfRank", spec := "fnExactSmoothOfRank", recurses := true, apart := false, narrowed := true }
def FnExactSmoothOfRankUptoSaid : Prop := fnExactSmoothOfRankUptoRow.holds Try.pinned (OpenSpec.upto fnExactSmoothOfRankSpec)

/-- 'laws.FnExactRankOfSmooth', WHERE WHAT IT READS IS OF BULK AT MOST 1048576: true; the input reads as it did. -/
def fnExactRankOfSmoothUptoRow : OpenClaim := { program := "ytgcadcekkojidaa", sum := "cf909612536c72a8ccc7a57f01a33b56e1f2c6f29c27ca39bd418d16a23819f0", func := "loop.example/g01304/laws.FnExactRankOfSmooth", spec := "fnExactRankOfSmooth", apart := false, narrowed := true }
def FnExactRankOfSmoothUptoSaid : Prop := fnExactRankOfSmoothUptoRow.holds Try.pinned (OpenSpec.upto fnExactRankOfSmoothSpec)

/-- 'laws.FnExactSmoothKeys', WHERE WHAT IT READS IS OF BULK AT MOST 1048576: true; the input reads as it did. -/
def fnExactSmoothKeysUptoRow : OpenClaim := { program := "ytgcadcekkojidaa", sum := "cf909612536c72a8ccc7a57f01a33b56e1f2c6f29c27ca39bd418d16a23819f0", func := "loop.example/g01304/laws.FnExactSmoothKeys", spec := "fnExactSmoothKeys", apart := false, narrowed := true }
def FnExactSmoothKeysUptoSaid : Prop := fnExactSmoothKeysUptoRow.holds Try.pinned (OpenSpec.upto fnExactSmoothKeysSpec)

end Rows
end Go.Proofs.Ytgcadcekkojidaa
