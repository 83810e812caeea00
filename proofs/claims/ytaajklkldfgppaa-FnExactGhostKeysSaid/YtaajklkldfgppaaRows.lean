/-
  No cell of these rows narrows 'for every input' (looked for: loops, veiled, ifaces, maps, wideKeys, modest, calm, conditions, laid).
  DERIVED. THE GIVEN ROWS OF THIS SEAT. 5 by the template 'for every input the law returns true; each argument reads behind the call as it read before'; 0 by the template 'total and deterministic' (their statements: YtaajklkldfgppaaTotals.lean).
  GIVEN WITH THE SEED: the statements are not yours to turn. If you find one false, say at which input.
  Laid BY PROGRAM, IN A SANDBOX (cutbox-rows.mjs): the forced cells as the released guide's own fill.sh prints them over the translation 344a2efcaa254fa7… (all of the seat's roots in one cut). By AI agents, Wed Nov 11 2026. No macro, syntax, notation, axiom, sorry.
-/
import Derived.Test.YtaajklkldfgppaaChecked
import GoSem.Claim
import GoSem.ClaimJoined
import GoSem.ClaimMapViews
import Derived.JoinedTies
import Derived.KernelRfl
namespace Go.Proofs.Ytaajklkldfgppaa
/- THE CELL 'sum', in the pinned program and in every row, IS THE sha256 OF THE DUMP (.gsa) THAT YtaajklkldfgppaaProg.lean LOADS. Nothing in Lean hashes anything: it is a label: what it is worth is what the hold of that sum in a sandbox is worth. -/
noncomputable def Try.pinned : Pinned := { name := "ytaajklkldfgppaa", sum := "344a2efcaa254fa7f73d6482691641402b8dd99ea77a6a6d875f76bf0467a72b", checked := Try.checked }
namespace Rows
def none {H : Type} : Left H := { results := [], args := [] }

/-- 'laws.FnExactAddPin': WHATEVER THE INPUT: true; the input reads as it did. -/
def fnExactAddPinSpec : ChangeSpec := { name := "fnExactAddPin", fn := fun _ => fun
  | [d1, d2, d3] => { results := [.lit (.bool true)], args := [d1, d2, d3] }
  | _ => none }
def fnExactAddPinRow : OpenClaim := { program := "ytaajklkldfgppaa", sum := "344a2efcaa254fa7f73d6482691641402b8dd99ea77a6a6d875f76bf0467a72b", func := "loop.example/g01304/laws.FnExactAddPin", spec := "fnExactAddPin", apart := false }
def FnExactAddPinSaid : Prop := fnExactAddPinRow.holds Try.pinned (OpenSpec.ofChange fnExactAddPinSpec)

/-- ITS FALSE NEIGHBOUR: 'it returns false'. Refute it at one input. -/
def fnExactAddPinWrong : ChangeSpec := { name := "fnExactAddPin", fn := fun _ => fun
  | [d1, d2, d3] => { results := [.lit (.bool false)], args := [d1, d2, d3] }
  | _ => none }
def FnExactAddPinWrongFalsely : Prop := fnExactAddPinRow.holds Try.pinned (OpenSpec.ofChange fnExactAddPinWrong)

/-- 'laws.FnExactTakePin': WHATEVER THE INPUT: true; the input reads as it did. -/
def fnExactTakePinSpec : ChangeSpec := { name := "fnExactTakePin", fn := fun _ => fun
  | [d1, d2, d3] => { results := [.lit (.bool true)], args := [d1, d2, d3] }
  | _ => none }
def fnExactTakePinRow : OpenClaim := { program := "ytaajklkldfgppaa", sum := "344a2efcaa254fa7f73d6482691641402b8dd99ea77a6a6d875f76bf0467a72b", func := "loop.example/g01304/laws.FnExactTakePin", spec := "fnExactTakePin", apart := false }
def FnExactTakePinSaid : Prop := fnExactTakePinRow.holds Try.pinned (OpenSpec.ofChange fnExactTakePinSpec)

/-- ITS FALSE NEIGHBOUR: 'it returns false'. Refute it at one input. -/
def fnExactTakePinWrong : ChangeSpec := { name := "fnExactTakePin", fn := fun _ => fun
  | [d1, d2, d3] => { results := [.lit (.bool false)], args := [d1, d2, d3] }
  | _ => none }
def FnExactTakePinWrongFalsely : Prop := fnExactTakePinRow.holds Try.pinned (OpenSpec.ofChange fnExactTakePinWrong)

/-- 'laws.FnExactGhostKeys': WHATEVER THE INPUT: true; the input reads as it did. -/
def fnExactGhostKeysSpec : ChangeSpec := { name := "fnExactGhostKeys", fn := fun _ => fun
  | [d] => { results := [.lit (.bool true)], args := [d] }
  | _ => none }
def fnExactGhostKeysRow : OpenClaim := { program := "ytaajklkldfgppaa", sum := "344a2efcaa254fa7f73d6482691641402b8dd99ea77a6a6d875f76bf0467a72b", func := "loop.example/g01304/laws.FnExactGhostKeys", spec := "fnExactGhostKeys", unfollowed := true, recurses := true, apart := false }
def FnExactGhostKeysSaid : Prop := fnExactGhostKeysRow.holds Try.pinned (OpenSpec.ofChange fnExactGhostKeysSpec)

/-- ITS FALSE NEIGHBOUR: 'it returns false'. Refute it at one input. -/
def fnExactGhostKeysWrong : ChangeSpec := { name := "fnExactGhostKeys", fn := fun _ => fun
  | [d] => { results := [.lit (.bool false)], args := [d] }
  | _ => none }
def FnExactGhostKeysWrongFalsely : Prop := fnExactGhostKeysRow.holds Try.pinned (OpenSpec.ofChange fnExactGhostKeysWrong)

/-- 'laws.FnExactSmoothOfRank': WHATEVER THE INPUT: true; the input reads as it did. -/
def fnExactSmoothOfRankSpec : ChangeSpec := { name := "fnExactSmoothOfRank", fn := fun _ => fun
  | [d1, d2, d3, d4] => { results := [.lit (.bool true)], args := [d1, d2, d3, d4] }
  | _ => none }
def fnExactSmoothOfRankRow : OpenClaim := { program := "ytaajklkldfgppaa", sum := "344a2efcaa254fa7f73d6482691641402b8dd99ea77a6a6d875f76bf0467a72b", func := "loop.example/g01304/laws.FnExactSmoothOfRank", spec := "fnExactSmoothOfRank", recurses := true, apart := false }
def FnExactSmoothOfRankSaid : Prop := fnExactSmoothOfRankRow.holds Try.pinned (OpenSpec.ofChange fnExactSmoothOfRankSpec)

/-- ITS FALSE NEIGHBOUR: 'it returns false'. Refute it at one input. -/
def fnExactSmoothOfRankWrong : ChangeSpec := { name := "fnExactSmoothOfRank", fn := fun _ => fun
  | [d1, d2, d3, d4] => { results := [.lit (.bool false)], args := [d1, d2, d3, d4] }
  | _ => none }
def FnExactSmoothOfRankWrongFalsely : Prop := fnExactSmoothOfRankRow.holds Try.pinned (OpenSpec.ofChange fnExactSmoothOfRankWrong)

/-- 'laws.FnExactRankOfSmooth': WHATEVER THE INPUT: true; the input reads as it did. -/
def fnExactRankOfSmoothSpec : ChangeSpec := { name := "fnExactRankOfSmooth", fn := fun _ => fun
  | [d1, d2, d3] => { results := [.lit (.bool true)], args := [d1, d2, d3] }
  | _ => none }
def fnExactRankOfSmoothRow : OpenClaim := { program := "ytaajklkldfgppaa", sum := "344a2efcaa254fa7f73d6482691641402b8dd99ea77a6a6d875f76bf0467a72b", func := "loop.example/g01304/laws.FnExactRankOfSmooth", spec := "fnExactRankOfSmooth", apart := false }
def FnExactRankOfSmoothSaid : Prop := fnExactRankOfSmoothRow.holds Try.pinned (OpenSpec.ofChange fnExactRankOfSmoothSpec)

/-- ITS FALSE NEIGHBOUR: 'it returns false'. Refute it at one input. -/
def fnExactRankOfSmoothWrong : ChangeSpec := { name := "fnExactRankOfSmooth", fn := fun _ => fun
  | [d1, d2, d3] => { results := [.lit (.bool false)], args := [d1, d2, d3] }
  | _ => none }
def FnExactRankOfSmoothWrongFalsely : Prop := fnExactRankOfSmoothRow.holds Try.pinned (OpenSpec.ofChange fnExactRankOfSmoothWrong)

/- THE SECOND FORM. 'bulk': how many values and letters a reading holds, each counted each time it is reached (what is shared counts as often as it is met; a slice's spare places count too). A statement '..UptoSaid' is the law's where the arguments, and the package variables that the reading takes, are together of bulk at most 1048576: NARROWER than '..Said'. Prove '..Said' where nothing that the law and all that it calls make is longer than what came in: it says more and counts as full. Else prove '..UptoSaid'. A law counts once. -/
mutual
def uptoBulk {H : Type} : DataW H → Nat
  | .lit (.string bytes) => bytes.length + 1
  | .lit _ => 1
  | .nil => 1
  | .ptr d => uptoBulk d + 1
  | .slice elems spare => uptoBulkAll elems + uptoBulkAll spare + 1
  | .agg parts => uptoBulkAll parts + 1
  | .iface _ d => uptoBulk d + 1
  | .map entries => uptoBulkEntries entries + 1
  | .held _ => 1
def uptoBulkAll {H : Type} : List (DataW H) → Nat
  | [] => 0
  | d :: r => uptoBulk d + uptoBulkAll r
def uptoBulkEntries {H : Type} : List (Lit × DataW H) → Nat
  | [] => 0
  | x :: r => uptoBulkEntry x + uptoBulkEntries r
def uptoBulkEntry {H : Type} : Lit × DataW H → Nat
  | (.string bytes, d) => bytes.length + uptoBulk d + 1
  | (_, d) => uptoBulk d + 1
 end
def uptoSmall : (H : Type) → List (DataW H) → Bool := fun _ ds => decide (uptoBulkAll ds ≤ 1048576)
def OpenSpec.upto (s : _root_.Go.ChangeSpec) : _root_.Go.OpenSpec := { _root_.Go.OpenSpec.ofChange s with cond := some uptoSmall }

/-- 'laws.FnExactAddPin', WHERE WHAT IT READS IS OF BULK AT MOST 1048576: true; the input reads as it did. -/
def fnExactAddPinUptoRow : OpenClaim := { program := "ytaajklkldfgppaa", sum := "344a2efcaa254fa7f73d6482691641402b8dd99ea77a6a6d875f76bf0467a72b", func := "loop.example/g01304/laws.FnExactAddPin", spec := "fnExactAddPin", apart := false, narrowed := true }
def FnExactAddPinUptoSaid : Prop := fnExactAddPinUptoRow.holds Try.pinned (OpenSpec.upto fnExactAddPinSpec)

/-- 'laws.FnExactTakePin', WHERE WHAT IT READS IS OF BULK AT MOST 1048576: true; the input reads as it did. -/
def fnExactTakePinUptoRow : OpenClaim := { program := "ytaajklkldfgppaa", sum := "344a2efcaa254fa7f73d6482691641402b8dd99ea77a6a6d875f76bf0467a72b", func := "loop.example/g01304/laws.FnExactTakePin", spec := "fnExactTakePin", apart := false, narrowed := true }
def FnExactTakePinUptoSaid : Prop := fnExactTakePinUptoRow.holds Try.pinned (OpenSpec.upto fnExactTakePinSpec)

/-- 'laws.FnExactGhostKeys', WHERE WHAT IT READS IS OF BULK AT MOST 1048576: true; the input reads as it did. -/
def fnExactGhostKeysUptoRow : OpenClaim := { program := "ytaajklkldfgppaa", sum := "344a2efcaa254fa7f73d6482691641402b8dd99ea77a6a6d875f76bf0467a72b", func := "loop.example/g01304/laws.FnExactGhostKeys", spec := "fnExactGhostKeys", unfollowed := true, recurses := true, apart := false, narrowed := true }
def FnExactGhostKeysUptoSaid : Prop := fnExactGhostKeysUptoRow.holds Try.pinned (OpenSpec.upto fnExactGhostKeysSpec)

/-- 'laws.FnExactSmoothOfRank', WHERE WHAT IT READS IS OF BULK AT MOST 1048576: true; the input reads as it did. -/
def fnExactSmoothOfRankUptoRow : OpenClaim := { program := "ytaajklkldfgppaa", sum := "344a2efcaa254fa7f73d6482691641402b8dd99ea77a6a6d875f76bf0467a72b", func := "loop.example/g01304/laws.FnExactSmoothOfRank", spec := "fnExactSmoothOfRank", recurses := true, apart := false, narrowed := true }
def FnExactSmoothOfRankUptoSaid : Prop := fnExactSmoothOfRankUptoRow.holds Try.pinned (OpenSpec.upto fnExactSmoothOfRankSpec)

/-- 'laws.FnExactRankOfSmooth', WHERE WHAT IT READS IS OF BULK AT MOST 1048576: true; the input reads as it did. -/
def fnExactRankOfSmoothUptoRow : OpenClaim := { program := "ytaajklkldfgppaa", sum := "344a2efcaa254fa7f73d6482691641402b8dd99ea77a6a6d875f76bf0467a72b", func := "loop.example/g01304/laws.FnExactRankOfSmooth", spec := "fnExactRankOfSmooth", apart := false, narrowed := true }
def FnExactRankOfSmoothUptoSaid : Prop := fnExactRankOfSmoothUptoRow.holds Try.pinned (OpenSpec.upto fnExactRankOfSmoothSpec)

end Rows
end Go.Proofs.Ytaajklkldfgppaa
