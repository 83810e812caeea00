/- Plain words shared by the proofs of chapter 1: closed facts of the program, a lock as an argument opened to its two numbers, small facts on worlds. No conditions. -/
import Derived.Test.YtaajklkldfgppaaRows
import Derived.WalkKit
import Derived.WalkSpells
import Derived.WalkLawsBesides
import Derived.ProofKit
import Derived.OpenShut
import Derived.ShutString
import Derived.ChangeOld
import Derived.Below
import Derived.Carry
import Derived.Lib.SmallJoins
namespace Go.Proofs.Ytaajklkldfgppaa
open Go.ChangeShapes Go.WideShapes Go.ChangeAt Go.RowKit Go.Joins

theorem Try.own : ownKnob Try.prog.godebug = none := by kernel_rfl

theorem Try.laidOut : laidOutB Try.prog = true := by kernel_rfl

theorem bel_call {a W w1 : World} (h : Below a.heap.size a W) (hb : Below W.heap.size W w1) : Below a.heap.size a w1 := h.trans (hb.mono h.size)

theorem bel_drewN {B : Nat} {a w : World} (h : Below B a w) (n : Nat) : Below B a (w.drewN n) := ⟨h.os, h.tape, h.output, h.size, h.block⟩

theorem bel_drew {B : Nat} {a w : World} (h : Below B a w) : Below B a w.drew := h.drew

theorem bcell {W w1 : World} (hb : Below W.heap.size W w1) : (∀ b o, b < W.heap.size → w1.cell? ⟨b, o, none⟩ = W.cell? ⟨b, o, none⟩) ∧ (∀ b o, b < W.heap.size → w1.frozen? ⟨b, o, none⟩ = W.frozen? ⟨b, o, none⟩) ∧ W.heap.size ≤ w1.heap.size :=
  ⟨fun b o h => hb.cell (p := ⟨b, o, none⟩) h, fun b o h => hb.frozen (p := ⟨b, o, none⟩) h, hb.size⟩

theorem bd_i64 {a : Int} (h : (Lit.int .i64 a).wf = true) : -9223372036854775808 ≤ a ∧ a ≤ 9223372036854775807 := bounds_i64 h

/-- The numbers of a lock are within their limits. -/
def goodB (a b : Int) : Bool := decide (1 ≤ a ∧ a ≤ 6 ∧ 2 ≤ b ∧ b ≤ 10)

theorem good_yes {a b : Int} (h : goodB a b = true) : 1 ≤ a ∧ a ≤ 6 ∧ 2 ≤ b ∧ b ≤ 10 := of_decide_eq_true h

theorem good_no {a b : Int} (h : goodB a b = false) : ¬(1 ≤ a ∧ a ≤ 6 ∧ 2 ≤ b ∧ b ≤ 10) := of_decide_eq_false h

/-- A call that makes memory alone keeps two known cells. -/
theorem call_held2 {P : Program} {K : FuncId} {args : Array Value} {v : Value} {w0 W : World} {g : Nat} {x y : Value}
    (h : W.cell? ⟨g, 0, none⟩ = some x ∧ W.cell? ⟨g, 1, none⟩ = some y ∧ Below w0.heap.size w0 W ∧ g < W.heap.size) (c : Calls P K args W fun e w' => e = .returned v ∧ Below W.heap.size W w') :
    Calls P K args W fun e w' => e = .returned v ∧ w'.cell? ⟨g, 0, none⟩ = some x ∧ w'.cell? ⟨g, 1, none⟩ = some y ∧ Below w0.heap.size w0 w' ∧ g < w'.heap.size :=
  c.mono fun _ _ ⟨he, hb⟩ => ⟨he, by rw [hb.cell (p := ⟨g, 0, none⟩) h.2.2.2, h.1], by rw [hb.cell (p := ⟨g, 1, none⟩) h.2.2.2, h.2.1], bel_call h.2.2.1 hb, Nat.lt_of_lt_of_le h.2.2.2 hb.size⟩

theorem ret_bool {a b : Bool} (h : a = b) : Ending.returned (.bool a) = .returned (.bool b) := by rw [h]

theorem ret_int {k : IntKind} {a b : Int} (h : a = b) : Ending.returned (.int k a) = .returned (.int k b) := by rw [h]

theorem good_of {a b : Int} {c : Bool} (h : c = true ↔ (1 ≤ a ∧ a ≤ 6 ∧ 2 ≤ b ∧ b ≤ 10)) : c = goodB a b := by
  unfold goodB
  rw [Bool.eq_iff_iff, h, decide_eq_true_iff]

end Go.Proofs.Ytaajklkldfgppaa
