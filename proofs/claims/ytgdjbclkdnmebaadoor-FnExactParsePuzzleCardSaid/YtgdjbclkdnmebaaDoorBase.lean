/- Plain words shared by the proofs of chapter 1: closed facts of the program, a lock as an argument opened to its two numbers, small facts on worlds. No conditions. -/
import Derived.Test.YtgdjbclkdnmebaaDoorRows
import Derived.WalkKit
import Derived.WalkSpells
import Derived.WalkLawsBesides
import Derived.ProofKit
import Derived.OpenShut
import Derived.ShutString
import Derived.ChangeOld
import Derived.Below
import Derived.Carry
import Derived.Lib.SmallJoins
namespace Go.Proofs.YtgdjbclkdnmebaaDoor
open Go.ChangeShapes Go.WideShapes Go.ChangeAt Go.RowKit Go.Joins

theorem Tryd.own : ownKnob Tryd.prog.godebug = none := by kernel_rfl

theorem Tryd.laidOut : laidOutB Tryd.prog = true := by kernel_rfl

theorem Tryd.cellsLawLock : Tryd.prog.cellsOf 37 = 2 := by kernel_rfl

theorem bel_call {a W w1 : World} (h : Below a.heap.size a W) (hb : Below W.heap.size W w1) : Below a.heap.size a w1 := h.trans (hb.mono h.size)

theorem bel_drewN {B : Nat} {a w : World} (h : Below B a w) (n : Nat) : Below B a (w.drewN n) := ⟨h.os, h.tape, h.output, h.size, h.block⟩

theorem bel_drew {B : Nat} {a w : World} (h : Below B a w) : Below B a w.drew := h.drew

theorem bcell {W w1 : World} (hb : Below W.heap.size W w1) : (∀ b o, b < W.heap.size → w1.cell? ⟨b, o, none⟩ = W.cell? ⟨b, o, none⟩) ∧ (∀ b o, b < W.heap.size → w1.frozen? ⟨b, o, none⟩ = W.frozen? ⟨b, o, none⟩) ∧ W.heap.size ≤ w1.heap.size :=
  ⟨fun b o h => hb.cell (p := ⟨b, o, none⟩) h, fun b o h => hb.frozen (p := ⟨b, o, none⟩) h, hb.size⟩

theorem bd_i64 {a : Int} (h : (Lit.int .i64 a).wf = true) : -9223372036854775808 ≤ a ∧ a ≤ 9223372036854775807 := bounds_i64 h

set_option maxRecDepth 100000 in
theorem open_lock {H : Type} {enc : TypeId × Value → H} {W : World} {base b0 : Nat} {spare : Nat → Bool} {held : Bool} {v : Value} {d : DataW H} {p : List MemPlace}
    (hv : Value.okWide Tryd.prog W .any b0 37 v) (h : DataW.Trod enc Tryd.prog W base spare held 37 v d p) :
    ∃ a b : Int, v = .agg #[.int .i64 a, .int .i64 b] ∧ (Lit.int .i64 a).wf = true ∧ (Lit.int .i64 b).wf = true := by
  obtain ⟨c0, c1, y0, y1, m, rfl, rfl, rfl, hy0, hy1⟩ := open_agg2 Tryd.underlying37 (by kernel_rfl) Tryd.cellsLawLock hv h
  obtain ⟨a, e0, _, wa⟩ := DataW.trod_int Tryd.underlying3 hy0
  obtain ⟨b, e1, _, wb⟩ := DataW.trod_int Tryd.underlying3 hy1
  simp at e0 e1
  subst e0 e1
  exact ⟨a, b, rfl, wa, wb⟩

/-- The numbers of a lock are within their limits. -/
def goodB (a b : Int) : Bool := decide (1 ≤ a ∧ a ≤ 6 ∧ 2 ≤ b ∧ b ≤ 10)

theorem good_yes {a b : Int} (h : goodB a b = true) : 1 ≤ a ∧ a ≤ 6 ∧ 2 ≤ b ∧ b ≤ 10 := of_decide_eq_true h

theorem good_no {a b : Int} (h : goodB a b = false) : ¬(1 ≤ a ∧ a ≤ 6 ∧ 2 ≤ b ∧ b ≤ 10) := of_decide_eq_false h

/-- A call that makes memory alone keeps two known cells. -/
theorem call_held2 {P : Program} {K : FuncId} {args : Array Value} {v : Value} {w0 W : World} {g : Nat} {x y : Value}
    (h : W.cell? ⟨g, 0, none⟩ = some x ∧ W.cell? ⟨g, 1, none⟩ = some y ∧ Below w0.heap.size w0 W ∧ g < W.heap.size) (c : Calls P K args W fun e w' => e = .returned v ∧ Below W.heap.size W w') :
    Calls P K args W fun e w' => e = .returned v ∧ w'.cell? ⟨g, 0, none⟩ = some x ∧ w'.cell? ⟨g, 1, none⟩ = some y ∧ Below w0.heap.size w0 w' ∧ g < w'.heap.size :=
  c.mono fun _ _ ⟨he, hb⟩ => ⟨he, by rw [hb.cell (p := ⟨g, 0, none⟩) h.2.2.2, h.1], by rw [hb.cell (p := ⟨g, 1, none⟩) h.2.2.2, h.2.1], bel_call h.2.2.1 hb, Nat.lt_of_lt_of_le h.2.2.2 hb.size⟩

theorem ret_bool {a b : Bool} (h : a = b) : Ending.returned (.bool a) = .returned (.bool b) := by rw [h]

theorem ret_int {k : IntKind} {a b : Int} (h : a = b) : Ending.returned (.int k a) = .returned (.int k b) := by rw [h]

theorem good_of {a b : Int} {c : Bool} (h : c = true ↔ (1 ≤ a ∧ a ≤ 6 ∧ 2 ≤ b ∧ b ≤ 10)) : c = goodB a b := by
  unfold goodB
  rw [Bool.eq_iff_iff, h, decide_eq_true_iff]

end Go.Proofs.YtgdjbclkdnmebaaDoor
