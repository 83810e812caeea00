/- Which turns the program takes for turns of a lock: those of a wheel that is there, by 1 or -1. No conditions. -/
import Derived.Test.YtgdjbclkdnmebaaDoorTurn
namespace Go.Proofs.YtgdjbclkdnmebaaDoor
open Go.ChangeShapes Go.WideShapes Go.ChangeAt Go.RowKit Go.Joins

theorem call_heldC {P : Program} {K : FuncId} {args : Array Value} {v : Value} {w0 W : World} {g i j : Nat} {x y : Value}
    (h : W.cell? ⟨g, i, none⟩ = some x ∧ W.cell? ⟨g, j, none⟩ = some y ∧ Below w0.heap.size w0 W ∧ g < W.heap.size) (c : Calls P K args W fun e w' => e = .returned v ∧ Below W.heap.size W w') :
    Calls P K args W fun e w' => e = .returned v ∧ w'.cell? ⟨g, i, none⟩ = some x ∧ w'.cell? ⟨g, j, none⟩ = some y ∧ Below w0.heap.size w0 w' ∧ g < w'.heap.size :=
  c.mono fun _ _ ⟨he, hb⟩ => ⟨he, by rw [hb.cell (p := ⟨g, i, none⟩) h.2.2.2, h.1], by rw [hb.cell (p := ⟨g, j, none⟩) h.2.2.2, h.2.1], bel_call h.2.2.1 hb, Nat.lt_of_lt_of_le h.2.2.2 hb.size⟩

end Go.Proofs.YtgdjbclkdnmebaaDoor
