/- A turn among the arguments, opened to its two numbers. No conditions. -/
import Derived.Test.YtgdjbclkdnmebaaDoorOpenTurns
import Derived.Deep.RegionHeld3
namespace Go.Proofs.YtgdjbclkdnmebaaDoor
open Go.ChangeShapes Go.WideShapes Go.ChangeAt Go.RowKit Go.Joins

theorem call_held4 {P : Program} {K : FuncId} {args : Array Value} {v : Value} {w0 W : World} {g : Nat} {x y z u : Value}
    (h : W.cell? ⟨g, 0, none⟩ = some x ∧ W.cell? ⟨g, 1, none⟩ = some y ∧ W.cell? ⟨g + 1, 0, none⟩ = some z ∧ W.cell? ⟨g + 1, 1, none⟩ = some u ∧ Below w0.heap.size w0 W ∧ g + 1 < W.heap.size) (c : Calls P K args W fun e w' => e = .returned v ∧ Below W.heap.size W w') :
    Calls P K args W fun e w' => e = .returned v ∧ w'.cell? ⟨g, 0, none⟩ = some x ∧ w'.cell? ⟨g, 1, none⟩ = some y ∧ w'.cell? ⟨g + 1, 0, none⟩ = some z ∧ w'.cell? ⟨g + 1, 1, none⟩ = some u ∧ Below w0.heap.size w0 w' ∧ g + 1 < w'.heap.size :=
  c.mono fun _ _ ⟨he, hb⟩ => ⟨he, by rw [hb.cell (p := ⟨g, 0, none⟩) (by have := h.2.2.2.2.2; show g < _; omega), h.1], by rw [hb.cell (p := ⟨g, 1, none⟩) (by have := h.2.2.2.2.2; show g < _; omega), h.2.1],
    by rw [hb.cell (p := ⟨g + 1, 0, none⟩) h.2.2.2.2.2, h.2.2.1], by rw [hb.cell (p := ⟨g + 1, 1, none⟩) h.2.2.2.2.2, h.2.2.2.1], bel_call h.2.2.2.2.1 hb, Nat.lt_of_lt_of_le h.2.2.2.2.2 hb.size⟩

theorem drew4 {w0 W : World} {g : Nat} {x y z u : Value} (h : W.cell? ⟨g, 0, none⟩ = some x ∧ W.cell? ⟨g, 1, none⟩ = some y ∧ W.cell? ⟨g + 1, 0, none⟩ = some z ∧ W.cell? ⟨g + 1, 1, none⟩ = some u ∧ Below w0.heap.size w0 W ∧ g + 1 < W.heap.size) :
    W.drew.cell? ⟨g, 0, none⟩ = some x ∧ W.drew.cell? ⟨g, 1, none⟩ = some y ∧ W.drew.cell? ⟨g + 1, 0, none⟩ = some z ∧ W.drew.cell? ⟨g + 1, 1, none⟩ = some u ∧ Below w0.heap.size w0 W.drew ∧ g + 1 < W.drew.heap.size :=
  ⟨h.1, h.2.1, h.2.2.1, h.2.2.2.1, bel_drew h.2.2.2.2.1, h.2.2.2.2.2⟩

end Go.Proofs.YtgdjbclkdnmebaaDoor
