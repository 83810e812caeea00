/- A turn among the arguments, opened to its two numbers. No conditions. -/
import Derived.Test.YtilnjlcljjpnmaaOpenTurns
import Derived.Deep.RegionHeld3
namespace Go.Proofs.Ytilnjlcljjpnmaa
open Go.ChangeShapes Go.WideShapes Go.ChangeAt Go.RowKit Go.Joins

theorem call_held4 {P : Program} {K : FuncId} {args : Array Value} {v : Value} {w0 W : World} {g : Nat} {x y z u : Value}
    (h : W.cell? ⟨g, 0, none⟩ = some x ∧ W.cell? ⟨g, 1, none⟩ = some y ∧ W.cell? ⟨g + 1, 0, none⟩ = some z ∧ W.cell? ⟨g + 1, 1, none⟩ = some u ∧ Below w0.heap.size w0 W ∧ g + 1 < W.heap.size) (c : Calls P K args W fun e w' => e = .returned v ∧ Below W.heap.size W w') :
    Calls P K args W fun e w' => e = .returned v ∧ w'.cell? ⟨g, 0, none⟩ = some x ∧ w'.cell? ⟨g, 1, none⟩ = some y ∧ w'.cell? ⟨g + 1, 0, none⟩ = some z ∧ w'.cell? ⟨g + 1, 1, none⟩ = some u ∧ Below w0.heap.size w0 w' ∧ g + 1 < w'.heap.size :=
  c.mono fun _ _ ⟨he, hb⟩ => ⟨he, by rw [hb.cell (p := ⟨g, 0, none⟩) (by have := h.2.2.2.2.2; show g < _; omega), h.1], by rw [hb.cell (p := ⟨g, 1, none⟩) (by have := h.2.2.2.2.2; show g < _; omega), h.2.1],
    by rw [hb.cell (p := ⟨g + 1, 0, none⟩) h.2.2.2.2.2, h.2.2.1], by rw [hb.cell (p := ⟨g + 1, 1, none⟩) h.2.2.2.2.2, h.2.2.2.1], bel_call h.2.2.2.2.1 hb, Nat.lt_of_lt_of_le h.2.2.2.2.2 hb.size⟩

theorem drew4 {w0 W : World} {g : Nat} {x y z u : Value} (h : W.cell? ⟨g, 0, none⟩ = some x ∧ W.cell? ⟨g, 1, none⟩ = some y ∧ W.cell? ⟨g + 1, 0, none⟩ = some z ∧ W.cell? ⟨g + 1, 1, none⟩ = some u ∧ Below w0.heap.size w0 W ∧ g + 1 < W.heap.size) :
    W.drew.cell? ⟨g, 0, none⟩ = some x ∧ W.drew.cell? ⟨g, 1, none⟩ = some y ∧ W.drew.cell? ⟨g + 1, 0, none⟩ = some z ∧ W.drew.cell? ⟨g + 1, 1, none⟩ = some u ∧ Below w0.heap.size w0 W.drew ∧ g + 1 < W.drew.heap.size :=
  ⟨h.1, h.2.1, h.2.2.1, h.2.2.2.1, bel_drew h.2.2.2.2.1, h.2.2.2.2.2⟩

set_option maxRecDepth 100000 in
theorem open_turn {H : Type} {enc : TypeId × Value → H} {W : World} {base b0 : Nat} {spare : Nat → Bool} {held : Bool} {v : Value} {d : DataW H} {p : List MemPlace}
    (hv : Value.okWide Try.prog W .any b0 108 v) (h : DataW.Trod enc Try.prog W base spare held 108 v d p) :
    ∃ a b : Int, v = .agg #[.int .i64 a, .int .i64 b] ∧ (Lit.int .i64 a).wf = true ∧ (Lit.int .i64 b).wf = true := by
  obtain ⟨c0, c1, y0, y1, m, rfl, rfl, rfl, hy0, hy1⟩ := open_agg2 Try.underlying108 (by kernel_rfl) cellsLawTurn hv h
  obtain ⟨a, e0, _, wa⟩ := DataW.trod_int Try.underlying3 hy0
  obtain ⟨b, e1, _, wb⟩ := DataW.trod_int Try.underlying3 hy1
  simp at e0 e1
  subst e0 e1
  exact ⟨a, b, rfl, wa, wb⟩

end Go.Proofs.Ytilnjlcljjpnmaa
