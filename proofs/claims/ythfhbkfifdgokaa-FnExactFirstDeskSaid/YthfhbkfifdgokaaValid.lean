/- Which turns the program takes for turns of a lock: those of a wheel that is there, by 1 or -1. No conditions. -/
import Derived.Test.YthfhbkfifdgokaaTurn
namespace Go.Proofs.Ythfhbkfifdgokaa
open Go.ChangeShapes Go.WideShapes Go.ChangeAt Go.RowKit Go.Joins

theorem call_heldC {P : Program} {K : FuncId} {args : Array Value} {v : Value} {w0 W : World} {g i j : Nat} {x y : Value}
    (h : W.cell? ⟨g, i, none⟩ = some x ∧ W.cell? ⟨g, j, none⟩ = some y ∧ Below w0.heap.size w0 W ∧ g < W.heap.size) (c : Calls P K args W fun e w' => e = .returned v ∧ Below W.heap.size W w') :
    Calls P K args W fun e w' => e = .returned v ∧ w'.cell? ⟨g, i, none⟩ = some x ∧ w'.cell? ⟨g, j, none⟩ = some y ∧ Below w0.heap.size w0 w' ∧ g < w'.heap.size :=
  c.mono fun _ _ ⟨he, hb⟩ => ⟨he, by rw [hb.cell (p := ⟨g, i, none⟩) h.2.2.2, h.1], by rw [hb.cell (p := ⟨g, j, none⟩) h.2.2.2, h.2.1], bel_call h.2.2.1 hb, Nat.lt_of_lt_of_le h.2.2.2 hb.size⟩

theorem eql_turn (x y u v : Int) (w : World) : (binOp .eql 82 (.agg #[.int .i64 x, .int .i64 y]) (.agg #[.int .i64 u, .int .i64 v])).run Try.prog w = .ok (.bool (x == u && y == v)) w := by
  have h1 : Try.prog.underlying 82 = some (.struct (Try.prog.fieldsOf 82)) := by kernel_rfl
  have h2 : Try.prog.stoodInHeld 82 = false := by kernel_rfl
  have h3 : (Try.prog.fieldsOf 82).toList.map (fun f => (f.name, f.type, f.offset)) = [("Wheel", 3, 0), ("By", 3, 1)] := by kernel_rfl
  rw [run_eql_struct, run_equalIn_agg _ _ _ _ _ h1 h2]
  generalize (Try.prog.fieldsOf 82).toList = L at h3
  rcases L with _ | ⟨f, _ | ⟨g, _ | ⟨h, t⟩⟩⟩
  · simp at h3
  · simp at h3
  · simp only [List.map_cons, List.map_nil, List.cons.injEq, Prod.mk.injEq, and_true] at h3
    obtain ⟨⟨n1, t1, o1⟩, n2, t2, o2⟩ := h3
    by_cases hx : x = u <;> by_cases hy : y = v <;> simp [Op.eqFields, n1, n2, t1, t2, o1, o2, go_sem, hx, hy]
  · simp at h3

end Go.Proofs.Ythfhbkfifdgokaa
