/- Which turns the program takes for turns of a lock: those of a wheel that is there, by 1 or -1. No conditions. -/
import Derived.Test.YtilnjlcljjpnmaaTurn
namespace Go.Proofs.Ytilnjlcljjpnmaa
open Go.ChangeShapes Go.WideShapes Go.ChangeAt Go.RowKit Go.Joins

theorem call_heldC {P : Program} {K : FuncId} {args : Array Value} {v : Value} {w0 W : World} {g i j : Nat} {x y : Value}
    (h : W.cell? ⟨g, i, none⟩ = some x ∧ W.cell? ⟨g, j, none⟩ = some y ∧ Below w0.heap.size w0 W ∧ g < W.heap.size) (c : Calls P K args W fun e w' => e = .returned v ∧ Below W.heap.size W w') :
    Calls P K args W fun e w' => e = .returned v ∧ w'.cell? ⟨g, i, none⟩ = some x ∧ w'.cell? ⟨g, j, none⟩ = some y ∧ Below w0.heap.size w0 w' ∧ g < w'.heap.size :=
  c.mono fun _ _ ⟨he, hb⟩ => ⟨he, by rw [hb.cell (p := ⟨g, i, none⟩) h.2.2.2, h.1], by rw [hb.cell (p := ⟨g, j, none⟩) h.2.2.2, h.2.1], bel_call h.2.2.1 hb, Nat.lt_of_lt_of_le h.2.2.2 hb.size⟩

theorem eql_turn (x y u v : Int) (w : World) : (binOp .eql 68 (.agg #[.int .i64 x, .int .i64 y]) (.agg #[.int .i64 u, .int .i64 v])).run Try.prog w = .ok (.bool (x == u && y == v)) w := by
  have h1 : Try.prog.underlying 68 = some (.struct (Try.prog.fieldsOf 68)) := by kernel_rfl
  have h2 : Try.prog.stoodInHeld 68 = false := by kernel_rfl
  have h3 : (Try.prog.fieldsOf 68).toList.map (fun f => (f.name, f.type, f.offset)) = [("Wheel", 3, 0), ("By", 3, 1)] := by kernel_rfl
  rw [run_eql_struct, run_equalIn_agg _ _ _ _ _ h1 h2]
  generalize (Try.prog.fieldsOf 68).toList = L at h3
  rcases L with _ | ⟨f, _ | ⟨g, _ | ⟨h, t⟩⟩⟩
  · simp at h3
  · simp at h3
  · simp only [List.map_cons, List.map_nil, List.cons.injEq, Prod.mk.injEq, and_true] at h3
    obtain ⟨⟨n1, t1, o1⟩, n2, t2, o2⟩ := h3
    by_cases hx : x = u <;> by_cases hy : y = v <;> simp [Op.eqFields, n1, n2, t1, t2, o1, o2, go_sem, hx, hy]
  · simp at h3

set_option maxHeartbeats 4000000 in
theorem isValid_any (a b x y : Int) (w : World) :
    Calls Try.prog 125 #[.agg #[.int .i64 a, .int .i64 b, .int .i64 x, .int .i64 y]] w fun e w' => e = .returned (.bool (turnB a x y)) ∧ Below w.heap.size w w' := by
  by_cases hx : x < 0
  · go_enter Try.func125, Try.ntmps125
    go_wp2_with fail
    go_ret
    refine ⟨ret_bool (by unfold turnB inB; rw [decide_eq_false (by omega)]; rfl), ?_⟩
    (repeat (first | assumption | exact Below.refl _ _ | (refine Below.alloc ?_ (by first | omega | (simp; done) | (simp; omega)) _) | (refine Below.setCell ?_ (by first | omega | (simp; done) | (simp; omega)) _) | refine bel_drewN ?_ _ | refine bel_drew ?_ | (refine bel_call ?_ (by assumption))))
  · by_cases hx2 : a ≤ x
    · go_enter Try.func125, Try.ntmps125
      go_wp2_with fail
      go_ret
      refine ⟨ret_bool (by unfold turnB inB; rw [decide_eq_false (by omega)]; rfl), ?_⟩
      (repeat (first | assumption | exact Below.refl _ _ | (refine Below.alloc ?_ (by first | omega | (simp; done) | (simp; omega)) _) | (refine Below.setCell ?_ (by first | omega | (simp; done) | (simp; omega)) _) | refine bel_drewN ?_ _ | refine bel_drew ?_ | (refine bel_call ?_ (by assumption))))
    · have HI : Hid (inB x 0 (a - 1) = true) := Lib.hid (decide_eq_true (by omega))
      have e1 : ∀ W, (binOp .eql 68 (.agg #[.int .i64 x, .int .i64 y]) (.agg #[.int .i64 x, .int .i64 1])).run Try.prog W = .ok (.bool (decide (y = 1))) W := fun W => by
        rw [eql_turn]; congr 2; by_cases h : y = 1 <;> simp [h]
      have e2 : ∀ W, (binOp .eql 68 (.agg #[.int .i64 x, .int .i64 y]) (.agg #[.int .i64 x, .int .i64 (-1)])).run Try.prog W = .ok (.bool (decide (y = -1))) W := fun W => by
        rw [eql_turn]; congr 2; by_cases h : y = -1 <;> simp [h]
      have hy : Hid (turnB a x y = (decide (y = 1) || decide (y = -1))) := Lib.hid (by unfold turnB; rw [HI.out]; rfl)
      obtain ⟨p, hp⟩ : ∃ p, p = decide (y = 1) := ⟨_, rfl⟩
      obtain ⟨q, hq⟩ : ∃ q, q = decide (y = -1) := ⟨_, rfl⟩
      rw [← hp] at e1 hy
      rw [← hq] at e2 hy
      clear hp hq
      go_enter Try.func125, Try.ntmps125
      go_wp2_with fail
      obtain ⟨wo, e0⟩ : ∃ wo : World, wo = w.alloc (.cells #[.int .i64 a, .int .i64 b, .int .i64 x, .int .i64 y] 136) := ⟨_, rfl⟩
      rw [← e0]
      have d2 : wo.cell? ⟨w.heap.size, 2, none⟩ = some (.int .i64 x) := by rw [e0]; simp
      have d3 : wo.cell? ⟨w.heap.size, 3, none⟩ = some (.int .i64 y) := by rw [e0]; simp
      have dB : Below w.heap.size w wo := by rw [e0]; (repeat (first | assumption | exact Below.refl _ _ | (refine Below.alloc ?_ (by first | omega | (simp; done) | (simp; omega)) _) | (refine Below.setCell ?_ (by first | omega | (simp; done) | (simp; omega)) _) | refine bel_drewN ?_ _ | refine bel_drew ?_ | (refine bel_call ?_ (by assumption))))
      have dz : w.heap.size < wo.heap.size := by rw [e0]; simp
      clear e0
      have d01 : ∀ W : World, (W.cell? ⟨w.heap.size, 2, none⟩ = some (.int .i64 x) ∧ W.cell? ⟨w.heap.size, 3, none⟩ = some (.int .i64 y) ∧ Below w.heap.size w W ∧ w.heap.size < W.heap.size) → W.drew.cell? ⟨w.heap.size, 2, none⟩ = some (.int .i64 x) ∧ W.drew.cell? ⟨w.heap.size, 3, none⟩ = some (.int .i64 y) ∧ Below w.heap.size w W.drew ∧ w.heap.size < W.drew.heap.size := fun W h => ⟨h.1, h.2.1, bel_drew h.2.2.1, h.2.2.2⟩
      have D := Lib.hid (d01 wo ⟨d2, d3, dB, dz⟩)
      clear d01
      rcases p with _ | _
      · go_region_held3 (fun w' => w'.cell? ⟨w.heap.size, 2, none⟩ = some (.int .i64 x) ∧ w'.cell? ⟨w.heap.size, 3, none⟩ = some (.int .i64 y) ∧ Below w.heap.size w w' ∧ w.heap.size < w'.heap.size) (first | assumption | exact ⟨d2, d3, bel_drew dB, dz⟩ | go_keep)
          (first | (go_at_call 127; refine (call_heldC (by assumption) (forth_any _ _)).mono ?_; rintro e w1 ⟨rfl, hS⟩) | (go_at_call 128; refine (call_heldC (by assumption) (back_any _ _)).mono ?_; rintro e w1 ⟨rfl, hS⟩))
        go_wp2
        go_ret
        exact ⟨ret_bool (by rw [hy.out]; rfl), hS.2.2.1⟩
      · first
        | (go_region_with (go_at_call 127; refine (call_heldC D.out (forth_any _ _)).mono ?_; rintro e w1 ⟨rfl, hS0, hS1, hS⟩))
        | fail
        all_goals go_wp2
        all_goals go_ret
        all_goals exact ⟨ret_bool (by rw [hy.out]; rfl), hS.1⟩

end Go.Proofs.Ytilnjlcljjpnmaa
