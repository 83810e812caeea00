/- For every input at which the law FnExactTurnInRound can be called it answers true and leaves its arguments as they were. No conditions. -/
import Derived.Test.YtpbnleohbegccaaLv
import Derived.Test.YtpbnleohbegccaaOy
import Derived.Test.YtpbnleohbegccaaOe2
import Derived.Test.YtpbnleohbegccaaDead
import Derived.Test.YtpbnleohbegccaaFacts
namespace Go.Proofs.Ytpbnleohbegccaa.fnExactTurnInRound
open Go.ChangeShapes Go.WideShapes Go.ChangeAt Go.RowKit Go.Joins
open Go.ChangeMaps (open_string shut_string)

set_option maxHeartbeats 2000000 in
theorem lawTurnInRound_true (a b : Int) (_ : (Lit.int .i64 a).wf = true) (_ : (Lit.int .i64 b).wf = true) (x : Int) (_ : (Lit.int .i64 x).wf = true) (w : World) :
    Calls Try.prog 8 #[.agg #[.int .i64 a, .int .i64 b], .int .i64 x] w fun e w' => e = .returned (.bool true) ∧ Below w.heap.size w w' := by
  obtain ⟨p, hp⟩ : ∃ p, trP a b x = p := ⟨_, rfl⟩
  have HP := Lib.hid hp
  have X0 := Lib.hid (show Below w.heap.size w (w.alloc (.cells #[.int .i64 a, .int .i64 b] 23)) from (Below.refl _ _).alloc (Nat.le_refl _) _)
  have C0 := Lib.hid (box_new (W := w) (a := a) (b := b) (t := 23) rfl)
  clear hp
  go_enter Try.func8, Try.ntmps8
  go_wp2_with fail
  refine (toLock_any _ _ _).mono ?_
  rintro e w1 ⟨rfl, hb1⟩
  have C1 := Lib.hid (C0.out.call hb1)
  have X1 := Lib.hid (bel_call X0.out hb1)
  clear hb1
  go_wp2_with fail
  refine (specTurnInRound_any _ _ _ _).mono ?_
  rw [HP.out]
  unfold turnV
  rintro e w2 ⟨rfl, hb2⟩
  have C2 := Lib.hid ((C1.out.call hb2).alloc (.cells #[.int .i64 p.1, .int .i64 p.2] 33))
  have X2 := Lib.hid ((bel_call X1.out hb2).alloc (bel_call X1.out hb2).size (.cells #[.int .i64 p.1, .int .i64 p.2] 33))
  have A2 := Lib.hid (cells_two (w := w2) (x := p.1) (y := p.2) (t := 33) (g := w2.heap.size) rfl)
  have l0 := C2.out.cell (show 0 < 2 by omega)
  have l1 := C2.out.cell (show 1 < 2 by omega)
  clear hb2
  go_wp2_with fail
  refine (toLock_any _ _ _).mono ?_
  rintro e w3 ⟨rfl, hb3⟩
  have A3 := Lib.hid (A2.out.call hb3)
  have X3 := Lib.hid (bel_call X2.out hb3)
  clear hb3 l0 l1
  go_wp2_with fail
  refine (turnInRound_any _ _ _ _).mono ?_
  rw [HP.out]
  unfold turnV
  rintro e w4 ⟨rfl, hb4⟩
  have A4 := Lib.hid ((A3.out.call hb4).alloc (.cells #[.int .i64 p.1, .int .i64 p.2] 33))
  have X4 := Lib.hid ((bel_call X3.out hb4).alloc (bel_call X3.out hb4).size (.cells #[.int .i64 p.1, .int .i64 p.2] 33))
  have e0 : (w4.alloc (.cells #[.int .i64 p.1, .int .i64 p.2] 33)).cell? ⟨w2.heap.size, 0, none⟩ = some (.int .i64 p.1) := A4.out.cell (show 0 < 2 by omega)
  have e1 : (w4.alloc (.cells #[.int .i64 p.1, .int .i64 p.2] 33)).cell? ⟨w2.heap.size, 1, none⟩ = some (.int .i64 p.2) := A4.out.cell (show 1 < 2 by omega)
  clear hb4
  go_wp2_with (go_at_call 30; refine (eqTurn_any _ _ _).mono ?_; rintro e w5 ⟨rfl, hb5⟩)
  go_ret
  exact ⟨rfl, bel_call X4.out hb5⟩

set_option maxRecDepth 100000 in
theorem lifted (os : Os) (started : os.Started) (H : Type) (enc : TypeId × Value → H) :
    ReturnsInHanded {} Try.checked os 8 .any (Rows.fnExactTurnInRoundSpec.pre6 enc Try.prog Try.f8 Rows.fnExactTurnInRoundRow.domain false) (Rows.fnExactTurnInRoundSpec.post enc Try.prog Try.f8 false true false false) := by
  refine returnsInHanded_of_change (C := Try.checked) Try.own started (by kernel_rfl) Try.func8
    (ChangeSpec.witness6 (enc := enc) (C := Try.checked) false ⟨#[], #[.agg #[.int .i64 0, .int .i64 0], .int .i64 0], []⟩ 8 (by kernel_rfl) (by kernel_rfl) (by kernel_rfl) (by kernel_rfl)) ?_
  intro W base args ds gs before hval0 hW _ _
  have hval : ∀ (j : Nat) t v, Try.f8.params[j]? = some t → args[j]? = some v → Value.okWide Try.prog W .any base t v := hval0
  have hW' := hW
  obtain ⟨p, q, hA0, hV, rfl, _, _⟩ := hW
  have hA : DataW.TrodAll enc Try.prog W 0 (fun _ => true) true Try.f8.params.toList args.toList ds p := hA0
  rw [Try.params8] at hA hval
  obtain ⟨v0, vs0, d0, ds0, p0, q0, hargs, rfl, rfl, h0, r0⟩ := trodAll_cons hA
  obtain ⟨v1, vs1, d1, ds1, p1, q1, rfl, rfl, rfl, h1, r1⟩ := trodAll_cons r0
  obtain ⟨rfl, rfl, rfl⟩ := trodAll_nil r1
  obtain rfl : args = #[v0, v1] := by cases args; simp_all
  obtain ⟨rfl, rfl⟩ := trodVars_none hV
  have t0 := h0
  have lt0 : ∀ x ∈ p0, x.block < W.heap.size := by obtain ⟨m, hm⟩ := t0; exact DataW.trod_lt m _ _ _ hm
  have t0' := h0
  have t1 := h1
  have lt1 : ∀ x ∈ p1, x.block < W.heap.size := by obtain ⟨m, hm⟩ := t1; exact DataW.trod_lt m _ _ _ hm
  have t1' := h1
  obtain ⟨x0, x0b, rfl, k0, l0⟩ := open_lock (hval 0 23 v0 rfl rfl) t0'
  obtain ⟨x1, rfl, _, _, k1⟩ := open_int Try.underlying3 (hval 1 3 v1 rfl rfl) t1'
  clear hA0 hval0
  refine (lawTurnInRound_true x0 x0b k0 l0 x1 k1 W).mono fun e W' ⟨he, bel⟩ => ?_
  subst he
  exact ⟨_, rfl, _, _, _, [], _, [], hW', trodAll_mk1 (shut_bool Try.underlying4 _), (trodAll_cons_mk (Below.trod Try.laidOut (by kernel_rfl) (of_decide_eq_true (by kernel_rfl)) h0 bel lt0) (trodAll_cons_mk (Below.trod Try.laidOut (by kernel_rfl) (of_decide_eq_true (by kernel_rfl)) h1 bel lt1) trodAll_mk0)), rfl, bel.frame _, fun h => by cases h⟩

set_option maxRecDepth 100000 in
theorem jf : joinedFacts Try.pinned.checked.prog 8 Try.f8 Rows.fnExactTurnInRoundSpec Rows.fnExactTurnInRoundRow = true := by
  unfold joinedFacts
  rw [whole_all.1, whole_all.2.1, whole_all.2.2]
  kernel_rfl

theorem over : Rows.fnExactTurnInRoundRow.holds Try.pinned (OpenSpec.ofChange Rows.fnExactTurnInRoundSpec) :=
  OpenClaim.holds_of_wide_leaving 8 Try.f8 rfl rfl rfl rfl rfl rfl rfl ⟨rfl, rfl, rfl, rfl, rfl⟩ rfl rfl rfl rfl rfl (by kernel_rfl) Try.func8 jf
    (of_decide_eq_true (by kernel_rfl)) (by unfold Func.isWrapper; rw [if_neg (of_decide_eq_false (by kernel_rfl))]; exact ⟨rfl, rfl⟩)
    (fun os started H enc _ => leave_of_handed (lifted os started H enc))

theorem proved : Rows.FnExactTurnInRoundSaid := over
end Go.Proofs.Ytpbnleohbegccaa.fnExactTurnInRound
