/- For every input at which the law FnExactIsClue can be called it answers true and leaves its arguments as they were. No conditions. -/
import Derived.Test.YtkfddobdffgmiaaUe
import Derived.Test.YtkfddobdffgmiaaFacts
namespace Go.Proofs.Ytkfddobdffgmiaa.fnExactIsClue
open Go.ChangeShapes Go.WideShapes Go.ChangeAt Go.RowKit Go.Joins
open Go.ChangeMaps (open_string shut_string)

set_option maxHeartbeats 4000000 in
theorem lawIsClue_true (a b : Int) (_ : (Lit.int .i64 a).wf = true) (_ : (Lit.int .i64 b).wf = true) (x y z : Int) (_ : (Lit.int .i64 x).wf = true) (_ : (Lit.int .i64 y).wf = true) (_ : (Lit.int .i64 z).wf = true) (w : World) :
    Calls Try.prog 3 #[.agg #[.int .i64 a, .int .i64 b], .agg #[.int .i64 x, .int .i64 y, .int .i64 z]] w fun e w' => e = .returned (.bool true) ∧ Below w.heap.size w w' := by
  obtain ⟨r0, hr0⟩ : ∃ r, (puzB a b && cluB a b (x, y, z)) = r := ⟨_, rfl⟩
  have HR : Hid ((puzB a b && cluB a b (x, y, z)) = r0) := Lib.hid (by rw [← hr0])
  clear hr0
  have X0 := Lib.hid (show Below w.heap.size w ((w.alloc (.cells #[.int .i64 a, .int .i64 b] 23)).alloc (.cells #[.int .i64 x, .int .i64 y, .int .i64 z] 25)) from ((Below.refl _ _).alloc (Nat.le_refl _) _).alloc (by simp) _)
  have C0 := Lib.hid ((Cells.new (W := w) (cs := #[.int .i64 a, .int .i64 b]) (t := 23) (g := w.heap.size) (n := 2) rfl rfl).alloc (.cells #[.int .i64 x, .int .i64 y, .int .i64 z] 25))
  have D0 := Lib.hid (Cells.new (W := w.alloc (.cells #[.int .i64 a, .int .i64 b] 23)) (cs := #[.int .i64 x, .int .i64 y, .int .i64 z]) (t := 25) (g := w.heap.size + 1) (n := 3) (by simp) rfl)
  go_enter Try.func3, Try.ntmps3
  go_wp2_with fail
  go_region_with (first | (go_at_call 19; refine (toLock_any _ _ _).mono ?_; rintro e w1 ⟨rfl, hb1⟩; have DD1 := Lib.hid (D0.out.call (below_undrew hb1)); have n0_1 : w1.cell? ⟨w.heap.size + 1, 0, none⟩ = some (.int .i64 x) := DD1.out.cell (show 0 < 3 by omega); have n1_1 : w1.cell? ⟨w.heap.size + 1, 1, none⟩ = some (.int .i64 y) := DD1.out.cell (show 1 < 3 by omega); have n2_1 : w1.cell? ⟨w.heap.size + 1, 2, none⟩ = some (.int .i64 z) := DD1.out.cell (show 2 < 3 by omega)) | (go_at_call 20; refine (toClue_any _ _ _ _).mono ?_; rintro e w2 ⟨rfl, hb2⟩) | (go_at_call 18; refine (specIsClue_any _ _ _ _ _ _).mono ?_; rw [HR.out]; rintro e w3 ⟨rfl, hb3⟩))
  all_goals
    have C3 := Lib.hid (((C0.out.call (below_undrew hb1)).call hb2).call hb3)
    have D3 := Lib.hid (((D0.out.call (below_undrew hb1)).call hb2).call hb3)
    have X3 := Lib.hid (bel_call (bel_call (bel_call X0.out (below_undrew hb1)) hb2) hb3)
    clear hb1 hb2 hb3 n0_1 n1_1 n2_1 DD1
    have l0 : w3.cell? ⟨w.heap.size, 0, none⟩ = some (.int .i64 a) := C3.out.cell (show 0 < 2 by omega)
    have l1 : w3.cell? ⟨w.heap.size, 1, none⟩ = some (.int .i64 b) := C3.out.cell (show 1 < 2 by omega)
    have m0 : w3.cell? ⟨w.heap.size + 1, 0, none⟩ = some (.int .i64 x) := D3.out.cell (show 0 < 3 by omega)
    have m1 : w3.cell? ⟨w.heap.size + 1, 1, none⟩ = some (.int .i64 y) := D3.out.cell (show 1 < 3 by omega)
    have m2 : w3.cell? ⟨w.heap.size + 1, 2, none⟩ = some (.int .i64 z) := D3.out.cell (show 2 < 3 by omega)
    have g0 : w.heap.size < w3.heap.size := C3.out.lt
    have g1 : w.heap.size + 1 < w3.heap.size := D3.out.lt
    go_wp2_with fail
    go_region_with (first | (go_at_call 19; refine (toLock_any _ _ _).mono ?_; rintro e w4 ⟨rfl, hb4⟩; have DD4 := Lib.hid (D3.out.call (below_undrew hb4)); have n0_4 : w4.cell? ⟨w.heap.size + 1, 0, none⟩ = some (.int .i64 x) := DD4.out.cell (show 0 < 3 by omega); have n1_4 : w4.cell? ⟨w.heap.size + 1, 1, none⟩ = some (.int .i64 y) := DD4.out.cell (show 1 < 3 by omega); have n2_4 : w4.cell? ⟨w.heap.size + 1, 2, none⟩ = some (.int .i64 z) := DD4.out.cell (show 2 < 3 by omega)) | (go_at_call 20; refine (toClue_any _ _ _ _).mono ?_; rintro e w5 ⟨rfl, hb5⟩) | (go_at_call 21; refine (isClue_any _ _ _ _ _ _).mono ?_; rw [HR.out]; rintro e w6 ⟨rfl, hb6⟩))
    all_goals
      have X6 := Lib.hid (bel_call (bel_call (bel_call X3.out (below_undrew hb4)) hb5) hb6)
      clear hb4 hb5 hb6 n0_4 n1_4 n2_4 DD4
      go_wp2_with fail
      go_ret
      exact ⟨rfl, X6.out⟩

set_option maxRecDepth 100000 in
theorem lifted (os : Os) (started : os.Started) (H : Type) (enc : TypeId × Value → H) :
    ReturnsInHanded {} Try.checked os 3 .any (Rows.fnExactIsClueSpec.pre6 enc Try.prog Try.f3 Rows.fnExactIsClueRow.domain false) (Rows.fnExactIsClueSpec.post enc Try.prog Try.f3 false true false false) := by
  refine returnsInHanded_of_change (C := Try.checked) Try.own started (by kernel_rfl) Try.func3
    (ChangeSpec.witness6 (enc := enc) (C := Try.checked) false ⟨#[], #[.agg #[.int .i64 0, .int .i64 0], .agg #[.int .i64 0, .int .i64 0, .int .i64 0]], []⟩ 8 (by kernel_rfl) (by kernel_rfl) (by kernel_rfl) (by kernel_rfl)) ?_
  intro W base args ds gs before hval0 hW _ _
  have hval : ∀ (j : Nat) t v, Try.f3.params[j]? = some t → args[j]? = some v → Value.okWide Try.prog W .any base t v := hval0
  have hW' := hW
  obtain ⟨p, q, hA0, hV, rfl, _, _⟩ := hW
  have hA : DataW.TrodAll enc Try.prog W 0 (fun _ => true) true Try.f3.params.toList args.toList ds p := hA0
  rw [Try.params3] at hA hval
  obtain ⟨v0, vs0, d0, ds0, p0, q0, hargs, rfl, rfl, h0, r0⟩ := trodAll_cons hA
  obtain ⟨v1, vs1, d1, ds1, p1, q1, rfl, rfl, rfl, h1, r1⟩ := trodAll_cons r0
  obtain ⟨rfl, rfl, rfl⟩ := trodAll_nil r1
  obtain rfl : args = #[v0, v1] := by cases args; simp_all
  obtain ⟨rfl, rfl⟩ := trodVars_none hV
  have t0 := h0
  have lt0 : ∀ x ∈ p0, x.block < W.heap.size := by obtain ⟨m, hm⟩ := t0; exact DataW.trod_lt m _ _ _ hm
  have t0' := h0
  have t1 := h1
  have lt1 : ∀ x ∈ p1, x.block < W.heap.size := by obtain ⟨m, hm⟩ := t1; exact DataW.trod_lt m _ _ _ hm
  have t1' := h1
  obtain ⟨x0, x0b, rfl, k0, l0⟩ := open_lock (hval 0 23 v0 rfl rfl) t0'
  obtain ⟨x1, x1y, x1z, rfl, k1, l1, m1⟩ := open_clue (hval 1 25 v1 rfl rfl) t1'
  clear hA0 hval0
  refine (lawIsClue_true x0 x0b k0 l0 x1 x1y x1z k1 l1 m1 W).mono fun e W' ⟨he, bel⟩ => ?_
  subst he
  exact ⟨_, rfl, _, _, _, [], _, [], hW', trodAll_mk1 (shut_bool Try.underlying4 _), (trodAll_cons_mk (Below.trod Try.laidOut (by kernel_rfl) (of_decide_eq_true (by kernel_rfl)) h0 bel lt0) (trodAll_cons_mk (Below.trod Try.laidOut (by kernel_rfl) (of_decide_eq_true (by kernel_rfl)) h1 bel lt1) trodAll_mk0)), rfl, bel.frame _, fun h => by cases h⟩

set_option maxRecDepth 100000 in
theorem jf : joinedFacts Try.pinned.checked.prog 3 Try.f3 Rows.fnExactIsClueSpec Rows.fnExactIsClueRow = true := by
  unfold joinedFacts
  rw [whole_all.1, whole_all.2.1, whole_all.2.2]
  kernel_rfl

theorem over : Rows.fnExactIsClueRow.holds Try.pinned (OpenSpec.ofChange Rows.fnExactIsClueSpec) :=
  OpenClaim.holds_of_wide 3 Try.f3 rfl rfl rfl rfl rfl rfl rfl ⟨rfl, rfl, rfl, rfl, rfl⟩ rfl rfl rfl rfl rfl (by kernel_rfl) Try.func3 jf
    (of_decide_eq_true (by kernel_rfl)) (by unfold Func.isWrapper; rw [if_neg (of_decide_eq_false (by kernel_rfl))]; exact ⟨rfl, rfl⟩)
    (fun os started H enc _ => lifted os started H enc)

theorem proved : Rows.FnExactIsClueSaid := over
end Go.Proofs.Ytkfddobdffgmiaa.fnExactIsClue
