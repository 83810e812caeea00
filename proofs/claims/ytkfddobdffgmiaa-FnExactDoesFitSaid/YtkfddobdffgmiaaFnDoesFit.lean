/- For every input at which the law FnExactDoesFit can be called it answers true and leaves its arguments as they were. No conditions. -/
import Derived.Test.YtkfddobdffgmiaaUi
import Derived.Test.YtkfddobdffgmiaaFacts
namespace Go.Proofs.Ytkfddobdffgmiaa.fnExactDoesFit
open Go.ChangeShapes Go.WideShapes Go.ChangeAt Go.RowKit Go.Joins
open Go.ChangeMaps (open_string shut_string)

set_option maxHeartbeats 4000000 in
theorem lawDoesFit_true (a b : Int) (_ : (Lit.int .i64 a).wf = true) (_ : (Lit.int .i64 b).wf = true) (x y z : Int) (_ : (Lit.int .i64 x).wf = true) (_ : (Lit.int .i64 y).wf = true) (_ : (Lit.int .i64 z).wf = true) (s : ByteArray) (hs : s.size ≤ maxLen) (w : World) :
    Calls Try.prog 5 #[.agg #[.int .i64 a, .int .i64 b], .agg #[.int .i64 x, .int .i64 y, .int .i64 z], .string s] w fun e w' => e = .returned (.bool true) ∧ Below w.heap.size w w' := by
  have HS := Lib.hid hs
  unfold maxLen at hs
  obtain ⟨r0, hr0⟩ : ∃ r, (dfV a b (x, y, z) s) = r := ⟨_, rfl⟩
  obtain ⟨r1, hr1⟩ : ∃ r, (dfB a b (x, y, z) s) = r := ⟨_, rfl⟩
  have HR : Hid ((.tuple #[.bool (dfV a b (x, y, z) s), .bool (dfB a b (x, y, z) s)] : Value) = .tuple #[.bool r0, .bool r1]) := Lib.hid (by rw [← hr0, ← hr1])
  clear hr0 hr1
  have X0 := Lib.hid (show Below w.heap.size w ((w.alloc (.cells #[.int .i64 a, .int .i64 b] 23)).alloc (.cells #[.int .i64 x, .int .i64 y, .int .i64 z] 25)) from ((Below.refl _ _).alloc (Nat.le_refl _) _).alloc (by simp) _)
  have C0 := Lib.hid ((Cells.new (W := w) (cs := #[.int .i64 a, .int .i64 b]) (t := 23) (g := w.heap.size) (n := 2) rfl rfl).alloc (.cells #[.int .i64 x, .int .i64 y, .int .i64 z] 25))
  have D0 := Lib.hid (Cells.new (W := w.alloc (.cells #[.int .i64 a, .int .i64 b] 23)) (cs := #[.int .i64 x, .int .i64 y, .int .i64 z]) (t := 25) (g := w.heap.size + 1) (n := 3) (by simp) rfl)
  by_cases hlen : 1048576 < s.size
  · go_enter Try.func5, Try.ntmps5
    go_wp2_with fail
    go_ret
    refine ⟨rfl, ?_⟩
    (repeat (first | assumption | exact Below.refl _ _ | (refine Below.alloc ?_ (by first | omega | (simp; done) | (simp; omega)) _) | (refine Below.setCell ?_ (by first | omega | (simp; done) | (simp; omega)) _) | refine bel_drewN ?_ _ | refine bel_drew ?_ | (refine bel_call ?_ (by assumption))))
  go_enter Try.func5, Try.ntmps5
  go_wp2_with fail
  go_region_with (first | (go_at_call 19; refine (toLock_any _ _ _).mono ?_; rintro e w1 ⟨rfl, hb1⟩; have DD1 := Lib.hid (D0.out.call (below_undrew hb1)); have n0_1 : w1.cell? ⟨w.heap.size + 1, 0, none⟩ = some (.int .i64 x) := DD1.out.cell (show 0 < 3 by omega); have n1_1 : w1.cell? ⟨w.heap.size + 1, 1, none⟩ = some (.int .i64 y) := DD1.out.cell (show 1 < 3 by omega); have n2_1 : w1.cell? ⟨w.heap.size + 1, 2, none⟩ = some (.int .i64 z) := DD1.out.cell (show 2 < 3 by omega)) | (go_at_call 20; refine (toClue_any _ _ _ _).mono ?_; rintro e w2 ⟨rfl, hb2⟩) | (go_at_call 27; refine (specDoesFit_any _ _ _ _ _ _ _ HS.out).mono ?_; rw [HR.out]; rintro e w3 ⟨rfl, hb3⟩))
  all_goals
    have C3 := Lib.hid (((C0.out.call (below_undrew hb1)).call hb2).call hb3)
    have D3 := Lib.hid (((D0.out.call (below_undrew hb1)).call hb2).call hb3)
    have X3 := Lib.hid (bel_call (bel_call (bel_call X0.out (below_undrew hb1)) hb2) hb3)
    clear hb1 hb2 hb3 n0_1 n1_1 n2_1 DD1
    have l0 : w3.cell? ⟨w.heap.size, 0, none⟩ = some (.int .i64 a) := C3.out.cell (show 0 < 2 by omega)
    have l1 : w3.cell? ⟨w.heap.size, 1, none⟩ = some (.int .i64 b) := C3.out.cell (show 1 < 2 by omega)
    have m0 : w3.cell? ⟨w.heap.size + 1, 0, none⟩ = some (.int .i64 x) := D3.out.cell (show 0 < 3 by omega)
    have m1 : w3.cell? ⟨w.heap.size + 1, 1, none⟩ = some (.int .i64 y) := D3.out.cell (show 1 < 3 by omega)
    have m2 : w3.cell? ⟨w.heap.size + 1, 2, none⟩ = some (.int .i64 z) := D3.out.cell (show 2 < 3 by omega)
    have g0 : w.heap.size < w3.heap.size := C3.out.lt
    have g1 : w.heap.size + 1 < w3.heap.size := D3.out.lt
    go_wp2_with fail
    go_region_with (first | (go_at_call 19; refine (toLock_any _ _ _).mono ?_; rintro e w4 ⟨rfl, hb4⟩; have DD4 := Lib.hid (D3.out.call (below_undrew hb4)); have n0_4 : w4.cell? ⟨w.heap.size + 1, 0, none⟩ = some (.int .i64 x) := DD4.out.cell (show 0 < 3 by omega); have n1_4 : w4.cell? ⟨w.heap.size + 1, 1, none⟩ = some (.int .i64 y) := DD4.out.cell (show 1 < 3 by omega); have n2_4 : w4.cell? ⟨w.heap.size + 1, 2, none⟩ = some (.int .i64 z) := DD4.out.cell (show 2 < 3 by omega)) | (go_at_call 20; refine (toClue_any _ _ _ _).mono ?_; rintro e w5 ⟨rfl, hb5⟩) | (go_at_call 28; refine (doesFit_any _ _ _ _ _ _ _ HS.out).mono ?_; rw [HR.out]; rintro e w6 ⟨rfl, hb6⟩))
    all_goals
      have X6 := Lib.hid (bel_call (bel_call (bel_call X3.out (below_undrew hb4)) hb5) hb6)
      clear hb4 hb5 hb6 n0_4 n1_4 n2_4 DD4
      go_wp2_with fail
      go_ret
      exact ⟨rfl, X6.out⟩

set_option maxRecDepth 100000 in
theorem lifted (os : Os) (started : os.Started) (H : Type) (enc : TypeId × Value → H) :
    ReturnsInHanded {} Try.checked os 5 .any (Rows.fnExactDoesFitSpec.pre6 enc Try.prog Try.f5 Rows.fnExactDoesFitRow.domain false) (Rows.fnExactDoesFitSpec.post enc Try.prog Try.f5 false true false false) := by
  refine returnsInHanded_of_change (C := Try.checked) Try.own started (by kernel_rfl) Try.func5
    (ChangeSpec.witness6 (enc := enc) (C := Try.checked) false ⟨#[], #[.agg #[.int .i64 0, .int .i64 0], .agg #[.int .i64 0, .int .i64 0, .int .i64 0], .string ByteArray.empty], []⟩ 8 (by kernel_rfl) (by kernel_rfl) (by kernel_rfl) (by kernel_rfl)) ?_
  intro W base args ds gs before hval0 hW _ _
  have hval : ∀ (j : Nat) t v, Try.f5.params[j]? = some t → args[j]? = some v → Value.okWide Try.prog W .any base t v := hval0
  have hW' := hW
  obtain ⟨p, q, hA0, hV, rfl, _, _⟩ := hW
  have hA : DataW.TrodAll enc Try.prog W 0 (fun _ => true) true Try.f5.params.toList args.toList ds p := hA0
  rw [Try.params5] at hA hval
  obtain ⟨v0, vs0, d0, ds0, p0, q0, hargs, rfl, rfl, h0, r0⟩ := trodAll_cons hA
  obtain ⟨v1, vs1, d1, ds1, p1, q1, rfl, rfl, rfl, h1, r1⟩ := trodAll_cons r0
  obtain ⟨v2, vs2, d2, ds2, p2, q2, rfl, rfl, rfl, h2, r2⟩ := trodAll_cons r1
  obtain ⟨rfl, rfl, rfl⟩ := trodAll_nil r2
  obtain rfl : args = #[v0, v1, v2] := by cases args; simp_all
  obtain ⟨rfl, rfl⟩ := trodVars_none hV
  have t0 := h0
  have lt0 : ∀ x ∈ p0, x.block < W.heap.size := by obtain ⟨m, hm⟩ := t0; exact DataW.trod_lt m _ _ _ hm
  have t0' := h0
  have t1 := h1
  have lt1 : ∀ x ∈ p1, x.block < W.heap.size := by obtain ⟨m, hm⟩ := t1; exact DataW.trod_lt m _ _ _ hm
  have t1' := h1
  have t2 := h2
  have lt2 : ∀ x ∈ p2, x.block < W.heap.size := by obtain ⟨m, hm⟩ := t2; exact DataW.trod_lt m _ _ _ hm
  have t2' := h2
  obtain ⟨x0, x0b, rfl, k0, l0⟩ := open_lock (hval 0 23 v0 rfl rfl) t0'
  obtain ⟨x1, x1y, x1z, rfl, k1, l1, m1⟩ := open_clue (hval 1 25 v1 rfl rfl) t1'
  obtain ⟨x2, rfl, _, _, k2⟩ := open_string Try.underlying9 (hval 2 9 v2 rfl rfl) t2'
  clear hA0 hval0
  refine (lawDoesFit_true x0 x0b k0 l0 x1 x1y x1z k1 l1 m1 x2 k2 W).mono fun e W' ⟨he, bel⟩ => ?_
  subst he
  exact ⟨_, rfl, _, _, _, [], _, [], hW', trodAll_mk1 (shut_bool Try.underlying4 _), (trodAll_cons_mk (Below.trod Try.laidOut (by kernel_rfl) (of_decide_eq_true (by kernel_rfl)) h0 bel lt0) (trodAll_cons_mk (Below.trod Try.laidOut (by kernel_rfl) (of_decide_eq_true (by kernel_rfl)) h1 bel lt1) (trodAll_cons_mk (Below.trod Try.laidOut (by kernel_rfl) (of_decide_eq_true (by kernel_rfl)) h2 bel lt2) trodAll_mk0))), rfl, bel.frame _, fun h => by cases h⟩

set_option maxRecDepth 100000 in
theorem jf : joinedFacts Try.pinned.checked.prog 5 Try.f5 Rows.fnExactDoesFitSpec Rows.fnExactDoesFitRow = true := by
  unfold joinedFacts
  rw [whole_all.1, whole_all.2.1, whole_all.2.2]
  kernel_rfl

theorem over : Rows.fnExactDoesFitRow.holds Try.pinned (OpenSpec.ofChange Rows.fnExactDoesFitSpec) :=
  OpenClaim.holds_of_wide 5 Try.f5 rfl rfl rfl rfl rfl rfl rfl ⟨rfl, rfl, rfl, rfl, rfl⟩ rfl rfl rfl rfl rfl (by kernel_rfl) Try.func5 jf
    (of_decide_eq_true (by kernel_rfl)) (by unfold Func.isWrapper; rw [if_neg (of_decide_eq_false (by kernel_rfl))]; exact ⟨rfl, rfl⟩)
    (fun os started H enc _ => lifted os started H enc)

theorem proved : Rows.FnExactDoesFitSaid := over
end Go.Proofs.Ytkfddobdffgmiaa.fnExactDoesFit
