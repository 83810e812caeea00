/- For every input at which the law FnExactSmoothOfRank can be called it answers true and leaves its arguments as they were. No conditions. -/
import Derived.Test.YtaajklkldfgppaaZm
import Derived.Test.YtaajklkldfgppaaFacts
namespace Go.Proofs.Ytaajklkldfgppaa.fnExactSmoothOfRank
open Go.ChangeShapes Go.WideShapes Go.ChangeAt Go.RowKit Go.Joins
open Go.ChangeMaps (open_string shut_string)

set_option maxHeartbeats 4000000 in
theorem lawSmoothOfRank_true (d : Int) (w_d : (Lit.int .i64 d).wf = true) (n : Int) (w_n : (Lit.int .i64 n).wf = true) (m : Int) (w_m : (Lit.int .i64 m).wf = true) (r : Int) (w_r : (Lit.int .i64 r).wf = true) (w : World) :
    Calls Try.prog 6 #[.int .i64 d, .int .i64 n, .int .i64 m, .int .i64 r] w fun e w' => e = .returned (.bool true) ∧ Below w.heap.size w w' := by
  have hb_d := bd_i64 w_d
  clear w_d
  have hb_n := bd_i64 w_n
  clear w_n
  have hb_m := bd_i64 w_m
  clear w_m
  have hb_r := bd_i64 w_r
  clear w_r
  obtain ⟨z0, hz0⟩ : ∃ z, soS d n m r = z := ⟨_, rfl⟩
  have HZ0 := Lib.hid hz0
  clear hz0
  obtain ⟨z1, hz1⟩ : ∃ z, soB d n m r = z := ⟨_, rfl⟩
  have HZ1 := Lib.hid hz1
  clear hz1
  go_enter Try.func6, Try.ntmps6
  go_wp2_with fail
  refine (specSmoothOfRank_any _ _ _ _ _ hb_r.2).mono ?_
  rw [HZ0.out, HZ1.out]
  rintro e w1 ⟨rfl, hb⟩
  have hsz_w1 := hb.size
  have X_w1 := Lib.hid (bel_call (Below.refl w.heap.size w) hb)
  clear hb
  go_wp2_with fail
  refine (smoothOfRank_any _ _ _ _ _).mono ?_
  rw [HZ0.out, HZ1.out]
  rintro e w2 ⟨rfl, hb⟩
  have hsz_w2 := hb.size
  have X_w2 := Lib.hid (bel_call X_w1.out hb)
  clear hb
  go_wp2_with fail
  go_ret
  exact ⟨rfl, X_w2.out⟩

set_option maxRecDepth 100000 in
theorem lifted (os : Os) (started : os.Started) (H : Type) (enc : TypeId × Value → H) :
    ReturnsInHanded {} Try.checked os 6 .any (Rows.fnExactSmoothOfRankSpec.pre6 enc Try.prog Try.f6 Rows.fnExactSmoothOfRankRow.domain false) (Rows.fnExactSmoothOfRankSpec.post enc Try.prog Try.f6 false true false false) := by
  refine returnsInHanded_of_change (C := Try.checked) Try.own started (by kernel_rfl) Try.func6
    (ChangeSpec.witness6 (enc := enc) (C := Try.checked) false ⟨#[], #[.int .i64 0, .int .i64 0, .int .i64 0, .int .i64 0], []⟩ 8 (by kernel_rfl) (by kernel_rfl) (by kernel_rfl) (by kernel_rfl)) ?_
  intro W base args ds gs before hval0 hW _ _
  have hval : ∀ (j : Nat) t v, Try.f6.params[j]? = some t → args[j]? = some v → Value.okWide Try.prog W .any base t v := hval0
  have hW' := hW
  obtain ⟨p, q, hA0, hV, rfl, _, _⟩ := hW
  have hA : DataW.TrodAll enc Try.prog W 0 (fun _ => true) true Try.f6.params.toList args.toList ds p := hA0
  rw [Try.params6] at hA hval
  obtain ⟨v0, vs0, d0, ds0, p0, q0, hargs, rfl, rfl, h0, r0⟩ := trodAll_cons hA
  obtain ⟨v1, vs1, d1, ds1, p1, q1, rfl, rfl, rfl, h1, r1⟩ := trodAll_cons r0
  obtain ⟨v2, vs2, d2, ds2, p2, q2, rfl, rfl, rfl, h2, r2⟩ := trodAll_cons r1
  obtain ⟨v3, vs3, d3, ds3, p3, q3, rfl, rfl, rfl, h3, r3⟩ := trodAll_cons r2
  obtain ⟨rfl, rfl, rfl⟩ := trodAll_nil r3
  obtain rfl : args = #[v0, v1, v2, v3] := by cases args; simp_all
  obtain ⟨rfl, rfl⟩ := trodVars_none hV
  have t0 := h0
  have lt0 : ∀ x ∈ p0, x.block < W.heap.size := by obtain ⟨m, hm⟩ := t0; exact DataW.trod_lt m _ _ _ hm
  have t0' := h0
  have t1 := h1
  have lt1 : ∀ x ∈ p1, x.block < W.heap.size := by obtain ⟨m, hm⟩ := t1; exact DataW.trod_lt m _ _ _ hm
  have t1' := h1
  have t2 := h2
  have lt2 : ∀ x ∈ p2, x.block < W.heap.size := by obtain ⟨m, hm⟩ := t2; exact DataW.trod_lt m _ _ _ hm
  have t2' := h2
  have t3 := h3
  have lt3 : ∀ x ∈ p3, x.block < W.heap.size := by obtain ⟨m, hm⟩ := t3; exact DataW.trod_lt m _ _ _ hm
  have t3' := h3
  obtain ⟨x0, rfl, _, _, k0⟩ := open_int Try.underlying3 (hval 0 3 v0 rfl rfl) t0'
  obtain ⟨x1, rfl, _, _, k1⟩ := open_int Try.underlying3 (hval 1 3 v1 rfl rfl) t1'
  obtain ⟨x2, rfl, _, _, k2⟩ := open_int Try.underlying3 (hval 2 3 v2 rfl rfl) t2'
  obtain ⟨x3, rfl, _, _, k3⟩ := open_int Try.underlying3 (hval 3 3 v3 rfl rfl) t3'
  clear hA0 hval0
  refine (lawSmoothOfRank_true x0 k0 x1 k1 x2 k2 x3 k3 W).mono fun e W' ⟨he, bel⟩ => ?_
  subst he
  exact ⟨_, rfl, _, _, _, [], _, [], hW', trodAll_mk1 (shut_bool Try.underlying4 _), (trodAll_cons_mk (Below.trod Try.laidOut (by kernel_rfl) (of_decide_eq_true (by kernel_rfl)) h0 bel lt0) (trodAll_cons_mk (Below.trod Try.laidOut (by kernel_rfl) (of_decide_eq_true (by kernel_rfl)) h1 bel lt1) (trodAll_cons_mk (Below.trod Try.laidOut (by kernel_rfl) (of_decide_eq_true (by kernel_rfl)) h2 bel lt2) (trodAll_cons_mk (Below.trod Try.laidOut (by kernel_rfl) (of_decide_eq_true (by kernel_rfl)) h3 bel lt3) trodAll_mk0)))), rfl, bel.frame _, fun h => by cases h⟩

set_option maxRecDepth 100000 in
theorem jf : joinedFacts Try.pinned.checked.prog 6 Try.f6 Rows.fnExactSmoothOfRankSpec Rows.fnExactSmoothOfRankRow = true := by
  unfold joinedFacts
  rw [whole_all.1, whole_all.2.1, whole_all.2.2]
  kernel_rfl

theorem over : Rows.fnExactSmoothOfRankRow.holds Try.pinned (OpenSpec.ofChange Rows.fnExactSmoothOfRankSpec) :=
  OpenClaim.holds_of_wide 6 Try.f6 rfl rfl rfl rfl rfl rfl rfl ⟨rfl, rfl, rfl, rfl, rfl⟩ rfl rfl rfl rfl rfl (by kernel_rfl) Try.func6 jf
    (of_decide_eq_true (by kernel_rfl)) (by unfold Func.isWrapper; rw [if_neg (of_decide_eq_false (by kernel_rfl))]; exact ⟨rfl, rfl⟩)
    (fun os started H enc _ => lifted os started H enc)

theorem proved : Rows.FnExactSmoothOfRankSaid := over
end Go.Proofs.Ytaajklkldfgppaa.fnExactSmoothOfRank
