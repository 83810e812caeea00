/- For every input at which the law FnExactRankOfSmooth can be called it answers true and leaves its arguments as they were. No conditions. -/
import Derived.Test.YtbfildegnbbinaaZh
import Derived.Test.YtbfildegnbbinaaZj
import Derived.Test.YtbfildegnbbinaaFacts
namespace Go.Proofs.Ytbfildegnbbinaa.fnExactRankOfSmooth
open Go.ChangeShapes Go.WideShapes Go.ChangeAt Go.RowKit Go.Joins
open Go.ChangeMaps (open_string shut_string)

set_option maxHeartbeats 4000000 in
theorem lawRankOfSmooth_true (d : Int) (w_d : (Lit.int .i64 d).wf = true) (m : Int) (w_m : (Lit.int .i64 m).wf = true) (s : ByteArray) (hs : s.size ≤ maxLen) (w : World) :
    Calls Try.prog 7 #[.int .i64 d, .int .i64 m, .string s] w fun e w' => e = .returned (.bool true) ∧ Below w.heap.size w w' := by
  have hb_d := bd_i64 w_d
  clear w_d
  have hb_m := bd_i64 w_m
  clear w_m
  unfold maxLen at hs
  by_cases hlen0 : 1048576 < s.size
  · go_enter Try.func7, Try.ntmps7
    go_wp2_with fail
    go_ret
    refine ⟨rfl, ?_⟩
    (repeat (first | assumption | exact Below.refl _ _ | (refine Below.alloc ?_ (by first | omega | (simp; done) | (simp; omega)) _) | (refine Below.setCell ?_ (by first | omega | (simp; done) | (simp; omega)) _) | refine bel_drewN ?_ _ | refine bel_drew ?_ | (refine bel_call ?_ (by assumption))))
  obtain ⟨z0, hz0⟩ : ∃ z, rsZ d m s = z := ⟨_, rfl⟩
  have HZ0 := Lib.hid hz0
  clear hz0
  obtain ⟨z1, hz1⟩ : ∃ z, rsB d m s = z := ⟨_, rfl⟩
  have HZ1 := Lib.hid hz1
  clear hz1
  go_enter Try.func7, Try.ntmps7
  go_wp2_with fail
  refine (specRankOfSmooth_any _ _ s _ (by omega)).mono ?_
  rw [HZ0.out, HZ1.out]
  rintro e w1 ⟨rfl, hb⟩
  have hsz_w1 := hb.size
  have X_w1 := Lib.hid (bel_call (Below.refl w.heap.size w) hb)
  clear hb
  go_wp2_with fail
  refine (rankOfSmooth_any _ _ s _ (by omega)).mono ?_
  rw [HZ0.out, HZ1.out]
  rintro e w2 ⟨rfl, hb⟩
  have hsz_w2 := hb.size
  have X_w2 := Lib.hid (bel_call X_w1.out hb)
  clear hb
  go_wp2_with fail
  go_ret
  exact ⟨rfl, X_w2.out⟩

set_option maxRecDepth 100000 in
theorem lifted (os : Os) (started : os.Started) (H : Type) (enc : TypeId × Value → H) :
    ReturnsInHanded {} Try.checked os 7 .any (Rows.fnExactRankOfSmoothSpec.pre6 enc Try.prog Try.f7 Rows.fnExactRankOfSmoothRow.domain false) (Rows.fnExactRankOfSmoothSpec.post enc Try.prog Try.f7 false true false false) := by
  refine returnsInHanded_of_change (C := Try.checked) Try.own started (by kernel_rfl) Try.func7
    (ChangeSpec.witness6 (enc := enc) (C := Try.checked) false ⟨#[], #[.int .i64 0, .int .i64 0, .string ByteArray.empty], []⟩ 8 (by kernel_rfl) (by kernel_rfl) (by kernel_rfl) (by kernel_rfl)) ?_
  intro W base args ds gs before hval0 hW _ _
  have hval : ∀ (j : Nat) t v, Try.f7.params[j]? = some t → args[j]? = some v → Value.okWide Try.prog W .any base t v := hval0
  have hW' := hW
  obtain ⟨p, q, hA0, hV, rfl, _, _⟩ := hW
  have hA : DataW.TrodAll enc Try.prog W 0 (fun _ => true) true Try.f7.params.toList args.toList ds p := hA0
  rw [Try.params7] at hA hval
  obtain ⟨v0, vs0, d0, ds0, p0, q0, hargs, rfl, rfl, h0, r0⟩ := trodAll_cons hA
  obtain ⟨v1, vs1, d1, ds1, p1, q1, rfl, rfl, rfl, h1, r1⟩ := trodAll_cons r0
  obtain ⟨v2, vs2, d2, ds2, p2, q2, rfl, rfl, rfl, h2, r2⟩ := trodAll_cons r1
  obtain ⟨rfl, rfl, rfl⟩ := trodAll_nil r2
  obtain rfl : args = #[v0, v1, v2] := by cases args; simp_all
  obtain ⟨rfl, rfl⟩ := trodVars_none hV
  have t0 := h0
  have lt0 : ∀ x ∈ p0, x.block < W.heap.size := by obtain ⟨m, hm⟩ := t0; exact DataW.trod_lt m _ _ _ hm
  have t0' := h0
  have t1 := h1
  have lt1 : ∀ x ∈ p1, x.block < W.heap.size := by obtain ⟨m, hm⟩ := t1; exact DataW.trod_lt m _ _ _ hm
  have t1' := h1
  have t2 := h2
  have lt2 : ∀ x ∈ p2, x.block < W.heap.size := by obtain ⟨m, hm⟩ := t2; exact DataW.trod_lt m _ _ _ hm
  have t2' := h2
  obtain ⟨x0, rfl, _, _, k0⟩ := open_int Try.underlying3 (hval 0 3 v0 rfl rfl) t0'
  obtain ⟨x1, rfl, _, _, k1⟩ := open_int Try.underlying3 (hval 1 3 v1 rfl rfl) t1'
  obtain ⟨x2, rfl, _, _, k2⟩ := open_string Try.underlying9 (hval 2 9 v2 rfl rfl) t2'
  clear hA0 hval0
  refine (lawRankOfSmooth_true x0 k0 x1 k1 x2 k2 W).mono fun e W' ⟨he, bel⟩ => ?_
  subst he
  exact ⟨_, rfl, _, _, _, [], _, [], hW', trodAll_mk1 (shut_bool Try.underlying4 _), (trodAll_cons_mk (Below.trod Try.laidOut (by kernel_rfl) (of_decide_eq_true (by kernel_rfl)) h0 bel lt0) (trodAll_cons_mk (Below.trod Try.laidOut (by kernel_rfl) (of_decide_eq_true (by kernel_rfl)) h1 bel lt1) (trodAll_cons_mk (Below.trod Try.laidOut (by kernel_rfl) (of_decide_eq_true (by kernel_rfl)) h2 bel lt2) trodAll_mk0))), rfl, bel.frame _, fun h => by cases h⟩

set_option maxRecDepth 100000 in
theorem jf : joinedFacts Try.pinned.checked.prog 7 Try.f7 Rows.fnExactRankOfSmoothSpec Rows.fnExactRankOfSmoothRow = true := by
  unfold joinedFacts
  rw [whole_all.1, whole_all.2.1, whole_all.2.2]
  kernel_rfl

theorem over : Rows.fnExactRankOfSmoothRow.holds Try.pinned (OpenSpec.ofChange Rows.fnExactRankOfSmoothSpec) :=
  OpenClaim.holds_of_wide 7 Try.f7 rfl rfl rfl rfl rfl rfl rfl ⟨rfl, rfl, rfl, rfl, rfl⟩ rfl rfl rfl rfl rfl (by kernel_rfl) Try.func7 jf
    (of_decide_eq_true (by kernel_rfl)) (by unfold Func.isWrapper; rw [if_neg (of_decide_eq_false (by kernel_rfl))]; exact ⟨rfl, rfl⟩)
    (fun os started H enc _ => lifted os started H enc)

theorem proved : Rows.FnExactRankOfSmoothSaid := over
end Go.Proofs.Ytbfildegnbbinaa.fnExactRankOfSmooth
