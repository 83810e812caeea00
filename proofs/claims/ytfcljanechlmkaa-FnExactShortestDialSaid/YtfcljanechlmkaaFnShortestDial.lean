/- For every input at which the law FnExactShortestDial can be called it answers true and leaves its arguments as they were. No conditions. -/
import Derived.Test.YtfcljanechlmkaaYv
import Derived.Test.YtfcljanechlmkaaFacts
namespace Go.Proofs.Ytfcljanechlmkaa.fnExactShortestDial
open Go.ChangeShapes Go.WideShapes Go.ChangeAt Go.RowKit Go.Joins
open Go.ChangeMaps (open_string shut_string)

set_option maxHeartbeats 4000000 in
theorem lawShortestDial_true (m : Int) (w_m : (Lit.int .i64 m).wf = true) (s : Int) (w_s : (Lit.int .i64 s).wf = true) (n : Int) (w_n : (Lit.int .i64 n).wf = true) (w : World) :
    Calls Try.prog 9 #[.int .i64 m, .int .i64 s, .int .i64 n] w fun e w' => e = .returned (.bool true) ∧ Below w.heap.size w w' := by
  have hb_m := bd_i64 w_m
  clear w_m
  have hb_s := bd_i64 w_s
  clear w_s
  have hb_n := bd_i64 w_n
  clear w_n
  obtain ⟨z0, hz0⟩ : ∃ z, beZ true m s n = z := ⟨_, rfl⟩
  have HZ0 := Lib.hid hz0
  clear hz0
  obtain ⟨z1, hz1⟩ : ∃ z, beF true m s n = z := ⟨_, rfl⟩
  have HZ1 := Lib.hid hz1
  clear hz1
  obtain ⟨z2, hz2⟩ : ∃ z, fwB m s n = z := ⟨_, rfl⟩
  have HZ2 := Lib.hid hz2
  clear hz2
  go_enter Try.func9, Try.ntmps9
  go_wp2_with fail
  refine (specShortest_any _ _ _ _ hb_m).mono ?_
  intro e w1 hh
  obtain ⟨A_K0, c_K0, rfl, hk, hb⟩ := hh.li
  rw [HZ0.out] at hk
  rw [HZ0.out, HZ1.out, HZ2.out]
  have hsz_w1 := hb.size
  have X_w1 := Lib.hid (bel_call (Below.refl w.heap.size w) hb)
  clear hb
  have K0 := Lib.hid hk
  clear hk hh
  obtain ⟨lo_K0, hlo⟩ : ∃ g, w.heap.size = g := ⟨_, rfl⟩
  obtain ⟨hi_K0, hhi⟩ : ∃ g, w1.heap.size = g := ⟨_, rfl⟩
  rw [hlo, hhi] at K0
  have hle_K0 : lo_K0 = w.heap.size ∧ hi_K0 = w1.heap.size := ⟨hlo.symm, hhi.symm⟩
  clear hlo hhi
  go_wp2_with fail
  refine (shortest_any _ _ _ _).mono ?_
  intro e w2 hh
  obtain ⟨A_K1, c_K1, rfl, hk, hb⟩ := hh.li
  rw [HZ0.out] at hk
  rw [HZ0.out, HZ1.out, HZ2.out]
  have hsz_w2 := hb.size
  have K0_w2 := Lib.hid (K0.out.call hb)
  clear K0
  have X_w2 := Lib.hid (bel_call X_w1.out hb)
  clear hb
  have K1 := Lib.hid hk
  clear hk hh
  obtain ⟨lo_K1, hlo⟩ : ∃ g, w1.heap.size = g := ⟨_, rfl⟩
  obtain ⟨hi_K1, hhi⟩ : ∃ g, w2.heap.size = g := ⟨_, rfl⟩
  rw [hlo, hhi] at K1
  have hle_K1 : lo_K1 = w1.heap.size ∧ hi_K1 = w2.heap.size := ⟨hlo.symm, hhi.symm⟩
  clear hlo hhi
  go_wp2_with fail
  refine (eqLI_any _ _ _ _ _ _ _ _ _ _ K1.out K0_w2.out).mono ?_
  rintro e w3 ⟨rfl, hb⟩
  have hsz_w3 := hb.size
  have K0_w3 := Lib.hid (K0_w2.out.call hb)
  clear K0_w2
  have K1_w3 := Lib.hid (K1.out.call hb)
  clear K1
  have X_w3 := Lib.hid (bel_call X_w2.out hb)
  clear hb
  go_wp2_with fail
  refine (markLI_any _ _ _ _ _ _ K1_w3.out).mono ?_
  rintro e w4 ⟨rfl, hM, hsz_w4, hB⟩
  have KM := Lib.hid hM
  have K0_w4 := Lib.hid (K0_w3.out.below (hB lo_K1 (Nat.le_refl _)) (by omega))
  clear K0_w3
  have X_w4 := Lib.hid ((X_w3.out).trans (hB w.heap.size (by omega)))
  clear hB hM
  go_wp2_with fail
  refine (heldLI_any _ _ _ _ _ _ KM.out).mono ?_
  rintro e w5 ⟨rfl, hb⟩
  have hsz_w5 := hb.size
  have K0_w5 := Lib.hid (K0_w4.out.call hb)
  clear K0_w4
  have KM_w5 := Lib.hid (KM.out.call hb)
  clear KM
  have X_w5 := Lib.hid (bel_call X_w4.out hb)
  clear hb
  go_wp2_with fail
  refine (shortest_any _ _ _ _).mono ?_
  intro e w6 hh
  obtain ⟨A_K2, c_K2, rfl, hk, hb⟩ := hh.li
  rw [HZ0.out] at hk
  rw [HZ0.out, HZ1.out, HZ2.out]
  have hsz_w6 := hb.size
  have K0_w6 := Lib.hid (K0_w5.out.call hb)
  clear K0_w5
  have KM_w6 := Lib.hid (KM_w5.out.call hb)
  clear KM_w5
  have X_w6 := Lib.hid (bel_call X_w5.out hb)
  clear hb
  have K2 := Lib.hid hk
  clear hk hh
  obtain ⟨lo_K2, hlo⟩ : ∃ g, w5.heap.size = g := ⟨_, rfl⟩
  obtain ⟨hi_K2, hhi⟩ : ∃ g, w6.heap.size = g := ⟨_, rfl⟩
  rw [hlo, hhi] at K2
  have hle_K2 : lo_K2 = w5.heap.size ∧ hi_K2 = w6.heap.size := ⟨hlo.symm, hhi.symm⟩
  clear hlo hhi
  go_wp2_with fail
  refine (eqLI_any _ _ _ _ _ _ _ _ _ _ K2.out K0_w6.out).mono ?_
  rintro e w7 ⟨rfl, hb⟩
  have hsz_w7 := hb.size
  have K0_w7 := Lib.hid (K0_w6.out.call hb)
  clear K0_w6
  have KM_w7 := Lib.hid (KM_w6.out.call hb)
  clear KM_w6
  have K2_w7 := Lib.hid (K2.out.call hb)
  clear K2
  have X_w7 := Lib.hid (bel_call X_w6.out hb)
  clear hb
  go_wp2_with fail
  refine (heldLI_any _ _ _ _ _ _ KM_w7.out).mono ?_
  rintro e w8 ⟨rfl, hb⟩
  have hsz_w8 := hb.size
  have K0_w8 := Lib.hid (K0_w7.out.call hb)
  clear K0_w7
  have KM_w8 := Lib.hid (KM_w7.out.call hb)
  clear KM_w7
  have K2_w8 := Lib.hid (K2_w7.out.call hb)
  clear K2_w7
  have X_w8 := Lib.hid (bel_call X_w7.out hb)
  clear hb
  go_wp2_with fail
  go_ret
  exact ⟨rfl, X_w8.out⟩

set_option maxRecDepth 100000 in
theorem lifted (os : Os) (started : os.Started) (H : Type) (enc : TypeId × Value → H) :
    ReturnsInHanded {} Try.checked os 9 .any (Rows.fnExactShortestDialSpec.pre6 enc Try.prog Try.f9 Rows.fnExactShortestDialRow.domain false) (Rows.fnExactShortestDialSpec.post enc Try.prog Try.f9 false true false false) := by
  refine returnsInHanded_of_change (C := Try.checked) Try.own started (by kernel_rfl) Try.func9
    (ChangeSpec.witness6 (enc := enc) (C := Try.checked) false ⟨#[], #[.int .i64 0, .int .i64 0, .int .i64 0], []⟩ 8 (by kernel_rfl) (by kernel_rfl) (by kernel_rfl) (by kernel_rfl)) ?_
  intro W base args ds gs before hval0 hW _ _
  have hval : ∀ (j : Nat) t v, Try.f9.params[j]? = some t → args[j]? = some v → Value.okWide Try.prog W .any base t v := hval0
  have hW' := hW
  obtain ⟨p, q, hA0, hV, rfl, _, _⟩ := hW
  have hA : DataW.TrodAll enc Try.prog W 0 (fun _ => true) true Try.f9.params.toList args.toList ds p := hA0
  rw [Try.params9] at hA hval
  obtain ⟨v0, vs0, d0, ds0, p0, q0, hargs, rfl, rfl, h0, r0⟩ := trodAll_cons hA
  obtain ⟨v1, vs1, d1, ds1, p1, q1, rfl, rfl, rfl, h1, r1⟩ := trodAll_cons r0
  obtain ⟨v2, vs2, d2, ds2, p2, q2, rfl, rfl, rfl, h2, r2⟩ := trodAll_cons r1
  obtain ⟨rfl, rfl, rfl⟩ := trodAll_nil r2
  obtain rfl : args = #[v0, v1, v2] := by cases args; simp_all
  obtain ⟨rfl, rfl⟩ := trodVars_none hV
  have t0 := h0
  have lt0 : ∀ x ∈ p0, x.block < W.heap.size := by obtain ⟨m, hm⟩ := t0; exact DataW.trod_lt m _ _ _ hm
  have t0' := h0
  have t1 := h1
  have lt1 : ∀ x ∈ p1, x.block < W.heap.size := by obtain ⟨m, hm⟩ := t1; exact DataW.trod_lt m _ _ _ hm
  have t1' := h1
  have t2 := h2
  have lt2 : ∀ x ∈ p2, x.block < W.heap.size := by obtain ⟨m, hm⟩ := t2; exact DataW.trod_lt m _ _ _ hm
  have t2' := h2
  obtain ⟨x0, rfl, _, _, k0⟩ := open_int Try.underlying3 (hval 0 3 v0 rfl rfl) t0'
  obtain ⟨x1, rfl, _, _, k1⟩ := open_int Try.underlying3 (hval 1 3 v1 rfl rfl) t1'
  obtain ⟨x2, rfl, _, _, k2⟩ := open_int Try.underlying3 (hval 2 3 v2 rfl rfl) t2'
  clear hA0 hval0
  refine (lawShortestDial_true x0 k0 x1 k1 x2 k2 W).mono fun e W' ⟨he, bel⟩ => ?_
  subst he
  exact ⟨_, rfl, _, _, _, [], _, [], hW', trodAll_mk1 (shut_bool Try.underlying4 _), (trodAll_cons_mk (Below.trod Try.laidOut (by kernel_rfl) (of_decide_eq_true (by kernel_rfl)) h0 bel lt0) (trodAll_cons_mk (Below.trod Try.laidOut (by kernel_rfl) (of_decide_eq_true (by kernel_rfl)) h1 bel lt1) (trodAll_cons_mk (Below.trod Try.laidOut (by kernel_rfl) (of_decide_eq_true (by kernel_rfl)) h2 bel lt2) trodAll_mk0))), rfl, bel.frame _, fun h => by cases h⟩

set_option maxRecDepth 100000 in
theorem jf : joinedFacts Try.pinned.checked.prog 9 Try.f9 Rows.fnExactShortestDialSpec Rows.fnExactShortestDialRow = true := by
  unfold joinedFacts
  rw [whole_all.1, whole_all.2.1, whole_all.2.2]
  kernel_rfl

theorem over : Rows.fnExactShortestDialRow.holds Try.pinned (OpenSpec.ofChange Rows.fnExactShortestDialSpec) :=
  OpenClaim.holds_of_wide 9 Try.f9 rfl rfl rfl rfl rfl rfl rfl ⟨rfl, rfl, rfl, rfl, rfl⟩ rfl rfl rfl rfl rfl (by kernel_rfl) Try.func9 jf
    (of_decide_eq_true (by kernel_rfl)) (by unfold Func.isWrapper; rw [if_neg (of_decide_eq_false (by kernel_rfl))]; exact ⟨rfl, rfl⟩)
    (fun os started H enc _ => lifted os started H enc)

theorem proved : Rows.FnExactShortestDialSaid := over
end Go.Proofs.Ytfcljanechlmkaa.fnExactShortestDial
