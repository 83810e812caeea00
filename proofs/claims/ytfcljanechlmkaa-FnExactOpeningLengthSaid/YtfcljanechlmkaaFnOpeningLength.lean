/- For every input at which the law FnExactOpeningLength can be called it answers true and leaves its arguments as they were. No conditions. -/
import Derived.Test.YtfcljanechlmkaaYn
import Derived.Test.YtfcljanechlmkaaOpenGears
import Derived.Test.YtfcljanechlmkaaFacts
namespace Go.Proofs.Ytfcljanechlmkaa.fnExactOpeningLength
open Go.ChangeShapes Go.WideShapes Go.ChangeAt Go.RowKit Go.Joins
open Go.ChangeMaps (open_string shut_string)

set_option maxHeartbeats 4000000 in
theorem lawOpeningLength_true (m : Int) (w_m : (Lit.int .i64 m).wf = true) (s : Int) (w_s : (Lit.int .i64 s).wf = true) (Ax : Option Addr) (nx cx : Nat) (xx : List Int) {w : World} (hx : IntsA w Ax nx xx) (lx : nx ≤ maxLen) (_ : World) :
    Calls Try.prog 6 #[.int .i64 m, .int .i64 s, .slice Ax nx cx] w fun e w' => e = .returned (.bool true) ∧ Below w.heap.size w w' := by
  have hb_m := bd_i64 w_m
  clear w_m
  have hb_s := bd_i64 w_s
  clear w_s
  have HIx := Lib.hid hx
  have HNx := hx.len
  unfold maxLen at lx
  clear hx
  by_cases hlx : 1048576 < nx
  · go_enter Try.func6, Try.ntmps6
    go_wp2_with fail
    go_ret
    exact ⟨rfl, Below.refl _ _⟩
  have hmx : nx ≤ 1048576 := by omega
  clear hlx
  obtain ⟨z0, hz0⟩ : ∃ z, olZ m s xx = z := ⟨_, rfl⟩
  have HZ0 := Lib.hid hz0
  clear hz0
  obtain ⟨z1, hz1⟩ : ∃ z, opB m s xx = z := ⟨_, rfl⟩
  have HZ1 := Lib.hid hz1
  clear hz1
  go_enter Try.func6, Try.ntmps6
  go_wp2_with fail
  refine (toIntS_any _ _ _ xx _ hmx (HIx.out.below (Below.refl w.heap.size w))).mono ?_
  rintro e w1 ⟨rfl, hC, hb⟩
  have hsz_w1 := hb.size
  have X_w1 := Lib.hid (bel_call (Below.refl w.heap.size w) hb)
  have Sx := Lib.hid hC
  have hg_Sx := hC.lt
  clear hC hb
  obtain ⟨g_Sx, hge⟩ : ∃ g, w.heap.size = g := ⟨_, rfl⟩
  rw [hge] at Sx hg_Sx ⊢
  have he_Sx := hge
  clear hge
  go_wp2_with fail
  refine (specLength_any _ _ _ _ _ xx _ hb_m hmx (IntsA.of_cells HNx Sx.out)).mono ?_
  rw [HZ0.out, HZ1.out]
  rintro e w2 ⟨rfl, hb⟩
  have hsz_w2 := hb.size
  have Sx_w2 := Lib.hid (Sx.out.call hb)
  clear Sx
  have X_w2 := Lib.hid (bel_call X_w1.out hb)
  clear hb
  go_wp2_with fail
  clear Sx_w2
  refine (toIntS_any _ _ _ xx _ hmx (HIx.out.below X_w2.out)).mono ?_
  rintro e w3 ⟨rfl, hC, hb⟩
  have hsz_w3 := hb.size
  have X_w3 := Lib.hid (bel_call X_w2.out hb)
  have Px := Lib.hid hC
  have hg_Px := hC.lt
  clear hC hb
  obtain ⟨g_Px, hge⟩ : ∃ g, w2.heap.size = g := ⟨_, rfl⟩
  rw [hge] at Px hg_Px ⊢
  have he_Px := hge
  clear hge
  go_wp2_with fail
  refine (length_any _ _ _ _ _ xx _ hmx (IntsA.of_cells HNx Px.out)).mono ?_
  rw [HZ0.out, HZ1.out]
  rintro e w4 ⟨rfl, hb⟩
  have hsz_w4 := hb.size
  have Px_w4 := Lib.hid (Px.out.call hb)
  clear Px
  have X_w4 := Lib.hid (bel_call X_w3.out hb)
  clear hb
  go_wp2_with fail
  refine (toIntS_any _ _ _ xx _ hmx (HIx.out.below X_w4.out)).mono ?_
  rintro e w5 ⟨rfl, hC, hb⟩
  have hsz_w5 := hb.size
  have Px_w5 := Lib.hid (Px_w4.out.call hb)
  clear Px_w4
  have X_w5 := Lib.hid (bel_call X_w4.out hb)
  have Rx := Lib.hid hC
  have hg_Rx := hC.lt
  clear hC hb
  obtain ⟨g_Rx, hge⟩ : ∃ g, w4.heap.size = g := ⟨_, rfl⟩
  rw [hge] at Rx hg_Rx ⊢
  have he_Rx := hge
  clear hge
  go_wp2_with fail
  refine (eqIntS_any _ _ _ _ _ xx _ hmx (IntsA.of_cells HNx Px_w5.out) (IntsA.of_cells HNx Rx.out)).mono ?_
  rintro e w6 ⟨rfl, hb⟩
  have hsz_w6 := hb.size
  have Px_w6 := Lib.hid (Px_w5.out.call hb)
  clear Px_w5
  have Rx_w6 := Lib.hid (Rx.out.call hb)
  clear Rx
  have X_w6 := Lib.hid (bel_call X_w5.out hb)
  clear hb
  go_wp2_with fail
  clear Rx_w6
  go_ret
  exact ⟨rfl, X_w6.out⟩

set_option maxRecDepth 100000 in
theorem lifted (os : Os) (started : os.Started) (H : Type) (enc : TypeId × Value → H) :
    ReturnsInHanded {} Try.checked os 6 .any (Rows.fnExactOpeningLengthSpec.pre6 enc Try.prog Try.f6 Rows.fnExactOpeningLengthRow.domain false) (Rows.fnExactOpeningLengthSpec.post enc Try.prog Try.f6 false true false false) := by
  refine returnsInHanded_of_change (C := Try.checked) Try.own started (by kernel_rfl) Try.func6
    (ChangeSpec.witness6 (enc := enc) (C := Try.checked) false ⟨#[], #[.int .i64 0, .int .i64 0, .slice none 0 0], []⟩ 8 (by kernel_rfl) (by kernel_rfl) (by kernel_rfl) (by kernel_rfl)) ?_
  intro W base args ds gs before hval0 hW _ _
  have hval : ∀ (j : Nat) t v, Try.f6.params[j]? = some t → args[j]? = some v → Value.okWide Try.prog W .any base t v := hval0
  have hW' := hW
  obtain ⟨p, q, hA0, hV, rfl, _, _⟩ := hW
  have hA : DataW.TrodAll enc Try.prog W 0 (fun _ => true) true Try.f6.params.toList args.toList ds p := hA0
  rw [Try.params6] at hA hval
  obtain ⟨v0, vs0, d0, ds0, p0, q0, hargs, rfl, rfl, h0, r0⟩ := trodAll_cons hA
  obtain ⟨v1, vs1, d1, ds1, p1, q1, rfl, rfl, rfl, h1, r1⟩ := trodAll_cons r0
  obtain ⟨v2, vs2, d2, ds2, p2, q2, rfl, rfl, rfl, h2, r2⟩ := trodAll_cons r1
  obtain ⟨rfl, rfl, rfl⟩ := trodAll_nil r2
  obtain rfl : args = #[v0, v1, v2] := by cases args; simp_all
  obtain ⟨rfl, rfl⟩ := trodVars_none hV
  have t0 := h0
  have lt0 : ∀ x ∈ p0, x.block < W.heap.size := by obtain ⟨m, hm⟩ := t0; exact DataW.trod_lt m _ _ _ hm
  have t0' := h0
  have t1 := h1
  have lt1 : ∀ x ∈ p1, x.block < W.heap.size := by obtain ⟨m, hm⟩ := t1; exact DataW.trod_lt m _ _ _ hm
  have t1' := h1
  have t2 := h2
  have lt2 : ∀ x ∈ p2, x.block < W.heap.size := by obtain ⟨m, hm⟩ := t2; exact DataW.trod_lt m _ _ _ hm
  have t2' := h2
  obtain ⟨x0, rfl, _, _, k0⟩ := open_int Try.underlying3 (hval 0 3 v0 rfl rfl) t0'
  obtain ⟨x1, rfl, _, _, k1⟩ := open_int Try.underlying3 (hval 1 3 v1 rfl rfl) t1'
  obtain ⟨x2a, x2n, x2c, x2x, rfl, k2, l2⟩ := open_intsA (hval 2 22 v2 rfl rfl) t2'
  clear hA0 hval0
  refine (lawOpeningLength_true x0 k0 x1 k1 x2a x2n x2c x2x k2 l2 W).mono fun e W' ⟨he, bel⟩ => ?_
  subst he
  exact ⟨_, rfl, _, _, _, [], _, [], hW', trodAll_mk1 (shut_bool Try.underlying4 _), (trodAll_cons_mk (Below.trod Try.laidOut (by kernel_rfl) (of_decide_eq_true (by kernel_rfl)) h0 bel lt0) (trodAll_cons_mk (Below.trod Try.laidOut (by kernel_rfl) (of_decide_eq_true (by kernel_rfl)) h1 bel lt1) (trodAll_cons_mk (Below.trod Try.laidOut (by kernel_rfl) (of_decide_eq_true (by kernel_rfl)) h2 bel lt2) trodAll_mk0))), rfl, bel.frame _, fun h => by cases h⟩

set_option maxRecDepth 100000 in
theorem jf : joinedFacts Try.pinned.checked.prog 6 Try.f6 Rows.fnExactOpeningLengthSpec Rows.fnExactOpeningLengthRow = true := by
  unfold joinedFacts
  rw [whole_all.1, whole_all.2.1, whole_all.2.2]
  kernel_rfl

theorem over : Rows.fnExactOpeningLengthRow.holds Try.pinned (OpenSpec.ofChange Rows.fnExactOpeningLengthSpec) :=
  OpenClaim.holds_of_wide 6 Try.f6 rfl rfl rfl rfl rfl rfl rfl ⟨rfl, rfl, rfl, rfl, rfl⟩ rfl rfl rfl rfl rfl (by kernel_rfl) Try.func6 jf
    (of_decide_eq_true (by kernel_rfl)) (by unfold Func.isWrapper; rw [if_neg (of_decide_eq_false (by kernel_rfl))]; exact ⟨rfl, rfl⟩)
    (fun os started H enc _ => lifted os started H enc)

theorem proved : Rows.FnExactOpeningLengthSaid := over
end Go.Proofs.Ytfcljanechlmkaa.fnExactOpeningLength
