/- For every input at which the law FnExactAreClose can be called it answers true and leaves its arguments as they were. No conditions. -/
import Derived.Test.YtfcljanechlmkaaYj
import Derived.Test.YtfcljanechlmkaaOpenGears
import Derived.Test.YtfcljanechlmkaaFacts
namespace Go.Proofs.Ytfcljanechlmkaa.fnExactAreClose
open Go.ChangeShapes Go.WideShapes Go.ChangeAt Go.RowKit Go.Joins
open Go.ChangeMaps (open_string shut_string)

set_option maxHeartbeats 4000000 in
theorem lawAreClose_true (m : Int) (w_m : (Lit.int .i64 m).wf = true) (k : Int) (w_k : (Lit.int .i64 k).wf = true) (Ax : Option Addr) (nx cx : Nat) (xx : List Int) {w : World} (hx : IntsA w Ax nx xx) (lx : nx ≤ maxLen) (Ay : Option Addr) (ny cy : Nat) (xy : List Int) (hy : IntsA w Ay ny xy) (ly : ny ≤ maxLen) (_ : World) :
    Calls Try.prog 15 #[.int .i64 m, .int .i64 k, .slice Ax nx cx, .slice Ay ny cy] w fun e w' => e = .returned (.bool true) ∧ Below w.heap.size w w' := by
  have hb_m := bd_i64 w_m
  clear w_m
  have hb_k := bd_i64 w_k
  clear w_k
  have HIx := Lib.hid hx
  have HNx := hx.len
  unfold maxLen at lx
  clear hx
  have HIy := Lib.hid hy
  have HNy := hy.len
  unfold maxLen at ly
  clear hy
  by_cases hlx : 1048576 < nx
  · go_enter Try.func15, Try.ntmps15
    go_wp2_with fail
    go_ret
    exact ⟨rfl, Below.refl _ _⟩
  have hmx : nx ≤ 1048576 := by omega
  clear hlx
  by_cases hly : 1048576 < ny
  · go_enter Try.func15, Try.ntmps15
    go_wp2_with fail
    go_ret
    exact ⟨rfl, Below.refl _ _⟩
  have hmy : ny ≤ 1048576 := by omega
  clear hly
  obtain ⟨z0, hz0⟩ : ∃ z, acZ m k xx xy = z := ⟨_, rfl⟩
  have HZ0 := Lib.hid hz0
  clear hz0
  obtain ⟨z1, hz1⟩ : ∃ z, acB m k xx xy = z := ⟨_, rfl⟩
  have HZ1 := Lib.hid hz1
  clear hz1
  go_enter Try.func15, Try.ntmps15
  go_wp2_with fail
  refine (toIntS_any _ _ _ xx _ hmx (HIx.out.below (Below.refl w.heap.size w))).mono ?_
  rintro e w1 ⟨rfl, hC, hb⟩
  have hsz_w1 := hb.size
  have X_w1 := Lib.hid (bel_call (Below.refl w.heap.size w) hb)
  have Sx := Lib.hid hC
  have hg_Sx := hC.lt
  clear hC hb
  obtain ⟨g_Sx, hge⟩ : ∃ g, w.heap.size = g := ⟨_, rfl⟩
  rw [hge] at Sx hg_Sx ⊢
  have he_Sx := hge
  clear hge
  go_wp2_with fail
  refine (toIntS_any _ _ _ xy _ hmy (HIy.out.below X_w1.out)).mono ?_
  rintro e w2 ⟨rfl, hC, hb⟩
  have hsz_w2 := hb.size
  have Sx_w2 := Lib.hid (Sx.out.call hb)
  clear Sx
  have X_w2 := Lib.hid (bel_call X_w1.out hb)
  have Sy := Lib.hid hC
  have hg_Sy := hC.lt
  clear hC hb
  obtain ⟨g_Sy, hge⟩ : ∃ g, w1.heap.size = g := ⟨_, rfl⟩
  rw [hge] at Sy hg_Sy ⊢
  have he_Sy := hge
  clear hge
  go_wp2_with fail
  refine (specAreClose_any _ _ _ _ _ _ _ _ xx xy _ hmx hmy (IntsA.of_cells HNx Sx_w2.out) (IntsA.of_cells HNy Sy.out)).mono ?_
  rw [HZ0.out, HZ1.out]
  rintro e w3 ⟨rfl, hb⟩
  have hsz_w3 := hb.size
  have Sx_w3 := Lib.hid (Sx_w2.out.call hb)
  clear Sx_w2
  have Sy_w3 := Lib.hid (Sy.out.call hb)
  clear Sy
  have X_w3 := Lib.hid (bel_call X_w2.out hb)
  clear hb
  go_wp2_with fail
  clear Sx_w3
  clear Sy_w3
  refine (toIntS_any _ _ _ xx _ hmx (HIx.out.below X_w3.out)).mono ?_
  rintro e w4 ⟨rfl, hC, hb⟩
  have hsz_w4 := hb.size
  have X_w4 := Lib.hid (bel_call X_w3.out hb)
  have Px := Lib.hid hC
  have hg_Px := hC.lt
  clear hC hb
  obtain ⟨g_Px, hge⟩ : ∃ g, w3.heap.size = g := ⟨_, rfl⟩
  rw [hge] at Px hg_Px ⊢
  have he_Px := hge
  clear hge
  go_wp2_with fail
  refine (toIntS_any _ _ _ xy _ hmy (HIy.out.below X_w4.out)).mono ?_
  rintro e w5 ⟨rfl, hC, hb⟩
  have hsz_w5 := hb.size
  have Px_w5 := Lib.hid (Px.out.call hb)
  clear Px
  have X_w5 := Lib.hid (bel_call X_w4.out hb)
  have Py := Lib.hid hC
  have hg_Py := hC.lt
  clear hC hb
  obtain ⟨g_Py, hge⟩ : ∃ g, w4.heap.size = g := ⟨_, rfl⟩
  rw [hge] at Py hg_Py ⊢
  have he_Py := hge
  clear hge
  go_wp2_with fail
  refine (areClose_any _ _ _ _ _ _ _ _ xx xy _ hmx hmy (IntsA.of_cells HNx Px_w5.out) (IntsA.of_cells HNy Py.out)).mono ?_
  rw [HZ0.out, HZ1.out]
  rintro e w6 ⟨rfl, hb⟩
  have hsz_w6 := hb.size
  have Px_w6 := Lib.hid (Px_w5.out.call hb)
  clear Px_w5
  have Py_w6 := Lib.hid (Py.out.call hb)
  clear Py
  have X_w6 := Lib.hid (bel_call X_w5.out hb)
  clear hb
  go_wp2_with fail
  refine (toIntS_any _ _ _ xx _ hmx (HIx.out.below X_w6.out)).mono ?_
  rintro e w7 ⟨rfl, hC, hb⟩
  have hsz_w7 := hb.size
  have Px_w7 := Lib.hid (Px_w6.out.call hb)
  clear Px_w6
  have Py_w7 := Lib.hid (Py_w6.out.call hb)
  clear Py_w6
  have X_w7 := Lib.hid (bel_call X_w6.out hb)
  have Rx := Lib.hid hC
  have hg_Rx := hC.lt
  clear hC hb
  obtain ⟨g_Rx, hge⟩ : ∃ g, w6.heap.size = g := ⟨_, rfl⟩
  rw [hge] at Rx hg_Rx ⊢
  have he_Rx := hge
  clear hge
  go_wp2_with fail
  refine (eqIntS_any _ _ _ _ _ xx _ hmx (IntsA.of_cells HNx Px_w7.out) (IntsA.of_cells HNx Rx.out)).mono ?_
  rintro e w8 ⟨rfl, hb⟩
  have hsz_w8 := hb.size
  have Px_w8 := Lib.hid (Px_w7.out.call hb)
  clear Px_w7
  have Py_w8 := Lib.hid (Py_w7.out.call hb)
  clear Py_w7
  have Rx_w8 := Lib.hid (Rx.out.call hb)
  clear Rx
  have X_w8 := Lib.hid (bel_call X_w7.out hb)
  clear hb
  go_wp2_with fail
  clear Rx_w8
  refine (toIntS_any _ _ _ xy _ hmy (HIy.out.below X_w8.out)).mono ?_
  rintro e w9 ⟨rfl, hC, hb⟩
  have hsz_w9 := hb.size
  have Px_w9 := Lib.hid (Px_w8.out.call hb)
  clear Px_w8
  have Py_w9 := Lib.hid (Py_w8.out.call hb)
  clear Py_w8
  have X_w9 := Lib.hid (bel_call X_w8.out hb)
  have Ry := Lib.hid hC
  have hg_Ry := hC.lt
  clear hC hb
  obtain ⟨g_Ry, hge⟩ : ∃ g, w8.heap.size = g := ⟨_, rfl⟩
  rw [hge] at Ry hg_Ry ⊢
  have he_Ry := hge
  clear hge
  go_wp2_with fail
  refine (eqIntS_any _ _ _ _ _ xy _ hmy (IntsA.of_cells HNy Py_w9.out) (IntsA.of_cells HNy Ry.out)).mono ?_
  rintro e w10 ⟨rfl, hb⟩
  have hsz_w10 := hb.size
  have Px_w10 := Lib.hid (Px_w9.out.call hb)
  clear Px_w9
  have Py_w10 := Lib.hid (Py_w9.out.call hb)
  clear Py_w9
  have Ry_w10 := Lib.hid (Ry.out.call hb)
  clear Ry
  have X_w10 := Lib.hid (bel_call X_w9.out hb)
  clear hb
  go_wp2_with fail
  clear Ry_w10
  go_ret
  exact ⟨rfl, X_w10.out⟩

set_option maxRecDepth 100000 in
theorem lifted (os : Os) (started : os.Started) (H : Type) (enc : TypeId × Value → H) :
    ReturnsInHanded {} Try.checked os 15 .any (Rows.fnExactAreCloseSpec.pre6 enc Try.prog Try.f15 Rows.fnExactAreCloseRow.domain false) (Rows.fnExactAreCloseSpec.post enc Try.prog Try.f15 false true false false) := by
  refine returnsInHanded_of_change (C := Try.checked) Try.own started (by kernel_rfl) Try.func15
    (ChangeSpec.witness6 (enc := enc) (C := Try.checked) false ⟨#[], #[.int .i64 0, .int .i64 0, .slice none 0 0, .slice none 0 0], []⟩ 8 (by kernel_rfl) (by kernel_rfl) (by kernel_rfl) (by kernel_rfl)) ?_
  intro W base args ds gs before hval0 hW _ _
  have hval : ∀ (j : Nat) t v, Try.f15.params[j]? = some t → args[j]? = some v → Value.okWide Try.prog W .any base t v := hval0
  have hW' := hW
  obtain ⟨p, q, hA0, hV, rfl, _, _⟩ := hW
  have hA : DataW.TrodAll enc Try.prog W 0 (fun _ => true) true Try.f15.params.toList args.toList ds p := hA0
  rw [Try.params15] at hA hval
  obtain ⟨v0, vs0, d0, ds0, p0, q0, hargs, rfl, rfl, h0, r0⟩ := trodAll_cons hA
  obtain ⟨v1, vs1, d1, ds1, p1, q1, rfl, rfl, rfl, h1, r1⟩ := trodAll_cons r0
  obtain ⟨v2, vs2, d2, ds2, p2, q2, rfl, rfl, rfl, h2, r2⟩ := trodAll_cons r1
  obtain ⟨v3, vs3, d3, ds3, p3, q3, rfl, rfl, rfl, h3, r3⟩ := trodAll_cons r2
  obtain ⟨rfl, rfl, rfl⟩ := trodAll_nil r3
  obtain rfl : args = #[v0, v1, v2, v3] := by cases args; simp_all
  obtain ⟨rfl, rfl⟩ := trodVars_none hV
  have t0 := h0
  have lt0 : ∀ x ∈ p0, x.block < W.heap.size := by obtain ⟨m, hm⟩ := t0; exact DataW.trod_lt m _ _ _ hm
  have t0' := h0
  have t1 := h1
  have lt1 : ∀ x ∈ p1, x.block < W.heap.size := by obtain ⟨m, hm⟩ := t1; exact DataW.trod_lt m _ _ _ hm
  have t1' := h1
  have t2 := h2
  have lt2 : ∀ x ∈ p2, x.block < W.heap.size := by obtain ⟨m, hm⟩ := t2; exact DataW.trod_lt m _ _ _ hm
  have t2' := h2
  have t3 := h3
  have lt3 : ∀ x ∈ p3, x.block < W.heap.size := by obtain ⟨m, hm⟩ := t3; exact DataW.trod_lt m _ _ _ hm
  have t3' := h3
  obtain ⟨x0, rfl, _, _, k0⟩ := open_int Try.underlying3 (hval 0 3 v0 rfl rfl) t0'
  obtain ⟨x1, rfl, _, _, k1⟩ := open_int Try.underlying3 (hval 1 3 v1 rfl rfl) t1'
  obtain ⟨x2a, x2n, x2c, x2x, rfl, k2, l2⟩ := open_intsA (hval 2 22 v2 rfl rfl) t2'
  obtain ⟨x3a, x3n, x3c, x3x, rfl, k3, l3⟩ := open_intsA (hval 3 22 v3 rfl rfl) t3'
  clear hA0 hval0
  refine (lawAreClose_true x0 k0 x1 k1 x2a x2n x2c x2x k2 l2 x3a x3n x3c x3x k3 l3 W).mono fun e W' ⟨he, bel⟩ => ?_
  subst he
  exact ⟨_, rfl, _, _, _, [], _, [], hW', trodAll_mk1 (shut_bool Try.underlying4 _), (trodAll_cons_mk (Below.trod Try.laidOut (by kernel_rfl) (of_decide_eq_true (by kernel_rfl)) h0 bel lt0) (trodAll_cons_mk (Below.trod Try.laidOut (by kernel_rfl) (of_decide_eq_true (by kernel_rfl)) h1 bel lt1) (trodAll_cons_mk (Below.trod Try.laidOut (by kernel_rfl) (of_decide_eq_true (by kernel_rfl)) h2 bel lt2) (trodAll_cons_mk (Below.trod Try.laidOut (by kernel_rfl) (of_decide_eq_true (by kernel_rfl)) h3 bel lt3) trodAll_mk0)))), rfl, bel.frame _, fun h => by cases h⟩

set_option maxRecDepth 100000 in
theorem jf : joinedFacts Try.pinned.checked.prog 15 Try.f15 Rows.fnExactAreCloseSpec Rows.fnExactAreCloseRow = true := by
  unfold joinedFacts
  rw [whole_all.1, whole_all.2.1, whole_all.2.2]
  kernel_rfl

theorem over : Rows.fnExactAreCloseRow.holds Try.pinned (OpenSpec.ofChange Rows.fnExactAreCloseSpec) :=
  OpenClaim.holds_of_wide 15 Try.f15 rfl rfl rfl rfl rfl rfl rfl ⟨rfl, rfl, rfl, rfl, rfl⟩ rfl rfl rfl rfl rfl (by kernel_rfl) Try.func15 jf
    (of_decide_eq_true (by kernel_rfl)) (by unfold Func.isWrapper; rw [if_neg (of_decide_eq_false (by kernel_rfl))]; exact ⟨rfl, rfl⟩)
    (fun os started H enc _ => lifted os started H enc)

theorem proved : Rows.FnExactAreCloseSaid := over
end Go.Proofs.Ytfcljanechlmkaa.fnExactAreClose
