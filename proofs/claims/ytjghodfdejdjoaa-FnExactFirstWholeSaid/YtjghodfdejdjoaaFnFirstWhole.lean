/- For every input at which the law FnExactFirstWhole can be called it answers true and leaves its arguments as they were. No conditions. -/
import Derived.Test.YtjghodfdejdjoaaWQ
import Derived.Test.YtjghodfdejdjoaaMs
import Derived.Test.YtjghodfdejdjoaaFacts
namespace Go.Proofs.Ytjghodfdejdjoaa.fnExactFirstWhole
open Go.ChangeShapes Go.WideShapes Go.ChangeAt Go.RowKit Go.Joins
open Go.ChangeMaps (open_string shut_string)

set_option maxHeartbeats 4000000 in
theorem lawFirstWhole_true (a b : Int) (_ : (Lit.int .i64 a).wf = true) (_ : (Lit.int .i64 b).wf = true) (w : World) :
    Calls Try.prog 3 #[.agg #[.int .i64 a, .int .i64 b]] w fun e w' => e = .returned (.bool true) ∧ Below w.heap.size w w' := by
  obtain ⟨us, hz0⟩ : ∃ x, fwZ a b = x := ⟨_, rfl⟩
  obtain ⟨zo, hz1⟩ : ∃ x, fewB a b = x := ⟨_, rfl⟩
  have HZ0 := Lib.hid hz0
  have HZ1 := Lib.hid hz1
  clear hz0 hz1
  have X0 := Lib.hid (show Below w.heap.size w (w.alloc (.cells #[.int .i64 a, .int .i64 b] 23)) from (Below.refl _ _).alloc (Nat.le_refl _) _)
  have C0 := Lib.hid (box_new (W := w) (a := a) (b := b) (t := 23) rfl)
  go_enter Try.func3, Try.ntmps3
  go_wp2_with fail
  refine (toLock_any _ _ _).mono ?_
  rintro e w1 ⟨rfl, hb1⟩
  have C1 := Lib.hid (C0.out.call hb1)
  have X1 := Lib.hid (bel_call X0.out hb1)
  have s1 := hb1.size
  clear hb1 C0 X0
  go_wp2_with fail
  refine (specFirstWhole_any _ _ _).mono ?_
  intro e w2 h2
  obtain ⟨AK0, cK0, rfl, k0, hb2⟩ := h2.ls
  rw [HZ0.out] at k0
  rw [HZ0.out, HZ1.out]
  have K02 := Lib.hid k0
  clear k0 h2
  have C2 := Lib.hid (C1.out.call hb2)
  have X2 := Lib.hid (bel_call X1.out hb2)
  have s2 := hb2.size
  clear hb2 C1 X1
  obtain ⟨U1, hU1⟩ : ∃ U, w2.heap.size = U := ⟨_, rfl⟩
  rw [hU1] at K02
  have q0 : w.heap.size < U1 := by rw [← hU1]; exact C2.out.lt
  have l0 : w2.cell? ⟨w.heap.size, 0, none⟩ = some (.int .i64 a) := C2.out.cell (show 0 < 2 by omega)
  have l1 : w2.cell? ⟨w.heap.size, 1, none⟩ = some (.int .i64 b) := C2.out.cell (show 1 < 2 by omega)
  go_wp2_with fail
  refine (toLock_any _ _ _).mono ?_
  rintro e w3 ⟨rfl, hb3⟩
  have C3 := Lib.hid (C2.out.call hb3)
  have X3 := Lib.hid (bel_call X2.out hb3)
  have s3 := hb3.size
  have K03 := Lib.hid (K02.out.call hb3)
  clear hb3 C2 X2 K02
  clear l0 l1
  have q2 : U1 ≤ w3.heap.size := by omega
  go_wp2_with fail
  refine (firstWhole_any _ _ _).mono ?_
  intro e w4 h4
  obtain ⟨AK1, cK1, rfl, k0, hb4⟩ := h4.ls
  rw [HZ0.out] at k0
  rw [HZ0.out, HZ1.out]
  have K14 := Lib.hid k0
  clear k0 h4
  have C4 := Lib.hid (C3.out.call hb4)
  have X4 := Lib.hid (bel_call X3.out hb4)
  have s4 := hb4.size
  have K04 := Lib.hid (K03.out.call hb4)
  clear hb4 C3 X3 K03
  obtain ⟨U2, hU2⟩ : ∃ U, w3.heap.size = U := ⟨_, rfl⟩
  rw [hU2] at q2
  rw [hU2] at K14
  go_wp2_with fail
  refine (eqLS_any _ _ _ _ _ _ _ _ _ _ K14.out K04.out).mono ?_
  rintro e w5 ⟨rfl, hb5⟩
  have C5 := Lib.hid (C4.out.call hb5)
  have X5 := Lib.hid (bel_call X4.out hb5)
  have s5 := hb5.size
  have K05 := Lib.hid (K04.out.call hb5)
  have K15 := Lib.hid (K14.out.call hb5)
  clear hb5 C4 X4 K04 K14
  go_wp2_with fail
  refine (markLS_any _ _ _ _ _ _ K15.out).mono ?_
  rintro e w6 ⟨rfl, m1, s6, m2⟩
  have b1 := m2 U2 (Nat.le_refl _)
  have KM6 := Lib.hid m1
  have X6 := Lib.hid (X5.out.trans (b1.mono (by omega)))
  have C6 := Lib.hid (C5.out.below b1 (by omega))
  have K06 := Lib.hid (K05.out.below b1 (by omega))
  clear m1 m2 b1 X5 C5 K05 K15
  go_wp2_with fail
  refine (heldLS_any _ _ _ _ _ _ KM6.out).mono ?_
  rintro e w7 ⟨rfl, hb7⟩
  have C7 := Lib.hid (C6.out.call hb7)
  have X7 := Lib.hid (bel_call X6.out hb7)
  have s7 := hb7.size
  have K07 := Lib.hid (K06.out.call hb7)
  have KM7 := Lib.hid (KM6.out.call hb7)
  clear hb7 C6 X6 K06 KM6
  have l0 : w7.cell? ⟨w.heap.size, 0, none⟩ = some (.int .i64 a) := C7.out.cell (show 0 < 2 by omega)
  have l1 : w7.cell? ⟨w.heap.size, 1, none⟩ = some (.int .i64 b) := C7.out.cell (show 1 < 2 by omega)
  go_wp2_with fail
  refine (toLock_any _ _ _).mono ?_
  rintro e w8 ⟨rfl, hb8⟩
  have C8 := Lib.hid (C7.out.call hb8)
  have X8 := Lib.hid (bel_call X7.out hb8)
  have s8 := hb8.size
  have K08 := Lib.hid (K07.out.call hb8)
  have KM8 := Lib.hid (KM7.out.call hb8)
  clear hb8 C7 X7 K07 KM7
  clear l0 l1
  go_wp2_with fail
  refine (firstWhole_any _ _ _).mono ?_
  intro e w9 h9
  obtain ⟨AK4, cK4, rfl, k0, hb9⟩ := h9.ls
  rw [HZ0.out] at k0
  rw [HZ0.out, HZ1.out]
  have K49 := Lib.hid k0
  clear k0 h9
  have C9 := Lib.hid (C8.out.call hb9)
  have X9 := Lib.hid (bel_call X8.out hb9)
  have s9 := hb9.size
  have K09 := Lib.hid (K08.out.call hb9)
  have KM9 := Lib.hid (KM8.out.call hb9)
  clear hb9 C8 X8 K08 KM8
  go_wp2_with fail
  refine (eqLS_any _ _ _ _ _ _ _ _ _ _ K49.out K09.out).mono ?_
  rintro e w10 ⟨rfl, hb10⟩
  have C10 := Lib.hid (C9.out.call hb10)
  have X10 := Lib.hid (bel_call X9.out hb10)
  have s10 := hb10.size
  have KM10 := Lib.hid (KM9.out.call hb10)
  clear hb10 C9 X9 KM9
  go_wp2_with fail
  refine (heldLS_any _ _ _ _ _ _ KM10.out).mono ?_
  rintro e w11 ⟨rfl, hb11⟩
  have C11 := Lib.hid (C10.out.call hb11)
  have X11 := Lib.hid (bel_call X10.out hb11)
  have s11 := hb11.size
  clear hb11 C10 X10
  go_wp2_with fail
  go_ret
  exact ⟨rfl, X11.out⟩

set_option maxRecDepth 100000 in
theorem lifted (os : Os) (started : os.Started) (H : Type) (enc : TypeId × Value → H) :
    ReturnsInHanded {} Try.checked os 3 .any (Rows.fnExactFirstWholeSpec.pre6 enc Try.prog Try.f3 Rows.fnExactFirstWholeRow.domain false) (Rows.fnExactFirstWholeSpec.post enc Try.prog Try.f3 false true false false) := by
  refine returnsInHanded_of_change (C := Try.checked) Try.own started (by kernel_rfl) Try.func3
    (ChangeSpec.witness6 (enc := enc) (C := Try.checked) false ⟨#[], #[.agg #[.int .i64 0, .int .i64 0]], []⟩ 8 (by kernel_rfl) (by kernel_rfl) (by kernel_rfl) (by kernel_rfl)) ?_
  intro W base args ds gs before hval0 hW _ _
  have hval : ∀ (j : Nat) t v, Try.f3.params[j]? = some t → args[j]? = some v → Value.okWide Try.prog W .any base t v := hval0
  have hW' := hW
  obtain ⟨p, q, hA0, hV, rfl, _, _⟩ := hW
  have hA : DataW.TrodAll enc Try.prog W 0 (fun _ => true) true Try.f3.params.toList args.toList ds p := hA0
  rw [Try.params3] at hA hval
  obtain ⟨v0, vs0, d0, ds0, p0, q0, hargs, rfl, rfl, h0, r0⟩ := trodAll_cons hA
  obtain ⟨rfl, rfl, rfl⟩ := trodAll_nil r0
  obtain rfl : args = #[v0] := by cases args; simp_all
  obtain ⟨rfl, rfl⟩ := trodVars_none hV
  have t0 := h0
  have lt0 : ∀ x ∈ p0, x.block < W.heap.size := by obtain ⟨m, hm⟩ := t0; exact DataW.trod_lt m _ _ _ hm
  have t0' := h0
  obtain ⟨x0, x0b, rfl, k0, l0⟩ := open_lock (hval 0 23 v0 rfl rfl) t0'
  clear hA0 hval0
  refine (lawFirstWhole_true x0 x0b k0 l0 W).mono fun e W' ⟨he, bel⟩ => ?_
  subst he
  exact ⟨_, rfl, _, _, _, [], _, [], hW', trodAll_mk1 (shut_bool Try.underlying4 _), (trodAll_cons_mk (Below.trod Try.laidOut (by kernel_rfl) (of_decide_eq_true (by kernel_rfl)) h0 bel lt0) trodAll_mk0), rfl, bel.frame _, fun h => by cases h⟩

set_option maxRecDepth 100000 in
theorem jf : joinedFacts Try.pinned.checked.prog 3 Try.f3 Rows.fnExactFirstWholeSpec Rows.fnExactFirstWholeRow = true := by
  unfold joinedFacts
  rw [whole_all.1, whole_all.2.1, whole_all.2.2]
  kernel_rfl

theorem over : Rows.fnExactFirstWholeRow.holds Try.pinned (OpenSpec.ofChange Rows.fnExactFirstWholeSpec) :=
  OpenClaim.holds_of_wide 3 Try.f3 rfl rfl rfl rfl rfl rfl rfl ⟨rfl, rfl, rfl, rfl, rfl⟩ rfl rfl rfl rfl rfl (by kernel_rfl) Try.func3 jf
    (of_decide_eq_true (by kernel_rfl)) (by unfold Func.isWrapper; rw [if_neg (of_decide_eq_false (by kernel_rfl))]; exact ⟨rfl, rfl⟩)
    (fun os started H enc _ => lifted os started H enc)

theorem proved : Rows.FnExactFirstWholeSaid := over
end Go.Proofs.Ytjghodfdejdjoaa.fnExactFirstWhole
