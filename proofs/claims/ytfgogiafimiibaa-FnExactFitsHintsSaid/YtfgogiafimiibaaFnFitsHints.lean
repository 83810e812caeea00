/- For every input at which the law FnExactFitsHints can be called it answers true and leaves its arguments as they were. No conditions. -/
import Derived.Test.YtfgogiafimiibaaHp
import Derived.Test.YtfgogiafimiibaaFacts
namespace Go.Proofs.Ytfgogiafimiibaa.fnExactFitsHints
open Go.ChangeShapes Go.WideShapes Go.ChangeAt Go.RowKit Go.Joins
open Go.ChangeMaps (open_string shut_string)

set_option maxHeartbeats 2000000 in
theorem lawFitsHints_true (a b : Int) (_ : (Lit.int .i64 a).wf = true) (_ : (Lit.int .i64 b).wf = true) (A : Option Addr) (n c : Nat) (hs : List Hnt) {w : World} (hA : ArgH w A n hs) (hn : n ≤ maxLen) (s0 : ByteArray) (hs0 : s0.size ≤ maxLen) (_ : World) :
    Calls Try.prog 5 #[.agg #[.int .i64 a, .int .i64 b], .slice A n c, .string s0] w fun e w' => e = .returned (.bool true) ∧ Below w.heap.size w w' := by
  have HS0 := Lib.hid hs0
  have HA := Lib.hid hA
  have HN := Lib.hid hn
  unfold maxLen at hn hs0
  clear hA
  by_cases hlen0 : 1048576 < s0.size
  · go_enter Try.func5, Try.ntmps5
    go_wp2_with fail
    go_ret
    refine ⟨rfl, ?_⟩
    (repeat (first | assumption | exact Below.refl _ _ | (refine Below.alloc ?_ (by first | omega | (simp; done) | (simp; omega)) _) | (refine Below.setCell ?_ (by first | omega | (simp; done) | (simp; omega)) _) | refine bel_drewN ?_ _ | refine bel_drew ?_ | (refine bel_call ?_ (by assumption))))
  have X0 := Lib.hid (show Below w.heap.size w (w.alloc (.cells #[.int .i64 a, .int .i64 b] 23)) from (Below.refl _ _).alloc (Nat.le_refl _) _)
  go_enter Try.func5, Try.ntmps5
  go_wp2_with fail
  refine (szHintS_any _ _ _ hs _ HN.out (HA.out.below X0.out)).mono ?_
  rintro e w1 ⟨r, rfl, hr1, hr2, hr3, hb1⟩
  have C1 := Lib.hid ((box_new (W := w) (a := a) (b := b) (t := 23) rfl).call hb1)
  have X1 := Lib.hid (bel_call X0.out hb1)
  clear hb1 X0
  by_cases hneg : r < 0
  · go_wp2_with fail
    go_ret
    exact ⟨rfl, X1.out⟩
  have hm0 := hr3 (by omega)
  have l0 : w1.cell? ⟨w.heap.size, 0, none⟩ = some (.int .i64 a) := C1.out.cell (show 0 < 2 by omega)
  have l1 : w1.cell? ⟨w.heap.size, 1, none⟩ = some (.int .i64 b) := C1.out.cell (show 1 < 2 by omega)
  go_wp2_with fail
  refine (toLock_any _ _ _).mono ?_
  rintro e w2 ⟨rfl, hb2⟩
  have C2 := Lib.hid (C1.out.call hb2)
  have X2 := Lib.hid (bel_call X1.out hb2)
  go_wp2_with fail
  refine (toHintS_any _ _ _ hs _ hm0 (HA.out.below X2.out)).mono ?_
  rintro e w3 ⟨rfl, hC, hb3⟩
  have C3 := Lib.hid (C2.out.call hb3)
  have X3 := Lib.hid (bel_call X2.out hb3)
  have D3 := Lib.hid hC
  clear hC
  go_wp2_with fail
  refine (specFitsHints_any _ _ _ _ _ hs _ _ (by unfold maxLen; omega) HS0.out (argH_of HA.out D3.out)).mono ?_
  rintro e w4 ⟨rfl, hb4⟩
  have C4 := Lib.hid (C3.out.call hb4)
  have X4 := Lib.hid (bel_call X3.out hb4)
  clear l0 l1
  go_wp2_with fail
  refine (toHintS_any _ _ _ hs _ hm0 (HA.out.below X4.out)).mono ?_
  rintro e w5 ⟨rfl, hC, hb5⟩
  have C5 := Lib.hid (C4.out.call hb5)
  have X5 := Lib.hid (bel_call X4.out hb5)
  have D5 := Lib.hid hC
  clear hC
  have l0 : w5.cell? ⟨w.heap.size, 0, none⟩ = some (.int .i64 a) := C5.out.cell (show 0 < 2 by omega)
  have l1 : w5.cell? ⟨w.heap.size, 1, none⟩ = some (.int .i64 b) := C5.out.cell (show 1 < 2 by omega)
  go_wp2_with fail
  refine (toLock_any _ _ _).mono ?_
  rintro e w6 ⟨rfl, hb6⟩
  have C6 := Lib.hid (C5.out.call hb6)
  have X6 := Lib.hid (bel_call X5.out hb6)
  have D6 := Lib.hid (D5.out.call hb6)
  go_wp2_with fail
  refine (fitsHints_any _ _ _ _ _ hs _ _ (by unfold maxLen; omega) HS0.out (argH_of HA.out D6.out)).mono ?_
  rintro e w7 ⟨rfl, hb7⟩
  have C7 := Lib.hid (C6.out.call hb7)
  have X7 := Lib.hid (bel_call X6.out hb7)
  have D7 := Lib.hid (D6.out.call hb7)
  clear l0 l1
  go_wp2_with fail
  refine (toHintS_any _ _ _ hs _ hm0 (HA.out.below X7.out)).mono ?_
  rintro e w8 ⟨rfl, hC, hb8⟩
  have C8 := Lib.hid (C7.out.call hb8)
  have X8 := Lib.hid (bel_call X7.out hb8)
  have D8 := Lib.hid (D7.out.call hb8)
  have E8 := Lib.hid hC
  clear hC
  go_wp2_with fail
  refine (eqHintS_same _ _ _ _ _ hs _ hm0 D8.out E8.out).mono ?_
  rintro e w9 ⟨rfl, hb9⟩
  have X9 := Lib.hid (bel_call X8.out hb9)
  go_wp2_with fail
  go_ret
  exact ⟨rfl, X9.out⟩

set_option maxRecDepth 100000 in
theorem lifted (os : Os) (started : os.Started) (H : Type) (enc : TypeId × Value → H) :
    ReturnsInHanded {} Try.checked os 5 .any (Rows.fnExactFitsHintsSpec.pre6 enc Try.prog Try.f5 Rows.fnExactFitsHintsRow.domain false) (Rows.fnExactFitsHintsSpec.post enc Try.prog Try.f5 false true false false) := by
  refine returnsInHanded_of_change (C := Try.checked) Try.own started (by kernel_rfl) Try.func5
    (ChangeSpec.witness6 (enc := enc) (C := Try.checked) false ⟨#[], #[.agg #[.int .i64 0, .int .i64 0], .slice none 0 0, .string ByteArray.empty], []⟩ 8 (by kernel_rfl) (by kernel_rfl) (by kernel_rfl) (by kernel_rfl)) ?_
  intro W base args ds gs before hval0 hW _ _
  have hval : ∀ (j : Nat) t v, Try.f5.params[j]? = some t → args[j]? = some v → Value.okWide Try.prog W .any base t v := hval0
  have hW' := hW
  obtain ⟨p, q, hA0, hV, rfl, _, _⟩ := hW
  have hA : DataW.TrodAll enc Try.prog W 0 (fun _ => true) true Try.f5.params.toList args.toList ds p := hA0
  rw [Try.params5] at hA hval
  obtain ⟨v0, vs0, d0, ds0, p0, q0, hargs, rfl, rfl, h0, r0⟩ := trodAll_cons hA
  obtain ⟨v1, vs1, d1, ds1, p1, q1, rfl, rfl, rfl, h1, r1⟩ := trodAll_cons r0
  obtain ⟨v2, vs2, d2, ds2, p2, q2, rfl, rfl, rfl, h2, r2⟩ := trodAll_cons r1
  obtain ⟨rfl, rfl, rfl⟩ := trodAll_nil r2
  obtain rfl : args = #[v0, v1, v2] := by cases args; simp_all
  obtain ⟨rfl, rfl⟩ := trodVars_none hV
  have t0 := h0
  have lt0 : ∀ x ∈ p0, x.block < W.heap.size := by obtain ⟨m, hm⟩ := t0; exact DataW.trod_lt m _ _ _ hm
  have t0' := h0
  have t1 := h1
  have lt1 : ∀ x ∈ p1, x.block < W.heap.size := by obtain ⟨m, hm⟩ := t1; exact DataW.trod_lt m _ _ _ hm
  have t1' := h1
  have t2 := h2
  have lt2 : ∀ x ∈ p2, x.block < W.heap.size := by obtain ⟨m, hm⟩ := t2; exact DataW.trod_lt m _ _ _ hm
  have t2' := h2
  obtain ⟨x0, x0b, rfl, k0, l0⟩ := open_lock (hval 0 23 v0 rfl rfl) t0'
  obtain ⟨x1a, x1n, x1c, x1t, rfl, k1, l1⟩ := open_hints (hval 1 29 v1 rfl rfl) t1'
  obtain ⟨x2, rfl, _, _, k2⟩ := open_string Try.underlying9 (hval 2 9 v2 rfl rfl) t2'
  clear hA0 hval0
  refine (lawFitsHints_true x0 x0b k0 l0 x1a x1n x1c x1t k1 l1 x2 k2 W).mono fun e W' ⟨he, bel⟩ => ?_
  subst he
  exact ⟨_, rfl, _, _, _, [], _, [], hW', trodAll_mk1 (shut_bool Try.underlying4 _), (trodAll_cons_mk (Below.trod Try.laidOut (by kernel_rfl) (of_decide_eq_true (by kernel_rfl)) h0 bel lt0) (trodAll_cons_mk (Below.trod Try.laidOut (by kernel_rfl) (of_decide_eq_true (by kernel_rfl)) h1 bel lt1) (trodAll_cons_mk (Below.trod Try.laidOut (by kernel_rfl) (of_decide_eq_true (by kernel_rfl)) h2 bel lt2) trodAll_mk0))), rfl, bel.frame _, fun h => by cases h⟩

set_option maxRecDepth 100000 in
theorem jf : joinedFacts Try.pinned.checked.prog 5 Try.f5 Rows.fnExactFitsHintsSpec Rows.fnExactFitsHintsRow = true := by
  unfold joinedFacts
  rw [whole_all.1, whole_all.2.1, whole_all.2.2]
  kernel_rfl

theorem over : Rows.fnExactFitsHintsRow.holds Try.pinned (OpenSpec.ofChange Rows.fnExactFitsHintsSpec) :=
  OpenClaim.holds_of_wide 5 Try.f5 rfl rfl rfl rfl rfl rfl rfl ⟨rfl, rfl, rfl, rfl, rfl⟩ rfl rfl rfl rfl rfl (by kernel_rfl) Try.func5 jf
    (of_decide_eq_true (by kernel_rfl)) (by unfold Func.isWrapper; rw [if_neg (of_decide_eq_false (by kernel_rfl))]; exact ⟨rfl, rfl⟩)
    (fun os started H enc _ => lifted os started H enc)

theorem proved : Rows.FnExactFitsHintsSaid := over
end Go.Proofs.Ytfgogiafimiibaa.fnExactFitsHints
