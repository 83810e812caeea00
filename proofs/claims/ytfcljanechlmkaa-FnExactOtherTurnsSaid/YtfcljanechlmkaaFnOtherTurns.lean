/- For every input at which the law FnExactOtherTurns can be called it answers true and leaves its arguments as they were. No conditions. -/
import Derived.Test.YtfcljanechlmkaaYk
import Derived.Test.YtfcljanechlmkaaOpenGears
import Derived.Test.YtfcljanechlmkaaFacts
namespace Go.Proofs.Ytfcljanechlmkaa.fnExactOtherTurns
open Go.ChangeShapes Go.WideShapes Go.ChangeAt Go.RowKit Go.Joins
open Go.ChangeMaps (open_string shut_string)

set_option maxHeartbeats 4000000 in
theorem lawOtherTurns_true (Ax : Option Addr) (nx cx : Nat) (xx : List Int) {w : World} (hx : IntsA w Ax nx xx) (lx : nx ≤ maxLen) (_ : World) :
    Calls Try.prog 13 #[.slice Ax nx cx] w fun e w' => e = .returned (.bool true) ∧ Below w.heap.size w w' := by
  have HIx := Lib.hid hx
  have HNx := hx.len
  unfold maxLen at lx
  clear hx
  by_cases hlx : 1048576 < nx
  · go_enter Try.func13, Try.ntmps13
    go_wp2_with fail
    go_ret
    exact ⟨rfl, Below.refl _ _⟩
  have hmx : nx ≤ 1048576 := by omega
  clear hlx
  obtain ⟨z0, hz0⟩ : ∃ z, otZ xx = z := ⟨_, rfl⟩
  have HZ0 := Lib.hid hz0
  clear hz0
  obtain ⟨z1, hz1⟩ : ∃ z, stepsB xx = z := ⟨_, rfl⟩
  have HZ1 := Lib.hid hz1
  clear hz1
  go_enter Try.func13, Try.ntmps13
  go_wp2_with fail
  refine (toIntS_any _ _ _ xx _ hmx (HIx.out.below (Below.refl w.heap.size w))).mono ?_
  rintro e w1 ⟨rfl, hC, hb⟩
  have hsz_w1 := hb.size
  have X_w1 := Lib.hid (bel_call (Below.refl w.heap.size w) hb)
  have Sx := Lib.hid hC
  have hg_Sx := hC.lt
  clear hC hb
  obtain ⟨g_Sx, hge⟩ : ∃ g, w.heap.size = g := ⟨_, rfl⟩
  rw [hge] at Sx hg_Sx ⊢
  have he_Sx := hge
  clear hge
  go_wp2_with fail
  refine (specOther_any _ _ _ xx _ hmx (IntsA.of_cells HNx Sx.out)).mono ?_
  intro e w2 hh
  obtain ⟨A_K0, c_K0, rfl, hk, hb⟩ := hh.li
  rw [HZ0.out] at hk
  rw [HZ0.out, HZ1.out]
  have hsz_w2 := hb.size
  have Sx_w2 := Lib.hid (Sx.out.call hb)
  clear Sx
  have X_w2 := Lib.hid (bel_call X_w1.out hb)
  clear hb
  have K0 := Lib.hid hk
  clear hk hh
  obtain ⟨lo_K0, hlo⟩ : ∃ g, w1.heap.size = g := ⟨_, rfl⟩
  obtain ⟨hi_K0, hhi⟩ : ∃ g, w2.heap.size = g := ⟨_, rfl⟩
  rw [hlo, hhi] at K0
  have hle_K0 : lo_K0 = w1.heap.size ∧ hi_K0 = w2.heap.size := ⟨hlo.symm, hhi.symm⟩
  clear hlo hhi
  go_wp2_with fail
  clear Sx_w2
  refine (toIntS_any _ _ _ xx _ hmx (HIx.out.below X_w2.out)).mono ?_
  rintro e w3 ⟨rfl, hC, hb⟩
  have hsz_w3 := hb.size
  have K0_w3 := Lib.hid (K0.out.call hb)
  clear K0
  have X_w3 := Lib.hid (bel_call X_w2.out hb)
  have Px := Lib.hid hC
  have hg_Px := hC.lt
  clear hC hb
  obtain ⟨g_Px, hge⟩ : ∃ g, w2.heap.size = g := ⟨_, rfl⟩
  rw [hge] at Px hg_Px ⊢
  have he_Px := hge
  clear hge
  go_wp2_with fail
  refine (other_any _ _ _ xx _ hmx (IntsA.of_cells HNx Px.out)).mono ?_
  intro e w4 hh
  obtain ⟨A_K1, c_K1, rfl, hk, hb⟩ := hh.li
  rw [HZ0.out] at hk
  rw [HZ0.out, HZ1.out]
  have hsz_w4 := hb.size
  have K0_w4 := Lib.hid (K0_w3.out.call hb)
  clear K0_w3
  have Px_w4 := Lib.hid (Px.out.call hb)
  clear Px
  have X_w4 := Lib.hid (bel_call X_w3.out hb)
  clear hb
  have K1 := Lib.hid hk
  clear hk hh
  obtain ⟨lo_K1, hlo⟩ : ∃ g, w3.heap.size = g := ⟨_, rfl⟩
  obtain ⟨hi_K1, hhi⟩ : ∃ g, w4.heap.size = g := ⟨_, rfl⟩
  rw [hlo, hhi] at K1
  have hle_K1 : lo_K1 = w3.heap.size ∧ hi_K1 = w4.heap.size := ⟨hlo.symm, hhi.symm⟩
  clear hlo hhi
  go_wp2_with fail
  refine (eqLI_any _ _ _ _ _ _ _ _ _ _ K1.out K0_w4.out).mono ?_
  rintro e w5 ⟨rfl, hb⟩
  have hsz_w5 := hb.size
  have K0_w5 := Lib.hid (K0_w4.out.call hb)
  clear K0_w4
  have Px_w5 := Lib.hid (Px_w4.out.call hb)
  clear Px_w4
  have K1_w5 := Lib.hid (K1.out.call hb)
  clear K1
  have X_w5 := Lib.hid (bel_call X_w4.out hb)
  clear hb
  go_wp2_with fail
  refine (toIntS_any _ _ _ xx _ hmx (HIx.out.below X_w5.out)).mono ?_
  rintro e w6 ⟨rfl, hC, hb⟩
  have hsz_w6 := hb.size
  have K0_w6 := Lib.hid (K0_w5.out.call hb)
  clear K0_w5
  have Px_w6 := Lib.hid (Px_w5.out.call hb)
  clear Px_w5
  have K1_w6 := Lib.hid (K1_w5.out.call hb)
  clear K1_w5
  have X_w6 := Lib.hid (bel_call X_w5.out hb)
  have Rx := Lib.hid hC
  have hg_Rx := hC.lt
  clear hC hb
  obtain ⟨g_Rx, hge⟩ : ∃ g, w5.heap.size = g := ⟨_, rfl⟩
  rw [hge] at Rx hg_Rx ⊢
  have he_Rx := hge
  clear hge
  go_wp2_with fail
  refine (eqIntS_any _ _ _ _ _ xx _ hmx (IntsA.of_cells HNx Px_w6.out) (IntsA.of_cells HNx Rx.out)).mono ?_
  rintro e w7 ⟨rfl, hb⟩
  have hsz_w7 := hb.size
  have K0_w7 := Lib.hid (K0_w6.out.call hb)
  clear K0_w6
  have Px_w7 := Lib.hid (Px_w6.out.call hb)
  clear Px_w6
  have K1_w7 := Lib.hid (K1_w6.out.call hb)
  clear K1_w6
  have Rx_w7 := Lib.hid (Rx.out.call hb)
  clear Rx
  have X_w7 := Lib.hid (bel_call X_w6.out hb)
  clear hb
  go_wp2_with fail
  clear Rx_w7
  refine (markIntS_any _ nx _ 1 _ _ (by omega) Px_w7.out).mono ?_
  rintro e w8 ⟨rfl, _, hsz_w8, hB, hO⟩
  have K0_w8 := Lib.hid (K0_w7.out.keep (lo2 := g_Px) (hi2 := g_Px + 1) (by omega) (fun g' m f' hne hC => hO g' m f' (by omega) hC))
  clear K0_w7
  have K1_w8 := Lib.hid (K1_w7.out.keep (lo2 := g_Px) (hi2 := g_Px + 1) (by omega) (fun g' m f' hne hC => hO g' m f' (by omega) hC))
  clear K1_w7
  have X_w8 := Lib.hid ((X_w7.out).trans (hB w.heap.size (by omega)))
  clear hB hO
  go_wp2_with fail
  refine (eqLI_any _ _ _ _ _ _ _ _ _ _ K1_w8.out K0_w8.out).mono ?_
  rintro e w9 ⟨rfl, hb⟩
  have hsz_w9 := hb.size
  have K0_w9 := Lib.hid (K0_w8.out.call hb)
  clear K0_w8
  have K1_w9 := Lib.hid (K1_w8.out.call hb)
  clear K1_w8
  have X_w9 := Lib.hid (bel_call X_w8.out hb)
  clear hb
  go_wp2_with fail
  refine (markLI_any _ _ _ _ _ _ K1_w9.out).mono ?_
  rintro e w10 ⟨rfl, hM, hsz_w10, hB⟩
  have KM := Lib.hid hM
  have K0_w10 := Lib.hid (K0_w9.out.below (hB lo_K1 (Nat.le_refl _)) (by omega))
  clear K0_w9
  have X_w10 := Lib.hid ((X_w9.out).trans (hB w.heap.size (by omega)))
  clear hB hM
  go_wp2_with fail
  refine (heldLI_any _ _ _ _ _ _ KM.out).mono ?_
  rintro e w11 ⟨rfl, hb⟩
  have hsz_w11 := hb.size
  have K0_w11 := Lib.hid (K0_w10.out.call hb)
  clear K0_w10
  have KM_w11 := Lib.hid (KM.out.call hb)
  clear KM
  have X_w11 := Lib.hid (bel_call X_w10.out hb)
  clear hb
  go_wp2_with fail
  refine (toIntS_any _ _ _ xx _ hmx (HIx.out.below X_w11.out)).mono ?_
  rintro e w12 ⟨rfl, hC, hb⟩
  have hsz_w12 := hb.size
  have K0_w12 := Lib.hid (K0_w11.out.call hb)
  clear K0_w11
  have KM_w12 := Lib.hid (KM_w11.out.call hb)
  clear KM_w11
  have X_w12 := Lib.hid (bel_call X_w11.out hb)
  have Tx := Lib.hid hC
  have hg_Tx := hC.lt
  clear hC hb
  obtain ⟨g_Tx, hge⟩ : ∃ g, w11.heap.size = g := ⟨_, rfl⟩
  rw [hge] at Tx hg_Tx ⊢
  have he_Tx := hge
  clear hge
  go_wp2_with fail
  refine (other_any _ _ _ xx _ hmx (IntsA.of_cells HNx Tx.out)).mono ?_
  intro e w13 hh
  obtain ⟨A_K2, c_K2, rfl, hk, hb⟩ := hh.li
  rw [HZ0.out] at hk
  rw [HZ0.out, HZ1.out]
  have hsz_w13 := hb.size
  have K0_w13 := Lib.hid (K0_w12.out.call hb)
  clear K0_w12
  have KM_w13 := Lib.hid (KM_w12.out.call hb)
  clear KM_w12
  have Tx_w13 := Lib.hid (Tx.out.call hb)
  clear Tx
  have X_w13 := Lib.hid (bel_call X_w12.out hb)
  clear hb
  have K2 := Lib.hid hk
  clear hk hh
  obtain ⟨lo_K2, hlo⟩ : ∃ g, w12.heap.size = g := ⟨_, rfl⟩
  obtain ⟨hi_K2, hhi⟩ : ∃ g, w13.heap.size = g := ⟨_, rfl⟩
  rw [hlo, hhi] at K2
  have hle_K2 : lo_K2 = w12.heap.size ∧ hi_K2 = w13.heap.size := ⟨hlo.symm, hhi.symm⟩
  clear hlo hhi
  go_wp2_with fail
  refine (eqLI_any _ _ _ _ _ _ _ _ _ _ K2.out K0_w13.out).mono ?_
  rintro e w14 ⟨rfl, hb⟩
  have hsz_w14 := hb.size
  have K0_w14 := Lib.hid (K0_w13.out.call hb)
  clear K0_w13
  have KM_w14 := Lib.hid (KM_w13.out.call hb)
  clear KM_w13
  have Tx_w14 := Lib.hid (Tx_w13.out.call hb)
  clear Tx_w13
  have K2_w14 := Lib.hid (K2.out.call hb)
  clear K2
  have X_w14 := Lib.hid (bel_call X_w13.out hb)
  clear hb
  go_wp2_with fail
  refine (heldLI_any _ _ _ _ _ _ KM_w14.out).mono ?_
  rintro e w15 ⟨rfl, hb⟩
  have hsz_w15 := hb.size
  have K0_w15 := Lib.hid (K0_w14.out.call hb)
  clear K0_w14
  have KM_w15 := Lib.hid (KM_w14.out.call hb)
  clear KM_w14
  have Tx_w15 := Lib.hid (Tx_w14.out.call hb)
  clear Tx_w14
  have K2_w15 := Lib.hid (K2_w14.out.call hb)
  clear K2_w14
  have X_w15 := Lib.hid (bel_call X_w14.out hb)
  clear hb
  go_wp2_with fail
  go_ret
  exact ⟨rfl, X_w15.out⟩

set_option maxRecDepth 100000 in
theorem lifted (os : Os) (started : os.Started) (H : Type) (enc : TypeId × Value → H) :
    ReturnsInHanded {} Try.checked os 13 .any (Rows.fnExactOtherTurnsSpec.pre6 enc Try.prog Try.f13 Rows.fnExactOtherTurnsRow.domain false) (Rows.fnExactOtherTurnsSpec.post enc Try.prog Try.f13 false true false false) := by
  refine returnsInHanded_of_change (C := Try.checked) Try.own started (by kernel_rfl) Try.func13
    (ChangeSpec.witness6 (enc := enc) (C := Try.checked) false ⟨#[], #[.slice none 0 0], []⟩ 8 (by kernel_rfl) (by kernel_rfl) (by kernel_rfl) (by kernel_rfl)) ?_
  intro W base args ds gs before hval0 hW _ _
  have hval : ∀ (j : Nat) t v, Try.f13.params[j]? = some t → args[j]? = some v → Value.okWide Try.prog W .any base t v := hval0
  have hW' := hW
  obtain ⟨p, q, hA0, hV, rfl, _, _⟩ := hW
  have hA : DataW.TrodAll enc Try.prog W 0 (fun _ => true) true Try.f13.params.toList args.toList ds p := hA0
  rw [Try.params13] at hA hval
  obtain ⟨v0, vs0, d0, ds0, p0, q0, hargs, rfl, rfl, h0, r0⟩ := trodAll_cons hA
  obtain ⟨rfl, rfl, rfl⟩ := trodAll_nil r0
  obtain rfl : args = #[v0] := by cases args; simp_all
  obtain ⟨rfl, rfl⟩ := trodVars_none hV
  have t0 := h0
  have lt0 : ∀ x ∈ p0, x.block < W.heap.size := by obtain ⟨m, hm⟩ := t0; exact DataW.trod_lt m _ _ _ hm
  have t0' := h0
  obtain ⟨x0a, x0n, x0c, x0x, rfl, k0, l0⟩ := open_intsA (hval 0 22 v0 rfl rfl) t0'
  clear hA0 hval0
  refine (lawOtherTurns_true x0a x0n x0c x0x k0 l0 W).mono fun e W' ⟨he, bel⟩ => ?_
  subst he
  exact ⟨_, rfl, _, _, _, [], _, [], hW', trodAll_mk1 (shut_bool Try.underlying4 _), (trodAll_cons_mk (Below.trod Try.laidOut (by kernel_rfl) (of_decide_eq_true (by kernel_rfl)) h0 bel lt0) trodAll_mk0), rfl, bel.frame _, fun h => by cases h⟩

set_option maxRecDepth 100000 in
theorem jf : joinedFacts Try.pinned.checked.prog 13 Try.f13 Rows.fnExactOtherTurnsSpec Rows.fnExactOtherTurnsRow = true := by
  unfold joinedFacts
  rw [whole_all.1, whole_all.2.1, whole_all.2.2]
  kernel_rfl

theorem over : Rows.fnExactOtherTurnsRow.holds Try.pinned (OpenSpec.ofChange Rows.fnExactOtherTurnsSpec) :=
  OpenClaim.holds_of_wide 13 Try.f13 rfl rfl rfl rfl rfl rfl rfl ⟨rfl, rfl, rfl, rfl, rfl⟩ rfl rfl rfl rfl rfl (by kernel_rfl) Try.func13 jf
    (of_decide_eq_true (by kernel_rfl)) (by unfold Func.isWrapper; rw [if_neg (of_decide_eq_false (by kernel_rfl))]; exact ⟨rfl, rfl⟩)
    (fun os started H enc _ => lifted os started H enc)

theorem proved : Rows.FnExactOtherTurnsSaid := over
end Go.Proofs.Ytfcljanechlmkaa.fnExactOtherTurns
