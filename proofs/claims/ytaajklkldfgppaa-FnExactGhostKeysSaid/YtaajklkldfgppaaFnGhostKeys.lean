/- For every input at which the law FnExactGhostKeys can be called it answers true and leaves its arguments as they were. No conditions. -/
import Derived.Test.YtaajklkldfgppaaZp
import Derived.Test.YtaajklkldfgppaaFacts
namespace Go.Proofs.Ytaajklkldfgppaa.fnExactGhostKeys
open Go.ChangeShapes Go.WideShapes Go.ChangeAt Go.RowKit Go.Joins
open Go.ChangeMaps (open_string shut_string)

set_option maxHeartbeats 2000000 in
theorem lawGhostKeys_true (A : Option Addr) (n c : Nat) (ps : List Pn) {w : World} (hA : ArgP w A n ps) (hn : n ≤ maxLen) (_ : World) :
    Calls Try.prog 5 #[.slice A n c] w fun e w' => e = .returned (.bool true) ∧ Below w.heap.size w w' := by
  have HA := Lib.hid hA
  have HN := Lib.hid hA.len
  have HMX := Lib.hid hn
  unfold maxLen at hn
  clear hA
  go_enter Try.func5, Try.ntmps5
  go_wp2_with fail
  refine (szPinsS_any _ _ _ ps _ HMX.out HA.out).mono ?_
  rintro e w1 ⟨⟨r, rfl, hr1, hr⟩, hb1⟩
  have X1 := Lib.hid hb1
  clear hb1
  by_cases hr0 : r < 0
  · go_wp2_with fail
    go_ret
    exact ⟨rfl, X1.out⟩
  · have hm := hr (by omega)
    have HF := Lib.hid (few_of HN.out hm)
    have hn2 : n ≤ 1048576 := by omega
    clear hr
    go_wp2_with fail
    refine (toPinsS_any _ _ _ ps _ hn2 (HA.out.below X1.out) HF.out).mono ?_
    rintro e w2 ⟨rfl, ⟨Gp, GG, hT⟩, hb2⟩
    have HT := Lib.hid (hT.arg HF.out)
    have X2 := Lib.hid (bel_call X1.out hb2)
    clear hT hb2
    go_wp2_with fail
    refine (specGhostKeys_any _ _ _ ps _ HMX.out HT.out HF.out).mono ?_
    rintro e w3 ⟨rfl, hb3⟩
    have X3 := Lib.hid (bel_call X2.out hb3)
    clear hb3 HT
    go_wp2_with fail
    refine (toPinsS_any _ _ _ ps _ hn2 (HA.out.below X3.out) HF.out).mono ?_
    rintro e w4 ⟨rfl, ⟨Gp4, GG4, hT⟩, hb4⟩
    have HT4 := Lib.hid (hT.arg HF.out)
    have X4 := Lib.hid (bel_call X3.out hb4)
    clear hT hb4
    go_wp2_with fail
    refine (ghostKeys_any _ _ _ ps _ HMX.out (Nat.le_refl _) HT4.out HF.out).mono ?_
    rintro e w5 ⟨rfl, hb5⟩
    have X5 := Lib.hid (bel_call X4.out hb5)
    have HT5 := Lib.hid (HT4.out.below hb5)
    clear hb5
    go_wp2_with fail
    refine (toPinsS_any _ _ _ ps _ hn2 (HA.out.below X5.out) HF.out).mono ?_
    rintro e w6 ⟨rfl, ⟨Gp6, GG6, hT⟩, hb6⟩
    have HT6 := Lib.hid (hT.arg HF.out)
    have X6 := Lib.hid (bel_call X5.out hb6)
    have HS6 := Lib.hid (HT5.out.below hb6)
    clear hT hb6
    go_wp2_with fail
    refine (eqPinsS_same _ _ _ _ _ ps _ hn2 HF.out HS6.out HT6.out).mono ?_
    rintro e w7 ⟨rfl, hb7⟩
    have X7 := Lib.hid (bel_call X6.out hb7)
    clear hb7
    go_wp2_with fail
    go_ret
    exact ⟨rfl, X7.out⟩

set_option maxRecDepth 100000 in
theorem lifted (os : Os) (started : os.Started) (H : Type) (enc : TypeId × Value → H) :
    ReturnsInHanded {} Try.checked os 5 .any (Rows.fnExactGhostKeysSpec.pre6 enc Try.prog Try.f5 Rows.fnExactGhostKeysRow.domain false) (Rows.fnExactGhostKeysSpec.post enc Try.prog Try.f5 false true false false) := by
  refine returnsInHanded_of_change (C := Try.checked) Try.own started (by kernel_rfl) Try.func5
    (ChangeSpec.witness6 (enc := enc) (C := Try.checked) false ⟨#[], #[.slice none 0 0], []⟩ 8 (by kernel_rfl) (by kernel_rfl) (by kernel_rfl) (by kernel_rfl)) ?_
  intro W base args ds gs before hval0 hW _ _
  have hval : ∀ (j : Nat) t v, Try.f5.params[j]? = some t → args[j]? = some v → Value.okWide Try.prog W .any base t v := hval0
  have hW' := hW
  obtain ⟨p, q, hA0, hV, rfl, _, _⟩ := hW
  have hA : DataW.TrodAll enc Try.prog W 0 (fun _ => true) true Try.f5.params.toList args.toList ds p := hA0
  rw [Try.params5] at hA hval
  obtain ⟨v0, vs0, d0, ds0, p0, q0, hargs, rfl, rfl, h0, r0⟩ := trodAll_cons hA
  obtain ⟨rfl, rfl, rfl⟩ := trodAll_nil r0
  obtain rfl : args = #[v0] := by cases args; simp_all
  obtain ⟨rfl, rfl⟩ := trodVars_none hV
  have t0 := h0
  have lt0 : ∀ x ∈ p0, x.block < W.heap.size := by obtain ⟨m, hm⟩ := t0; exact DataW.trod_lt m _ _ _ hm
  have t0' := h0
  obtain ⟨x0A, x0n, x0c, x0k, rfl, k0, l0⟩ := open_pinss (hval 0 33 v0 rfl rfl) t0'
  clear hA0 hval0
  refine (lawGhostKeys_true x0A x0n x0c x0k k0 l0 W).mono fun e W' ⟨he, bel⟩ => ?_
  subst he
  exact ⟨_, rfl, _, _, _, [], _, [], hW', trodAll_mk1 (shut_bool Try.underlying4 _), (trodAll_cons_mk (Below.trod Try.laidOut (by kernel_rfl) (of_decide_eq_true (by kernel_rfl)) h0 bel lt0) trodAll_mk0), rfl, bel.frame _, fun h => by cases h⟩

set_option maxRecDepth 100000 in
theorem jf : joinedFacts Try.pinned.checked.prog 5 Try.f5 Rows.fnExactGhostKeysSpec Rows.fnExactGhostKeysRow = true := by
  unfold joinedFacts
  rw [whole_all.1, whole_all.2.1, whole_all.2.2]
  kernel_rfl

theorem over : Rows.fnExactGhostKeysRow.holds Try.pinned (OpenSpec.ofChange Rows.fnExactGhostKeysSpec) :=
  OpenClaim.holds_of_wide 5 Try.f5 rfl rfl rfl rfl rfl rfl rfl ⟨rfl, rfl, rfl, rfl, rfl⟩ rfl rfl rfl rfl rfl (by kernel_rfl) Try.func5 jf
    (of_decide_eq_true (by kernel_rfl)) (by unfold Func.isWrapper; rw [if_neg (of_decide_eq_false (by kernel_rfl))]; exact ⟨rfl, rfl⟩)
    (fun os started H enc _ => lifted os started H enc)

theorem proved : Rows.FnExactGhostKeysSaid := over
end Go.Proofs.Ytaajklkldfgppaa.fnExactGhostKeys
