/- For every input at which the law FnExactTurnsText can be called it answers true and leaves its arguments as they were. No conditions. -/
import Derived.Test.YthnekpdakjcadabTurnsText
import Derived.Test.YthnekpdakjcadabEqTurns
namespace Go.Proofs.Ythnekpdakjcadab.fnExactTurnsText
open Go.ChangeShapes Go.WideShapes Go.ChangeAt Go.RowKit Go.Joins
open Go.ChangeMaps (open_string shut_string)

set_option maxHeartbeats 1000000 in
theorem lawTurnsText_true (A : Option Addr) (n c : Nat) (ts : List (Int × Int)) {w : World} (hA : ArgT w A n ts) (hn : n ≤ maxLen) (_ : World) :
    Calls Try.prog 9 #[.slice A n c] w fun e w' => e = .returned (.bool true) ∧ Below w.heap.size w w' := by
  have HA := Lib.hid hA
  unfold maxLen at hn
  clear hA
  by_cases hs : n ≤ 1048576
  · go_enter Try.func9, Try.ntmps9
    go_wp2_with (go_at_call 27; refine (szTurnS_any _ _ _ _ hn).mono ?_; rw [if_pos hs]; rintro e w1 ⟨rfl, rfl⟩)
    refine (toTurnS_any _ _ _ ts _ hs HA.out).mono ?_
    rintro e w1 ⟨rfl, hC1, hb1⟩
    have H1 := Lib.hid hC1
    clear hC1
    go_wp2_with (go_at_call 28; refine (specTurnsText_any ts _ _ _ _ HA.out.len hs H1.out).mono ?_; rintro e w2 ⟨rfl, hb2⟩)
    refine (toTurnS_any _ _ _ ts _ hs ((HA.out.below hb1).below hb2)).mono ?_
    rintro e w3 ⟨rfl, hC3, hb3⟩
    have H3 := Lib.hid hC3
    clear hC3
    go_wp2_with (go_at_call 30; refine (turnsText_any ts _ _ _ _ HA.out.len hs H3.out).mono ?_; rintro e w4 ⟨rfl, hb4⟩)
    refine (toTurnS_any _ _ _ ts _ hs ((((HA.out.below hb1).below hb2).below hb3).below hb4)).mono ?_
    rintro e w5 ⟨rfl, hC5, hb5⟩
    have H5 := Lib.hid hC5
    clear hC5
    go_wp2_with (go_at_call 31; refine (eqTurnS_same _ _ _ _ _ ts _ hs ((H3.out.call hb4).call hb5) H5.out).mono ?_; rintro e w6 ⟨rfl, hb6⟩)
    go_ret
    refine ⟨rfl, ?_⟩
    (repeat (first | assumption | exact Below.refl _ _ | (refine Below.alloc ?_ (by first | omega | (simp; done) | (simp; omega)) _) | (refine Below.setCell ?_ (by first | omega | (simp; done) | (simp; omega)) _) | refine bel_drewN ?_ _ | refine bel_drew ?_ | (refine bel_call ?_ (by assumption))))
  · go_enter Try.func9, Try.ntmps9
    go_wp2_with (go_at_call 27; refine (szTurnS_any _ _ _ _ hn).mono ?_; rw [if_neg hs]; rintro e w1 ⟨rfl, rfl⟩)
    go_ret
    exact ⟨rfl, Below.refl _ _⟩

set_option maxRecDepth 100000 in
theorem lifted (os : Os) (started : os.Started) (H : Type) (enc : TypeId × Value → H) :
    ReturnsInHanded {} Try.checked os 9 .any (Rows.fnExactTurnsTextSpec.pre6 enc Try.prog Try.f9 Rows.fnExactTurnsTextRow.domain false) (Rows.fnExactTurnsTextSpec.post enc Try.prog Try.f9 false true false false) := by
  refine returnsInHanded_of_change (C := Try.checked) Try.own started (by kernel_rfl) Try.func9
    (ChangeSpec.witness6 (enc := enc) (C := Try.checked) false ⟨#[], #[.slice none 0 0], []⟩ 8 (by kernel_rfl) (by kernel_rfl) (by kernel_rfl) (by kernel_rfl)) ?_
  intro W base args ds gs before hval0 hW _ _
  have hval : ∀ (j : Nat) t v, Try.f9.params[j]? = some t → args[j]? = some v → Value.okWide Try.prog W .any base t v := hval0
  have hW' := hW
  obtain ⟨p, q, hA0, hV, rfl, _, _⟩ := hW
  have hA : DataW.TrodAll enc Try.prog W 0 (fun _ => true) true Try.f9.params.toList args.toList ds p := hA0
  rw [Try.params9] at hA hval
  obtain ⟨v0, vs0, d0, ds0, p0, q0, hargs, rfl, rfl, h0, r0⟩ := trodAll_cons hA
  obtain ⟨rfl, rfl, rfl⟩ := trodAll_nil r0
  obtain rfl : args = #[v0] := by cases args; simp_all
  obtain ⟨rfl, rfl⟩ := trodVars_none hV
  have t0 := h0
  have lt0 : ∀ x ∈ p0, x.block < W.heap.size := by obtain ⟨m, hm⟩ := t0; exact DataW.trod_lt m _ _ _ hm
  have t0' := h0
  obtain ⟨x0a, x0n, x0c, x0t, rfl, k0, l0⟩ := open_turns (hval 0 43 v0 rfl rfl) t0'
  clear hA0 hval0
  refine (lawTurnsText_true x0a x0n x0c x0t k0 l0 W).mono fun e W' ⟨he, bel⟩ => ?_
  subst he
  exact ⟨_, rfl, _, _, _, [], _, [], hW', trodAll_mk1 (shut_bool Try.underlying4 _), (trodAll_cons_mk (Below.trod Try.laidOut (by kernel_rfl) (of_decide_eq_true (by kernel_rfl)) h0 bel lt0) trodAll_mk0), rfl, bel.frame _, fun h => by cases h⟩

theorem over : Rows.fnExactTurnsTextRow.holds Try.pinned (OpenSpec.ofChange Rows.fnExactTurnsTextSpec) :=
  OpenClaim.holds_of_wide 9 Try.f9 rfl rfl rfl rfl rfl rfl rfl ⟨rfl, rfl, rfl, rfl, rfl⟩ rfl rfl rfl rfl rfl (by kernel_rfl) Try.func9 (by kernel_rfl)
    (of_decide_eq_true (by kernel_rfl)) (by unfold Func.isWrapper; rw [if_neg (of_decide_eq_false (by kernel_rfl))]; exact ⟨rfl, rfl⟩)
    (fun os started H enc _ => lifted os started H enc)

theorem proved : Rows.FnExactTurnsTextSaid := over
end Go.Proofs.Ythnekpdakjcadab.fnExactTurnsText
