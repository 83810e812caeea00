/- For every input at which the law FnExactParseTurns can be called it answers true and leaves its arguments as they were. No conditions. -/
import Derived.Test.YthnekpdakjcadabParse2
namespace Go.Proofs.Ythnekpdakjcadab.fnExactParseTurns
open Go.ChangeShapes Go.WideShapes Go.ChangeAt Go.RowKit Go.Joins
open Go.ChangeMaps (open_string shut_string)

theorem mark_zero (A : Option Addr) (c : Nat) (w : World) :
    Calls Try.prog 34 #[.slice A 0 c, .int .i64 1] w fun e w' => e = .returned (.int .i64 1) ∧ w = w' := by
  go_enter Try.func34, Try.ntmps34
  go_wp2_with fail
  go_loop [1, 5] (fun m i => m = .int .i64 1 ∧ i = .int .i64 0) (fun _ _ => 0)
  case atStart => exact ⟨rfl, rfl⟩
  case round =>
    obtain ⟨rfl, rfl⟩ := hrel
    go_wp2_with fail
    go_ret
    exact ⟨rfl, rfl⟩

theorem held_zero (A : Option Addr) (c : Nat) (w : World) :
    Calls Try.prog 35 #[.slice A 0 c, .int .i64 1] w fun e w' => e = .returned (.int .i64 1) ∧ w = w' := by
  go_enter Try.func35, Try.ntmps35
  go_wp2_with fail
  go_loop [1, 5] (fun m i => m = .int .i64 1 ∧ i = .int .i64 0) (fun _ _ => 0)
  case atStart => exact ⟨rfl, rfl⟩
  case round =>
    obtain ⟨rfl, rfl⟩ := hrel
    go_wp2_with fail
    go_ret
    exact ⟨rfl, rfl⟩

set_option maxHeartbeats 1000000 in
theorem lawParseTurns_true (s : ByteArray) (hs : s.size ≤ maxLen) (w : World) :
    Calls Try.prog 10 #[.string s] w fun e w' => e = .returned (.bool true) ∧ Below w.heap.size w w' := by
  have HS := Lib.hid hs
  unfold maxLen at hs
  by_cases hlen : 1048576 < s.size
  · go_enter Try.func10, Try.ntmps10
    go_wp2_with fail
    go_ret
    exact ⟨rfl, Below.refl _ _⟩
  · go_enter Try.func10, Try.ntmps10
    go_wp2_with fail
    refine (specParse_any _ _ HS.out).mono ?_
    rintro e w1 ⟨A0, c0, rfl, hO0, hb1⟩
    generalize hts : gotT s = ts at hO0
    generalize hn : ts.length = n at hO0
    have HTS := Lib.hid hts
    have HN := Lib.hid hn
    clear hts hn
    have O0 := Lib.hid hO0
    clear hO0
    go_wp2_with fail
    refine (parse_any _ _ HS.out).mono ?_
    rintro e w2 ⟨A1, c1, rfl, hO1, hb2⟩
    rw [HTS.out, HN.out] at hO1
    rw [HTS.out, HN.out]
    have O1 := Lib.hid hO1
    clear hO1
    go_wp2_with fail
    refine (eqTurnS_gen _ _ _ _ _ _ _ ts _ O1.out (O0.out.keep hb2)).mono ?_
    rintro e w3 ⟨rfl, hb3⟩
    have hok : Below w.heap.size w w3 := bel_call (bel_call hb1 hb2) hb3
    rcases O1.out.2.2 with h0 | ⟨g1, rfl, hg1, hC1⟩
    · subst h0
      go_wp2_with (first | (go_at_call 34; refine (mark_zero _ _ _).mono ?_; rintro e w4 ⟨rfl, rfl⟩) | (go_at_call 35; refine (held_zero _ _ _).mono ?_; rintro e w4 ⟨rfl, rfl⟩))
      refine (parse_any _ _ HS.out).mono ?_
      rintro e w5 ⟨A2, c2, rfl, hO2, hb5⟩
      rw [HTS.out, HN.out] at hO2
      rw [HTS.out, HN.out]
      have O2 := Lib.hid hO2
      clear hO2
      go_wp2_with fail
      refine (eqTurnS_gen _ _ _ _ _ _ _ ts _ O2.out (((O0.out.keep hb2).keep hb3).keep hb5)).mono ?_
      rintro e w6 ⟨rfl, hb6⟩
      go_wp2_with (first | (go_at_call 35; refine (held_zero _ _ _).mono ?_; rintro e w4 ⟨rfl, rfl⟩))
      go_ret
      exact ⟨rfl, bel_call (bel_call hok hb5) hb6⟩
    · have hn1 : n ≤ 1000 := O1.out.2.1
      have hn0 : n = 0 ∨ ∃ g0, A0 = some ⟨g0, 0, none⟩ ∧ g0 < w1.heap.size ∧ Cells w3 g0 (n * 2) (turnF ts) := by
        rcases O0.out.2.2 with h0 | ⟨g0, e0, _, hC0⟩
        · exact .inl h0
        · exact .inr ⟨g0, e0, hC0.lt, (hC0.call hb2).call hb3⟩
      have H1 := Lib.hid (hC1.call hb3)
      have HN0 := Lib.hid hn0
      clear hC1 hn0
      go_wp2_with fail
      refine (markTurnS_any _ _ _ _ _ hn1 H1.out).mono ?_
      rintro e w4 ⟨rfl, hM4, hz4, hB4⟩
      have M4 := Lib.hid hM4
      have B4 := Lib.hid (hB4 w.heap.size (by have := hb1.size; omega))
      have HO4 : Hid (OwnT w4 0 A0 n ts) := Lib.hid ⟨O0.out.1, hn1, HN0.out.imp id fun ⟨g0, e0, hl, hC⟩ => ⟨g0, e0, Nat.zero_le _, hC.below (hB4 (g0 + 1) (by omega)) (by omega)⟩⟩
      clear hM4 hB4
      go_wp2_with (go_at_call 35; refine (heldTurnS_any _ _ _ _ hn1 M4.out).mono ?_; rintro e w5 ⟨rfl, rfl⟩)
      refine (parse_any _ _ HS.out).mono ?_
      rintro e w5 ⟨A2, c2, rfl, hO2, hb5⟩
      rw [HTS.out, HN.out] at hO2
      rw [HTS.out, HN.out]
      have O2 := Lib.hid hO2
      clear hO2
      go_wp2_with fail
      refine (eqTurnS_gen _ _ _ _ _ _ _ ts _ O2.out (HO4.out.keep hb5)).mono ?_
      rintro e w6 ⟨rfl, hb6⟩
      have M6 := Lib.hid ((M4.out.call hb5).call hb6)
      go_wp2_with (go_at_call 35; refine (heldTurnS_any _ _ _ _ hn1 M6.out).mono ?_; rintro e w7 ⟨rfl, rfl⟩)
      go_ret
      exact ⟨rfl, bel_call (bel_call (hok.trans B4.out) hb5) hb6⟩

set_option maxRecDepth 100000 in
theorem lifted (os : Os) (started : os.Started) (H : Type) (enc : TypeId × Value → H) :
    ReturnsInHanded {} Try.checked os 10 .any (Rows.fnExactParseTurnsSpec.pre6 enc Try.prog Try.f10 Rows.fnExactParseTurnsRow.domain false) (Rows.fnExactParseTurnsSpec.post enc Try.prog Try.f10 false true false false) := by
  refine returnsInHanded_of_change (C := Try.checked) Try.own started (by kernel_rfl) Try.func10
    (ChangeSpec.witness6 (enc := enc) (C := Try.checked) false ⟨#[], #[.string ByteArray.empty], []⟩ 8 (by kernel_rfl) (by kernel_rfl) (by kernel_rfl) (by kernel_rfl)) ?_
  intro W base args ds gs before hval0 hW _ _
  have hval : ∀ (j : Nat) t v, Try.f10.params[j]? = some t → args[j]? = some v → Value.okWide Try.prog W .any base t v := hval0
  have hW' := hW
  obtain ⟨p, q, hA0, hV, rfl, _, _⟩ := hW
  have hA : DataW.TrodAll enc Try.prog W 0 (fun _ => true) true Try.f10.params.toList args.toList ds p := hA0
  rw [Try.params10] at hA hval
  obtain ⟨v0, vs0, d0, ds0, p0, q0, hargs, rfl, rfl, h0, r0⟩ := trodAll_cons hA
  obtain ⟨rfl, rfl, rfl⟩ := trodAll_nil r0
  obtain rfl : args = #[v0] := by cases args; simp_all
  obtain ⟨rfl, rfl⟩ := trodVars_none hV
  have t0 := h0
  have lt0 : ∀ x ∈ p0, x.block < W.heap.size := by obtain ⟨m, hm⟩ := t0; exact DataW.trod_lt m _ _ _ hm
  have t0' := h0
  obtain ⟨x0, rfl, _, _, k0⟩ := open_string Try.underlying9 (hval 0 9 v0 rfl rfl) t0'
  clear hA0 hval0
  refine (lawParseTurns_true x0 k0 W).mono fun e W' ⟨he, bel⟩ => ?_
  subst he
  exact ⟨_, rfl, _, _, _, [], _, [], hW', trodAll_mk1 (shut_bool Try.underlying4 _), (trodAll_cons_mk (Below.trod Try.laidOut (by kernel_rfl) (of_decide_eq_true (by kernel_rfl)) h0 bel lt0) trodAll_mk0), rfl, bel.frame _, fun h => by cases h⟩

theorem over : Rows.fnExactParseTurnsRow.holds Try.pinned (OpenSpec.ofChange Rows.fnExactParseTurnsSpec) :=
  OpenClaim.holds_of_wide 10 Try.f10 rfl rfl rfl rfl rfl rfl rfl ⟨rfl, rfl, rfl, rfl, rfl⟩ rfl rfl rfl rfl rfl (by kernel_rfl) Try.func10 (by kernel_rfl)
    (of_decide_eq_true (by kernel_rfl)) (by unfold Func.isWrapper; rw [if_neg (of_decide_eq_false (by kernel_rfl))]; exact ⟨rfl, rfl⟩)
    (fun os started H enc _ => lifted os started H enc)

theorem proved : Rows.FnExactParseTurnsSaid := over
end Go.Proofs.Ythnekpdakjcadab.fnExactParseTurns
