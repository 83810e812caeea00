/- For every input at which the law FnExactSureDigits can be called it answers true and leaves its arguments as they were. No conditions. -/
import Derived.Test.YtkfddobdffgmiaaUp
import Derived.Test.YtkfddobdffgmiaaFacts
namespace Go.Proofs.Ytkfddobdffgmiaa.fnExactSureDigits
open Go.ChangeShapes Go.WideShapes Go.ChangeAt Go.RowKit Go.Joins
open Go.ChangeMaps (open_string shut_string)

set_option maxHeartbeats 2000000 in
theorem lawSureDigits_true (a b : Int) (A : Option Addr) (n c : Nat) (cs : List Clu) (_ : (Lit.int .i64 a).wf = true) (_ : (Lit.int .i64 b).wf = true) {w : World} (hA : ArgC w A n cs) (hn : n ≤ maxLen) (_ : World) :
    Calls Try.prog 9 #[.agg #[.int .i64 a, .int .i64 b, .slice A n c]] w fun e w' => e = .returned (.bool true) ∧ Below w.heap.size w w' := by
  have HA := Lib.hid hA
  have HN := Lib.hid hA.len
  unfold maxLen at hn
  clear hA
  obtain ⟨r0, hr0⟩ : ∃ r, (sdS a b cs) = r := ⟨_, rfl⟩
  obtain ⟨r1, hr1⟩ : ∃ r, (fsB a b cs) = r := ⟨_, rfl⟩
  have HR : Hid ((.tuple #[.string (sdS a b cs), .bool (fsB a b cs)] : Value) = .tuple #[.string r0, .bool r1]) := Lib.hid (by rw [← hr0, ← hr1])
  clear hr0 hr1
  go_enter Try.func9, Try.ntmps9
  go_wp2_with fail
  have CU := Cells.new (W := w) (cs := #[.int .i64 a, .int .i64 b, .slice A n c]) (t := 34) (g := w.heap.size) (n := 3) rfl rfl
  have hB0 : Below w.heap.size w (w.alloc (.cells #[.int .i64 a, .int .i64 b, .slice A n c] 34)) := (Below.refl _ _).alloc (Nat.le_refl _) _
  refine (szPuzzle_any _ _ _ _ _ _ (by omega)).mono ?_
  rintro e w1 ⟨⟨r, rfl, hr⟩, hb1⟩
  have D1 := Lib.hid (CU.call hb1)
  have X1 := Lib.hid (bel_call hB0 hb1)
  clear CU hB0 hb1
  by_cases hr0 : r < 0
  · go_wp2_with fail
    go_ret
    exact ⟨rfl, X1.out⟩
  · have hm := hr (by omega)
    have l0 : w1.cell? ⟨w.heap.size, 0, none⟩ = some (.int .i64 a) := D1.out.cell (show 0 < 3 by omega)
    have l1 : w1.cell? ⟨w.heap.size, 1, none⟩ = some (.int .i64 b) := D1.out.cell (show 1 < 3 by omega)
    have l2 : w1.cell? ⟨w.heap.size, 2, none⟩ = some (.slice A n c) := D1.out.cell (show 2 < 3 by omega)
    clear hr
    go_wp2_with fail
    refine (toPuzzle_any _ _ _ _ _ cs _ hm (HA.out.below X1.out)).mono ?_
    rintro e w2 ⟨g1, rfl, hg1, hG1, hb2⟩
    go_wp2_with fail
    refine (specSureDigits_any _ _ _ _ _ cs _ (by unfold maxLen; omega) (argC_of HN.out hG1)).mono ?_
    rw [HR.out]
    rintro e w3 ⟨rfl, hb3⟩
    have D3 := Lib.hid ((D1.out.call hb2).call hb3)
    have X3 := Lib.hid (bel_call (bel_call X1.out hb2) hb3)
    clear l0 l1 l2 hg1 hG1 hb2 hb3
    have l0 : w3.cell? ⟨w.heap.size, 0, none⟩ = some (.int .i64 a) := D3.out.cell (show 0 < 3 by omega)
    have l1 : w3.cell? ⟨w.heap.size, 1, none⟩ = some (.int .i64 b) := D3.out.cell (show 1 < 3 by omega)
    have l2 : w3.cell? ⟨w.heap.size, 2, none⟩ = some (.slice A n c) := D3.out.cell (show 2 < 3 by omega)
    go_wp2_with fail
    refine (toPuzzle_any _ _ _ _ _ cs _ hm (HA.out.below X3.out)).mono ?_
    rintro e w4 ⟨g2, rfl, hg2, hG2, hb4⟩
    go_wp2_with fail
    have CX := Cells.new (W := w4) (cs := #[.int .i64 a, .int .i64 b, .slice (some ⟨g2, 0, none⟩) n n]) (t := 39) (g := w4.heap.size) (n := 3) rfl rfl
    have hbx : Below w4.heap.size w4 (w4.alloc (.cells #[.int .i64 a, .int .i64 b, .slice (some ⟨g2, 0, none⟩) n n] 39)) := (Below.refl _ _).alloc (Nat.le_refl _) _
    refine (sureDigits_any _ _ _ _ _ cs _ (by unfold maxLen; omega) ((argC_of HN.out hG2).below hbx)).mono ?_
    rw [HR.out]
    rintro e w5 ⟨rfl, hb5⟩
    have D5 := Lib.hid (((D3.out.call hb4).call hbx).call hb5)
    have DX := Lib.hid (CX.call hb5)
    have X5 := Lib.hid (bel_call (bel_call (bel_call X3.out hb4) hbx) hb5)
    have K5 := Lib.hid (((argC_of HN.out hG2).below hbx).below hb5)
    obtain ⟨U, hU⟩ : ∃ U, w4.heap.size = U := ⟨_, rfl⟩
    rw [hU] at DX ⊢
    clear l0 l1 l2 hg2 hG2 hb4 hb5 CX hbx hU
    have l0 : w5.cell? ⟨w.heap.size, 0, none⟩ = some (.int .i64 a) := D5.out.cell (show 0 < 3 by omega)
    have l1 : w5.cell? ⟨w.heap.size, 1, none⟩ = some (.int .i64 b) := D5.out.cell (show 1 < 3 by omega)
    have l2 : w5.cell? ⟨w.heap.size, 2, none⟩ = some (.slice A n c) := D5.out.cell (show 2 < 3 by omega)
    have x0 : w5.cell? ⟨U, 0, none⟩ = some (.int .i64 a) := DX.out.cell (show 0 < 3 by omega)
    have x1 : w5.cell? ⟨U, 1, none⟩ = some (.int .i64 b) := DX.out.cell (show 1 < 3 by omega)
    have x2 : w5.cell? ⟨U, 2, none⟩ = some (.slice (some ⟨g2, 0, none⟩) n n) := DX.out.cell (show 2 < 3 by omega)
    go_wp2_with fail
    go_region_with (first
      | (go_at_call 24; refine (toPuzzle_any _ _ _ _ _ cs _ hm (HA.out.below (bel_drew X5.out))).mono ?_; rintro e w6 ⟨g3, rfl, hg3, hG3, hb6⟩
         have HB6 := Lib.hid (below_undrew hb6)
         have DX6 := Lib.hid (DX.out.call HB6.out)
         have K6 := Lib.hid (K5.out.below HB6.out)
         have KG6 := Lib.hid (argC_of HN.out hG3)
         have y0 : w6.cell? ⟨U, 0, none⟩ = some (.int .i64 a) := DX6.out.cell (show 0 < 3 by omega)
         have y1 : w6.cell? ⟨U, 1, none⟩ = some (.int .i64 b) := DX6.out.cell (show 1 < 3 by omega)
         have y2 : w6.cell? ⟨U, 2, none⟩ = some (.slice (some ⟨g2, 0, none⟩) n n) := DX6.out.cell (show 2 < 3 by omega)
         clear hb6 hG3 hg3)
      | (go_at_call 26; refine (eqPuzzle_any _ _ _ _ _ _ _ cs _ hm K6.out KG6.out).mono ?_; rintro e w7 ⟨rfl, hb7⟩))
    all_goals
      have HB7 := Lib.hid (bel_call (bel_call X5.out HB6.out) hb7)
      clear hb7
      go_wp2_with fail
      go_ret
      exact ⟨rfl, HB7.out⟩

set_option maxRecDepth 100000 in
theorem lifted (os : Os) (started : os.Started) (H : Type) (enc : TypeId × Value → H) :
    ReturnsInHanded {} Try.checked os 9 .any (Rows.fnExactSureDigitsSpec.pre6 enc Try.prog Try.f9 Rows.fnExactSureDigitsRow.domain false) (Rows.fnExactSureDigitsSpec.post enc Try.prog Try.f9 false true false false) := by
  refine returnsInHanded_of_change (C := Try.checked) Try.own started (by kernel_rfl) Try.func9
    (ChangeSpec.witness6 (enc := enc) (C := Try.checked) false ⟨#[], #[.agg #[.int .i64 0, .int .i64 0, .slice none 0 0]], []⟩ 8 (by kernel_rfl) (by kernel_rfl) (by kernel_rfl) (by kernel_rfl)) ?_
  intro W base args ds gs before hval0 hW _ _
  have hval : ∀ (j : Nat) t v, Try.f9.params[j]? = some t → args[j]? = some v → Value.okWide Try.prog W .any base t v := hval0
  have hW' := hW
  obtain ⟨p, q, hA0, hV, rfl, _, _⟩ := hW
  have hA : DataW.TrodAll enc Try.prog W 0 (fun _ => true) true Try.f9.params.toList args.toList ds p := hA0
  rw [Try.params9] at hA hval
  obtain ⟨v0, vs0, d0, ds0, p0, q0, hargs, rfl, rfl, h0, r0⟩ := trodAll_cons hA
  obtain ⟨rfl, rfl, rfl⟩ := trodAll_nil r0
  obtain rfl : args = #[v0] := by cases args; simp_all
  obtain ⟨rfl, rfl⟩ := trodVars_none hV
  have t0 := h0
  have lt0 : ∀ x ∈ p0, x.block < W.heap.size := by obtain ⟨m, hm⟩ := t0; exact DataW.trod_lt m _ _ _ hm
  have t0' := h0
  obtain ⟨x0, x0b, x0A, x0n, x0c, x0k, rfl, k0, l0, m0, o0⟩ := open_puzzle (hval 0 34 v0 rfl rfl) t0'
  clear hA0 hval0
  refine (lawSureDigits_true x0 x0b x0A x0n x0c x0k k0 l0 m0 o0 W).mono fun e W' ⟨he, bel⟩ => ?_
  subst he
  exact ⟨_, rfl, _, _, _, [], _, [], hW', trodAll_mk1 (shut_bool Try.underlying4 _), (trodAll_cons_mk (Below.trod Try.laidOut (by kernel_rfl) (of_decide_eq_true (by kernel_rfl)) h0 bel lt0) trodAll_mk0), rfl, bel.frame _, fun h => by cases h⟩

set_option maxRecDepth 100000 in
theorem jf : joinedFacts Try.pinned.checked.prog 9 Try.f9 Rows.fnExactSureDigitsSpec Rows.fnExactSureDigitsRow = true := by
  unfold joinedFacts
  rw [whole_all.1, whole_all.2.1, whole_all.2.2]
  kernel_rfl

theorem over : Rows.fnExactSureDigitsRow.holds Try.pinned (OpenSpec.ofChange Rows.fnExactSureDigitsSpec) :=
  OpenClaim.holds_of_wide 9 Try.f9 rfl rfl rfl rfl rfl rfl rfl ⟨rfl, rfl, rfl, rfl, rfl⟩ rfl rfl rfl rfl rfl (by kernel_rfl) Try.func9 jf
    (of_decide_eq_true (by kernel_rfl)) (by unfold Func.isWrapper; rw [if_neg (of_decide_eq_false (by kernel_rfl))]; exact ⟨rfl, rfl⟩)
    (fun os started H enc _ => lifted os started H enc)

theorem proved : Rows.FnExactSureDigitsSaid := over
end Go.Proofs.Ytkfddobdffgmiaa.fnExactSureDigits
