/- For every input at which the law FnExactPinsText can be called it answers true and leaves its arguments as they were. No conditions. -/
import Derived.Test.YtgdjbclkdnmebaaDoorJc
import Derived.Test.YtgdjbclkdnmebaaDoorFacts
import Derived.Test.YtgdjbclkdnmebaaDoorTie
import Derived.Test.YtgdjbclkdnmebaaDoorCards
import Derived.Lay
import Derived.LaidOnce
import Derived.LaidHandle
import Derived.Stop.Joined
import Derived.SevenTiedAt
namespace Go.Proofs.YtgdjbclkdnmebaaDoor.fnExactPinsText
open Go.ChangeShapes Go.WideShapes Go.ChangeAt Go.RowKit Go.Joins
open Go.ChangeMaps (open_string shut_string)

set_option maxHeartbeats 2000000 in
theorem lawPinsText_true (a : Int) (A : Option Addr) (n c : Nat) (ks : List (List Int)) (_ : (Lit.int .i64 a).wf = true) {w : World} (hA : KnobsA w A n ks) (hn : n ≤ maxLen) (_ : World) :
    Calls Tryd.prog 3 #[.agg #[.int .i64 a, .slice A n c]] w fun e w' => e = .returned (.bool true) ∧ Below w.heap.size w w' := by
  have HA := Lib.hid hA
  have HN := Lib.hid hA.len
  unfold maxLen at hn
  clear hA
  · go_enter Tryd.func3, Tryd.ntmps3
    go_wp2_with fail
    have CU : Cells (w.alloc (.cells #[.int .i64 a, .slice A n c] 24)) w.heap.size 2 (pF a (.slice A n c)) := Cells.new (n := 2) rfl rfl
    have hB0 : Below w.heap.size w (w.alloc (.cells #[.int .i64 a, .slice A n c] 24)) := (Below.refl _ _).alloc (Nat.le_refl _) _
    refine (szPins_any _ _ _ _ ks _ (by omega) (HA.out.below hB0)).mono ?_
    rintro e w1 ⟨⟨r, rfl, hr⟩, hb1⟩
    have D1 := Lib.hid (CU.call hb1)
    have X1 := Lib.hid (bel_call hB0 hb1)
    clear CU hB0 hb1
    by_cases hr0 : r < 0
    · go_wp2_with fail
      go_ret
      exact ⟨rfl, X1.out⟩
    · have hm := hr (by omega)
      have l0 : w1.cell? ⟨w.heap.size, 0, none⟩ = some (.int .i64 a) := D1.out.cell (show 0 < 2 by omega)
      have l1 : w1.cell? ⟨w.heap.size, 1, none⟩ = some (.slice A n c) := D1.out.cell (show 1 < 2 by omega)
      clear hr
      go_wp2_with fail
      refine (toPins_any _ _ _ _ ks _ hm (HA.out.below X1.out)).mono ?_
      rintro e w2 ⟨g1, rfl, hg1, ⟨G1, hG1⟩, hb2⟩
      go_wp2_with fail
      refine (specPinsText_any _ _ _ _ ks _ hm (hG1.knobsC HN.out)).mono ?_
      rintro e w3 ⟨rfl, hb3⟩
      have D3 := Lib.hid ((D1.out.call hb2).call hb3)
      have X3 := Lib.hid (bel_call (bel_call X1.out hb2) hb3)
      clear l0 l1 hg1 hG1 hb2 hb3
      have l0 : w3.cell? ⟨w.heap.size, 0, none⟩ = some (.int .i64 a) := D3.out.cell (show 0 < 2 by omega)
      have l1 : w3.cell? ⟨w.heap.size, 1, none⟩ = some (.slice A n c) := D3.out.cell (show 1 < 2 by omega)
      go_wp2_with fail
      refine (toPins_any _ _ _ _ ks _ hm (HA.out.below X3.out)).mono ?_
      rintro e w4 ⟨g2, rfl, hg2, ⟨G2, hG2⟩, hb4⟩
      go_wp2_with fail
      have CX : Cells (w4.alloc (.cells #[.int .i64 a, .slice (some ⟨g2, 0, none⟩) n n] 28)) w4.heap.size 2 (pF a (.slice (some ⟨g2, 0, none⟩) n n)) := Cells.new (n := 2) rfl rfl
      have hbx : Below w4.heap.size w4 (w4.alloc (.cells #[.int .i64 a, .slice (some ⟨g2, 0, none⟩) n n] 28)) := (Below.refl _ _).alloc (Nat.le_refl _) _
      refine (pinsText_any _ _ _ _ ks _ hm ((hG2.knobsC HN.out).below hbx)).mono ?_
      rintro e w5 ⟨rfl, hb5⟩
      have D5 := Lib.hid (((D3.out.call hb4).call hbx).call hb5)
      have DX := Lib.hid (CX.call hb5)
      have X5 := Lib.hid (bel_call (bel_call (bel_call X3.out hb4) hbx) hb5)
      have K5 := Lib.hid (((hG2.knobs HN.out hm).below hbx).below hb5)
      obtain ⟨U, hU⟩ : ∃ U, w4.heap.size = U := ⟨_, rfl⟩
      rw [hU] at DX ⊢
      clear l0 l1 hg2 hG2 hb4 hb5 CX hbx hU
      have l0 : w5.cell? ⟨w.heap.size, 0, none⟩ = some (.int .i64 a) := D5.out.cell (show 0 < 2 by omega)
      have l1 : w5.cell? ⟨w.heap.size, 1, none⟩ = some (.slice A n c) := D5.out.cell (show 1 < 2 by omega)
      have x0 : w5.cell? ⟨U, 0, none⟩ = some (.int .i64 a) := DX.out.cell (show 0 < 2 by omega)
      have x1 : w5.cell? ⟨U, 1, none⟩ = some (.slice (some ⟨g2, 0, none⟩) n n) := DX.out.cell (show 1 < 2 by omega)
      go_wp2_with fail
      go_region_with (first
        | (go_at_call 9; refine (toPins_any _ _ _ _ ks _ hm (HA.out.below (bel_drew X5.out))).mono ?_; rintro e w6 ⟨g3, rfl, hg3, ⟨G3, hG3⟩, hb6⟩
           have HB6 := Lib.hid (below_undrew hb6)
           have DX6 := Lib.hid (DX.out.call HB6.out)
           have K6 := Lib.hid (K5.out.below HB6.out)
           have KG6 := Lib.hid (hG3.knobs HN.out hm)
           have y0 : w6.cell? ⟨U, 0, none⟩ = some (.int .i64 a) := DX6.out.cell (show 0 < 2 by omega)
           have y1 : w6.cell? ⟨U, 1, none⟩ = some (.slice (some ⟨g2, 0, none⟩) n n) := DX6.out.cell (show 1 < 2 by omega)
           clear hb6 hG3 hg3)
        | (go_at_call 11; refine (eqPins_any _ _ _ _ _ _ ks _ hm K6.out KG6.out).mono ?_; rintro e w7 ⟨rfl, hb7⟩))
      all_goals
        have HB7 := Lib.hid (bel_call (bel_call X5.out HB6.out) hb7)
        clear hb7
        go_wp2_with fail
        go_ret
        exact ⟨rfl, HB7.out⟩

set_option maxRecDepth 100000 in
theorem lifted (os : Os) (started : os.Started) (H : Type) (enc : TypeId × Value → H) :
    ReturnsInHanded {} Tryd.checked os 3 .any (fun w args => (Rows.fnExactPinsTextSpec.pre enc Tryd.prog Tryd.f3 [] false w args ∧ laidMetH Tryd.prog Rows.fnExactPinsTextRow.laid w) ∧ sizedMet enc Tryd.prog Tryd.f3 (OpenSpec.ofChange Rows.fnExactPinsTextSpec) false w args)
      (Rows.fnExactPinsTextSpec.post enc Tryd.prog Tryd.f3 false true false false) := by
  refine returnsInHanded_of_change_and (C := Tryd.checked) (X := fun w _ => laidMetH Tryd.prog Rows.fnExactPinsTextRow.laid w) (fun _ _ _ hh h => h.of_heap hh) Tryd.own started (by kernel_rfl) Tryd.func3
    (ChangeSpec.witness_shaped (enc := enc) (C := Tryd.checked) (os := os) (X := fun w _ => laidMetH Tryd.prog Rows.fnExactPinsTextRow.laid w) false (World.laidAll Tryd.prog os Rows.fnExactPinsTextRow.laid) #[.agg #[.int .i64 0, .slice none 0 0]] 8 (World.laidAll_os _ _ _)
      (World.shaped_of_ZipB (by kernel_rfl) (by kernel_rfl)) (by kernel_rfl) (by kernel_rfl) (by kernel_rfl)
      (by rw [MakeChecks.laidMetH_plain _ _ _ (by kernel_rfl)]; exact laidMet_laidAll _ (by kernel_rfl) (by kernel_rfl))) ?_
  intro W base args ds gs before hval0 hW _ _ _ _
  have hval : ∀ (j : Nat) t v, Tryd.f3.params[j]? = some t → args[j]? = some v → Value.okWide Tryd.prog W .any base t v := hval0
  have hW' := hW
  obtain ⟨p, q, hA0, hV, rfl, _, _⟩ := hW
  have hA : DataW.TrodAll enc Tryd.prog W 0 (fun _ => true) true Tryd.f3.params.toList args.toList ds p := hA0
  rw [Tryd.params3] at hA hval
  obtain ⟨v0, vs0, d0, ds0, p0, q0, hargs, rfl, rfl, h0, r0⟩ := trodAll_cons hA
  obtain ⟨rfl, rfl, rfl⟩ := trodAll_nil r0
  obtain rfl : args = #[v0] := by cases args; simp_all
  obtain ⟨rfl, rfl⟩ := trodVars_none hV
  have t0 := h0
  have lt0 : ∀ x ∈ p0, x.block < W.heap.size := by obtain ⟨m, hm⟩ := t0; exact DataW.trod_lt m _ _ _ hm
  have t0' := h0
  obtain ⟨x0, x0A, x0n, x0c, x0k, rfl, k0, l0, m0⟩ := open_pins (hval 0 24 v0 rfl rfl) t0'
  clear hA0 hval0
  refine (lawPinsText_true x0 x0A x0n x0c x0k k0 l0 m0 W).mono fun e W' ⟨he, bel⟩ => ?_
  subst he
  exact ⟨_, rfl, _, _, _, [], _, [], hW', trodAll_mk1 (shut_bool Tryd.underlying4 _), (trodAll_cons_mk (Below.trod Tryd.laidOut (by kernel_rfl) (of_decide_eq_true (by kernel_rfl)) h0 bel lt0) trodAll_mk0), rfl, bel.frame _, fun h => by cases h⟩

set_option maxRecDepth 100000 in
theorem jf : joinedFacts Tryd.pinned.checked.prog 3 Tryd.f3 Rows.fnExactPinsTextSpec Rows.fnExactPinsTextRow = true := by
  unfold joinedFacts
  rw [whole_all.1, whole_all.2.1, whole_all.2.2]
  kernel_rfl

theorem over : Rows.FnExactPinsTextSaid :=
  OpenClaim.holds_of_wide 3 Tryd.f3 rfl rfl rfl rfl rfl rfl rfl ⟨rfl, rfl, rfl, rfl, rfl⟩ rfl rfl rfl rfl rfl (by kernel_rfl) Tryd.func3 jf
    (of_decide_eq_true (by kernel_rfl)) (by unfold Func.isWrapper; rw [if_neg (of_decide_eq_false (by kernel_rfl))]; exact ⟨rfl, rfl⟩)
    (fun os started H enc _ => lifted os started H enc)

theorem card : Rows.FnExactPinsTextCardSaid :=
  Claim7.holds_tied_plain_at .later [] [.data, .data, .data] true (true, "102c2a497bb0f3ec2a07be2bfaae409fb21fb539aafa85c2f3b460615d56b7b4") true
    over (fun _ h => by cases h) (by kernel_rfl) (fun _ h => by cases h) fnExactPinsText_row_tie rfl ⟨rfl, rfl⟩ (by kernel_rfl) rfl
    (fun f fn hf hfn => by
      obtain rfl : f = 3 := Option.some.inj ((show Tryd.prog.funcNamed "loop.example/g01304/laws.FnExactPinsText" = some 3 by kernel_rfl).symm.trans hf) |>.symm
      obtain rfl : fn = Tryd.f3 := (Option.some.inj (Tryd.func3.symm.trans hfn)).symm
      exact ⟨by kernel_rfl, fun j t ht => by
        rw [Tryd.params3] at ht
        have hm : t ∈ [24] := by simpa using Array.mem_of_getElem? ht
        have hall : ([24].all fun u => !Tryd.prog.wantsStandIn u) = true := by kernel_rfl
        exact (show Tryd.prog.wantsStandIn t = false by simpa using List.all_eq_true.1 hall t hm)⟩)
    (by kernel_rfl)

theorem proved : Rows.FnExactPinsTextCardSaid := card
end Go.Proofs.YtgdjbclkdnmebaaDoor.fnExactPinsText
