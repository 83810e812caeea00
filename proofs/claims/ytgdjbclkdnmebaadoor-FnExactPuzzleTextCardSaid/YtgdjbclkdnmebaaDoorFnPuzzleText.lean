/- For every input at which the law FnExactPuzzleText can be called it answers true and leaves its arguments as they were. No conditions. -/
import Derived.Test.YtgdjbclkdnmebaaDoorJm
import Derived.Test.YtgdjbclkdnmebaaDoorFacts
import Derived.Test.YtgdjbclkdnmebaaDoorTie
import Derived.Test.YtgdjbclkdnmebaaDoorCards
import Derived.Lay
import Derived.LaidOnce
import Derived.LaidHandle
import Derived.Stop.Joined
import Derived.SevenTiedAt
import Derived.HandedShaped
import Derived.Shelf.Vars
import Derived.LaidLaws
import Derived.Stop.LaidErr
import Derived.Lib.LaidTab
namespace Go
variable {H : Type} {enc : TypeId × Value → H}

theorem Proofs.YtgdjbclkdnmebaaDoor.handed_both {a : Assume} {C : Checked} {os : Os} {f : FuncId} {fn : Func} {s : ChangeSpec} {conds : List PathCond} {apart fresh handsOn again : Bool} {X : World → Array Value → Prop}
    (hX : ∀ (w w' : World) (args : Array Value), w.heap = w'.heap → X w args → X w' args)
    (own : ownKnob C.prog.godebug = none) (started : os.Started) (noInit : C.prog.inits.idxOf? f = none) (hfn : C.prog.funcs[f]? = some fn)
    (witness : ∃ (w : World) (tape : Tape) (i : Input), w.os = os ∧ (w.forCall tape i).Shaped C.prog ∧ i.vars = [] ∧ Input.okWide C.prog (w.forCall tape i) .any w.heap.size f i ∧
      ((s.pre enc C.prog fn conds apart (w.forCall tape i).memory i.args ∧ X (w.forCall tape i).memory i.args) ∧ sizedMet enc C.prog fn (OpenSpec.ofChange s) apart (w.forCall tape i).memory i.args) ∧ a.holds C.prog (lone (Frame.enter C.prog f i.args .normal) [] (w.forCall tape i)))
    (walk : ∀ (W : World) (base : Nat) (args : Array Value) (ds gs : List (DataW H)) (before : List MemPlace),
      (∀ (j : Nat) t v, fn.params[j]? = some t → args[j]? = some v → Value.okWide C.prog W .any base t v) →
      DataW.Whole enc C.prog fn.params.toList s.vars apart W args.toList ds gs before → X W args → W.ShapedOpen C.prog →
      Calls C.prog f args W fun e W' => ∃ v, e = .returned v ∧ s.post enc C.prog fn apart fresh handsOn again W args v W') :
    ReturnsInHanded a C os f .any (fun w args => (s.pre enc C.prog fn conds apart w args ∧ X w args) ∧ sizedMet enc C.prog fn (OpenSpec.ofChange s) apart w args) (s.post enc C.prog fn apart fresh handsOn again) :=
  returnsInHanded_of_calls own started noInit witness fun w tape i _ hsh _ hok hpre _ => by
    obtain ⟨_, _, _, g, hg, _, _, _, _, hval⟩ := hok
    cases Option.some.inj (hg.symm.trans hfn)
    obtain ⟨⟨⟨ds, gs, before, hw, _⟩, hx⟩, _⟩ := hpre
    refine (walk (w.forCall tape i) w.heap.size i.args ds gs before hval (DataW.Whole.of_heap (w := (w.forCall tape i).memory) (w' := w.forCall tape i) (by rfl) hw) (hX (w.forCall tape i).memory _ _ (by rfl) hx) hsh).mono fun e W' ⟨v, he, hp⟩ => ?_
    subst he
    exact ChangeSpec.post_blind hp

end Go
namespace Go.Proofs.YtgdjbclkdnmebaaDoor.fnExactPuzzleText
open Go.ChangeShapes Go.WideShapes Go.ChangeAt Go.RowKit Go.Joins
open Go.ChangeMaps (open_string shut_string)

set_option maxHeartbeats 2000000 in
theorem lawPuzzleText_true (a b : Int) (A : Option Addr) (n c : Nat) (cs : List Clu) (_ : (Lit.int .i64 a).wf = true) (_ : (Lit.int .i64 b).wf = true) {w : World} (hA : ArgC w A n cs) (hn : n ≤ maxLen) (hT : TabW w) :
    Calls Tryd.prog 5 #[.agg #[.int .i64 a, .int .i64 b, .slice A n c]] w fun e w' => e = .returned (.bool true) ∧ Below w.heap.size w w' := by
  have HA := Lib.hid hA
  have HN := Lib.hid hA.len
  have HT := Lib.hid hT
  have hlow := hT.low
  clear hT
  unfold maxLen at hn
  clear hA
  obtain ⟨r0, hr0⟩ : ∃ r, (ptB a b cs) = r := ⟨_, rfl⟩
  obtain ⟨r1, hr1⟩ : ∃ r, (pzB a b cs) = r := ⟨_, rfl⟩
  have HR : Hid ((.tuple #[.string (ptB a b cs), .bool (pzB a b cs)] : Value) = .tuple #[.string r0, .bool r1]) := Lib.hid (by rw [← hr0, ← hr1])
  clear hr0 hr1
  go_enter Tryd.func5, Tryd.ntmps5
  go_wp2_with fail
  have CU := Cells.new (W := w) (cs := #[.int .i64 a, .int .i64 b, .slice A n c]) (t := 40) (g := w.heap.size) (n := 3) rfl rfl
  have hB0 : Below w.heap.size w (w.alloc (.cells #[.int .i64 a, .int .i64 b, .slice A n c] 40)) := (Below.refl _ _).alloc (Nat.le_refl _) _
  refine (szPuzzle_any _ _ _ _ _ _ (by omega)).mono ?_
  rintro e w1 ⟨⟨r, rfl, hr⟩, hb1⟩
  have D1 := Lib.hid (CU.call hb1)
  have X1 := Lib.hid (bel_call hB0 hb1)
  clear CU hB0 hb1
  by_cases hr0 : r < 0
  · go_wp2_with fail
    go_ret
    exact ⟨rfl, X1.out⟩
  · have hm := hr (by omega)
    have l0 : w1.cell? ⟨w.heap.size, 0, none⟩ = some (.int .i64 a) := D1.out.cell (show 0 < 3 by omega)
    have l1 : w1.cell? ⟨w.heap.size, 1, none⟩ = some (.int .i64 b) := D1.out.cell (show 1 < 3 by omega)
    have l2 : w1.cell? ⟨w.heap.size, 2, none⟩ = some (.slice A n c) := D1.out.cell (show 2 < 3 by omega)
    clear hr
    go_wp2_with fail
    refine (toPuzzle_any _ _ _ _ _ cs _ hm (HA.out.below X1.out)).mono ?_
    rintro e w2 ⟨g1, rfl, hg1, hG1, hb2⟩
    go_wp2_with fail
    refine (specPuzzleText_any _ _ _ _ _ cs _ (by unfold maxLen; omega) (argC_of HN.out hG1)).mono ?_
    rw [HR.out]
    rintro e w3 ⟨rfl, hb3⟩
    have D3 := Lib.hid ((D1.out.call hb2).call hb3)
    have X3 := Lib.hid (bel_call (bel_call X1.out hb2) hb3)
    clear l0 l1 l2 hg1 hG1 hb2 hb3
    have l0 : w3.cell? ⟨w.heap.size, 0, none⟩ = some (.int .i64 a) := D3.out.cell (show 0 < 3 by omega)
    have l1 : w3.cell? ⟨w.heap.size, 1, none⟩ = some (.int .i64 b) := D3.out.cell (show 1 < 3 by omega)
    have l2 : w3.cell? ⟨w.heap.size, 2, none⟩ = some (.slice A n c) := D3.out.cell (show 2 < 3 by omega)
    go_wp2_with fail
    refine (toPuzzle_any _ _ _ _ _ cs _ hm (HA.out.below X3.out)).mono ?_
    rintro e w4 ⟨g2, rfl, hg2, hG2, hb4⟩
    go_wp2_with fail
    have CX := Cells.new (W := w4) (cs := #[.int .i64 a, .int .i64 b, .slice (some ⟨g2, 0, none⟩) n n]) (t := 46) (g := w4.heap.size) (n := 3) rfl rfl
    have hbx : Below w4.heap.size w4 (w4.alloc (.cells #[.int .i64 a, .int .i64 b, .slice (some ⟨g2, 0, none⟩) n n] 46)) := (Below.refl _ _).alloc (Nat.le_refl _) _
    refine (puzzleText_any _ _ _ _ _ cs _ (by unfold maxLen; omega) ((argC_of HN.out hG2).below hbx) (HT.out.below (bel_call (bel_call X3.out hb4) hbx) hlow)).mono ?_
    rw [HR.out]
    rintro e w5 ⟨rfl, hb5⟩
    have D5 := Lib.hid (((D3.out.call hb4).call hbx).call hb5)
    have DX := Lib.hid (CX.call hb5)
    have X5 := Lib.hid (bel_call (bel_call (bel_call X3.out hb4) hbx) hb5)
    have K5 := Lib.hid (((argC_of HN.out hG2).below hbx).below hb5)
    obtain ⟨U, hU⟩ : ∃ U, w4.heap.size = U := ⟨_, rfl⟩
    rw [hU] at DX ⊢
    clear l0 l1 l2 hg2 hG2 hb4 hb5 CX hbx hU
    have l0 : w5.cell? ⟨w.heap.size, 0, none⟩ = some (.int .i64 a) := D5.out.cell (show 0 < 3 by omega)
    have l1 : w5.cell? ⟨w.heap.size, 1, none⟩ = some (.int .i64 b) := D5.out.cell (show 1 < 3 by omega)
    have l2 : w5.cell? ⟨w.heap.size, 2, none⟩ = some (.slice A n c) := D5.out.cell (show 2 < 3 by omega)
    have x0 : w5.cell? ⟨U, 0, none⟩ = some (.int .i64 a) := DX.out.cell (show 0 < 3 by omega)
    have x1 : w5.cell? ⟨U, 1, none⟩ = some (.int .i64 b) := DX.out.cell (show 1 < 3 by omega)
    have x2 : w5.cell? ⟨U, 2, none⟩ = some (.slice (some ⟨g2, 0, none⟩) n n) := DX.out.cell (show 2 < 3 by omega)
    go_wp2_with fail
    go_region_with (first
      | (go_at_call 18; refine (toPuzzle_any _ _ _ _ _ cs _ hm (HA.out.below (bel_drew X5.out))).mono ?_; rintro e w6 ⟨g3, rfl, hg3, hG3, hb6⟩
         have HB6 := Lib.hid (below_undrew hb6)
         have DX6 := Lib.hid (DX.out.call HB6.out)
         have K6 := Lib.hid (K5.out.below HB6.out)
         have KG6 := Lib.hid (argC_of HN.out hG3)
         have y0 : w6.cell? ⟨U, 0, none⟩ = some (.int .i64 a) := DX6.out.cell (show 0 < 3 by omega)
         have y1 : w6.cell? ⟨U, 1, none⟩ = some (.int .i64 b) := DX6.out.cell (show 1 < 3 by omega)
         have y2 : w6.cell? ⟨U, 2, none⟩ = some (.slice (some ⟨g2, 0, none⟩) n n) := DX6.out.cell (show 2 < 3 by omega)
         clear hb6 hG3 hg3)
      | (go_at_call 20; refine (eqPuzzle_any _ _ _ _ _ _ _ cs _ hm K6.out KG6.out).mono ?_; rintro e w7 ⟨rfl, hb7⟩))
    all_goals
      have HB7 := Lib.hid (bel_call (bel_call X5.out HB6.out) hb7)
      clear hb7
      go_wp2_with fail
      go_ret
      exact ⟨rfl, HB7.out⟩

theorem gTabT : (Tryd.prog.globals[3]?).map (·.type) = some 149 := by kernel_rfl
theorem cellsTab : Tryd.prog.cellsOf 149 = 20 := by kernel_rfl
theorem cellsU64 : Tryd.prog.cellsOf 128 = 1 := by kernel_rfl
theorem tabSame : (Rows.laid_internal_strconv_uint64pow10 : DataW Unit) = Lib.tabData .u64 Lib.pow10Tab := by rfl

/-- The table out of what the row lists. -/
theorem tabW_of {W : World} (hL : laidMetH Tryd.prog Rows.fnExactPuzzleTextRow.laid W) : TabW W := by
  rw [MakeChecks.laidMetH_plain _ _ _ (by kernel_rfl)] at hL
  have h3 := hL.tail.tail
  have h4 : laidMet Tryd.prog (("internal/strconv.uint64pow10", Lib.tabData .u64 Lib.pow10Tab) :: []) W := by
    rw [← tabSame]; exact h3
  have ht := Lib.tabIs_of_head gTab gTabT Tryd.underlying149 Tryd.underlying128 cellsU64 cellsTab h4
  have hc := ht.cell gTab 0 (by rw [Lib.pow10Tab_length]; omega)
  have := World.block_lt_of_cell? _ _ hc
  exact ⟨ht, this⟩

set_option maxRecDepth 100000 in
theorem lifted (os : Os) (started : os.Started) (H : Type) (enc : TypeId × Value → H) :
    ReturnsInHanded {} Tryd.checked os 5 .any (fun w args => (Rows.fnExactPuzzleTextSpec.pre enc Tryd.prog Tryd.f5 [] false w args ∧ laidMetH Tryd.prog Rows.fnExactPuzzleTextRow.laid w) ∧ sizedMet enc Tryd.prog Tryd.f5 (OpenSpec.ofChange Rows.fnExactPuzzleTextSpec) false w args)
      (Rows.fnExactPuzzleTextSpec.post enc Tryd.prog Tryd.f5 false true false false) := by
  refine handed_both (C := Tryd.checked) (X := fun w _ => laidMetH Tryd.prog Rows.fnExactPuzzleTextRow.laid w) (fun _ _ _ hh h => h.of_heap hh) Tryd.own started (by kernel_rfl) Tryd.func5
    (ChangeSpec.witness_shaped (enc := enc) (C := Tryd.checked) (os := os) (X := fun w _ => laidMetH Tryd.prog Rows.fnExactPuzzleTextRow.laid w) false (World.laidAll Tryd.prog os Rows.fnExactPuzzleTextRow.laid) #[.agg #[.int .i64 0, .int .i64 0, .slice none 0 0]] 8 (World.laidAll_os _ _ _)
      (World.shaped_of_ZipB (by kernel_rfl) (by kernel_rfl)) (by kernel_rfl) (by kernel_rfl) (by kernel_rfl)
      (by rw [MakeChecks.laidMetH_plain _ _ _ (by kernel_rfl)]; exact laidMet_laidAll _ (by kernel_rfl) (by kernel_rfl))) ?_
  intro W base args ds gs before hval0 hW hlaid hsh
  have hval : ∀ (j : Nat) t v, Tryd.f5.params[j]? = some t → args[j]? = some v → Value.okWide Tryd.prog W .any base t v := hval0
  have hW' := hW
  obtain ⟨p, q, hA0, hV, rfl, _, _⟩ := hW
  have hA : DataW.TrodAll enc Tryd.prog W 0 (fun _ => true) true Tryd.f5.params.toList args.toList ds p := hA0
  rw [Tryd.params5] at hA hval
  obtain ⟨v0, vs0, d0, ds0, p0, q0, hargs, rfl, rfl, h0, r0⟩ := trodAll_cons hA
  obtain ⟨rfl, rfl, rfl⟩ := trodAll_nil r0
  obtain rfl : args = #[v0] := by cases args; simp_all
  obtain ⟨rfl, rfl⟩ := trodVars_none hV
  have t0 := h0
  have lt0 : ∀ x ∈ p0, x.block < W.heap.size := by obtain ⟨m, hm⟩ := t0; exact DataW.trod_lt m _ _ _ hm
  have t0' := h0
  obtain ⟨x0, x0b, x0A, x0n, x0c, x0k, rfl, k0, l0, m0, o0⟩ := open_puzzle (hval 0 40 v0 rfl rfl) t0'
  clear hA0 hval0
  refine (lawPuzzleText_true x0 x0b x0A x0n x0c x0k k0 l0 m0 o0 (tabW_of hlaid)).mono fun e W' ⟨he, bel⟩ => ?_
  subst he
  exact ⟨_, rfl, _, _, _, [], _, [], hW', trodAll_mk1 (shut_bool Tryd.underlying4 _), (trodAll_cons_mk (Below.trod Tryd.laidOut (by kernel_rfl) (of_decide_eq_true (by kernel_rfl)) h0 bel lt0) trodAll_mk0), rfl, bel.frame _, fun h => by cases h⟩

set_option maxRecDepth 100000 in
theorem jf : joinedFacts Tryd.pinned.checked.prog 5 Tryd.f5 Rows.fnExactPuzzleTextSpec Rows.fnExactPuzzleTextRow = true := by
  unfold joinedFacts
  rw [whole_all.1, whole_all.2.1, whole_all.2.2]
  kernel_rfl

theorem over : Rows.FnExactPuzzleTextSaid :=
  OpenClaim.holds_of_wide 5 Tryd.f5 rfl rfl rfl rfl rfl rfl rfl ⟨rfl, rfl, rfl, rfl, rfl⟩ rfl rfl rfl rfl rfl (by kernel_rfl) Tryd.func5 jf
    (of_decide_eq_true (by kernel_rfl)) (by unfold Func.isWrapper; rw [if_neg (of_decide_eq_false (by kernel_rfl))]; exact ⟨rfl, rfl⟩)
    (fun os started H enc _ => lifted os started H enc)

theorem card : Rows.FnExactPuzzleTextCardSaid :=
  Claim7.holds_tied_plain_at .later [] [.data, .data, .data] true (true, "102c2a497bb0f3ec2a07be2bfaae409fb21fb539aafa85c2f3b460615d56b7b4") true
    over (fun _ h => by cases h) (by kernel_rfl) (fun _ h => by cases h) fnExactPuzzleText_row_tie rfl ⟨rfl, rfl⟩ (by kernel_rfl) rfl
    (fun f fn hf hfn => by
      obtain rfl : f = 5 := Option.some.inj ((show Tryd.prog.funcNamed "loop.example/g01304/laws.FnExactPuzzleText" = some 5 by kernel_rfl).symm.trans hf) |>.symm
      obtain rfl : fn = Tryd.f5 := (Option.some.inj (Tryd.func5.symm.trans hfn)).symm
      exact ⟨by kernel_rfl, fun j t ht => by
        rw [Tryd.params5] at ht
        have hm : t ∈ [40] := by simpa using Array.mem_of_getElem? ht
        have hall : ([40].all fun u => !Tryd.prog.wantsStandIn u) = true := by kernel_rfl
        exact (show Tryd.prog.wantsStandIn t = false by simpa using List.all_eq_true.1 hall t hm)⟩)
    (by kernel_rfl)

theorem proved : Rows.FnExactPuzzleTextCardSaid := card
end Go.Proofs.YtgdjbclkdnmebaaDoor.fnExactPuzzleText
