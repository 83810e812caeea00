/- For every input at which the law FnExactLeastWords can be called it answers true and leaves its arguments as they were. No conditions. -/
import Derived.Test.YteolmplbgmfhmaaDoorRf
import Derived.Test.YteolmplbgmfhmaaDoorFacts
import Derived.Test.YteolmplbgmfhmaaDoorTie
import Derived.Test.YteolmplbgmfhmaaDoorCards
import Derived.Lay
import Derived.LaidOnce
import Derived.LaidHandle
import Derived.Stop.Joined
import Derived.SevenTiedAt
namespace Go.Proofs.YteolmplbgmfhmaaDoor.fnExactLeastWords
open Go.ChangeShapes Go.WideShapes Go.ChangeAt Go.RowKit Go.Joins
open Go.ChangeMaps (open_string shut_string)

set_option maxHeartbeats 2000000 in
theorem lawLeastWords_true (a b : Int) (_ : (Lit.int .i64 a).wf = true) (_ : (Lit.int .i64 b).wf = true) (w : World) :
    Calls Tryd.prog 7 #[.agg #[.int .i64 a, .int .i64 b]] w fun e w' => e = .returned (.bool true) ∧ Below w.heap.size w w' := by
  go_enter Tryd.func7, Tryd.ntmps7
  go_wp2_with (first | (go_at_call 10; refine (toLock_any _ _ _).mono ?_; rintro e w1 ⟨rfl, hb⟩; obtain ⟨hc, hf, hz⟩ := bcell hb; have hz0 : w.heap.size < w1.heap.size := by (try simp at hz); omega))
  refine (specLeastWords_any _ _ _).mono ?_
  rintro e w2 ⟨A0, c0, rfl, hO0, hb2⟩
  generalize hts : lwL a b = ts at hO0
  generalize hn : ts.length = n at hO0
  have HTS := Lib.hid hts
  have HN := Lib.hid hn
  clear hts hn
  have O0 := Lib.hid hO0
  have HL0 : Hid (∀ g, A0 = some ⟨g, 0, none⟩ → n = 0 ∨ g < w2.heap.size) := Lib.hid (fun g e => by
    rcases hO0.2.2 with h0 | ⟨g0, e0, _, hC0⟩
    · exact .inl h0
    · rw [e0] at e; injection e with e; injection e with e _ _; subst e; exact .inr hC0.lt)
  clear hO0
  have l0 : w2.cell? ⟨w.heap.size, 0, none⟩ = some (.int .i64 a) := by rw [hb2.cell (p := ⟨w.heap.size, 0, none⟩) hz0, hc _ _ (by simp)]; simp
  have l1 : w2.cell? ⟨w.heap.size, 1, none⟩ = some (.int .i64 b) := by rw [hb2.cell (p := ⟨w.heap.size, 1, none⟩) hz0, hc _ _ (by simp)]; simp
  have z2 : w.heap.size < w2.heap.size := Nat.lt_of_lt_of_le hz0 hb2.size
  have HB2 := Lib.hid (show Below w.heap.size w w2 by (repeat (first | assumption | exact Below.refl _ _ | (refine Below.alloc ?_ (by first | omega | (simp; done) | (simp; omega)) _) | (refine Below.setCell ?_ (by first | omega | (simp; done) | (simp; omega)) _) | refine bel_drewN ?_ _ | refine bel_drew ?_ | (refine bel_call ?_ (by assumption)))))
  clear hc hf hz hb hb2
  go_wp2_with (go_at_call 10; refine (toLock_any _ _ _).mono ?_; rintro e w3 ⟨rfl, hb3⟩)
  refine (leastWordsR_any _ _ _).mono ?_
  rintro e w4 ⟨A1, c1, rfl, hO1, hb4⟩
  rw [HTS.out, HN.out] at hO1
  rw [HTS.out, HN.out]
  have O1 := Lib.hid hO1
  have O04 := Lib.hid ((O0.out.keep hb3).keep hb4)
  clear hO1 O0
  go_wp2_with fail
  refine (eqStringS_gen _ _ _ _ _ _ _ ts _ O1.out O04.out).mono ?_
  rintro e w5 ⟨rfl, hb5⟩
  have HB5 := Lib.hid (show Below w2.heap.size w2 w5 from bel_call (bel_call hb3 hb4) hb5)
  have O05 := Lib.hid (O04.out.keep hb5)
  have k0 : w5.cell? ⟨w.heap.size, 0, none⟩ = some (.int .i64 a) := by rw [HB5.out.cell (p := ⟨w.heap.size, 0, none⟩) z2]; exact l0
  have k1 : w5.cell? ⟨w.heap.size, 1, none⟩ = some (.int .i64 b) := by rw [HB5.out.cell (p := ⟨w.heap.size, 1, none⟩) z2]; exact l1
  have hg3 : w2.heap.size ≤ w3.heap.size := hb3.size
  clear l0 l1 hb3 hb4 O04
  rcases O1.out.2.2 with h0 | ⟨g1, rfl, hg1, hC1⟩
  · subst h0
    go_wp2_with (first | (go_at_call 21; refine (smark_zero _ _ _).mono ?_; rintro e w6 ⟨rfl, rfl⟩) | (go_at_call 22; refine (sheld_zero _ _ _).mono ?_; rintro e w6 ⟨rfl, rfl⟩) | (go_at_call 10; refine (toLock_any _ _ _).mono ?_; rintro e w7 ⟨rfl, hb7⟩))
    refine (leastWordsR_any _ _ _).mono ?_
    rintro e w8 ⟨A2, c2, rfl, hO2, hb8⟩
    rw [HTS.out, HN.out] at hO2
    rw [HTS.out, HN.out]
    have O2 := Lib.hid hO2
    clear hO2
    go_wp2_with fail
    refine (eqStringS_gen _ _ _ _ _ _ _ ts _ O2.out ((O05.out.keep hb7).keep hb8)).mono ?_
    rintro e w9 ⟨rfl, hb9⟩
    go_wp2_with (first | (go_at_call 22; refine (sheld_zero _ _ _).mono ?_; rintro e w6 ⟨rfl, rfl⟩))
    go_ret
    exact ⟨rfl, bel_call (bel_call (bel_call (bel_call HB2.out HB5.out) hb7) hb8) hb9⟩
  · have hn1 : n ≤ 100000000 := O1.out.2.1
    have hn0 : n = 0 ∨ ∃ g0, A0 = some ⟨g0, 0, none⟩ ∧ g0 < w3.heap.size ∧ Cells w5 g0 n (strF ts) := by
      rcases O05.out.2.2 with h0 | ⟨g0, e0, hg0, hC0⟩
      · exact .inl h0
      · rcases HL0.out g0 e0 with h0 | h1
        · exact .inl h0
        · exact .inr ⟨g0, e0, Nat.lt_of_lt_of_le h1 hg3, hC0⟩
    have H1 := Lib.hid (hC1.call hb5)
    have HN0 := Lib.hid hn0
    clear hC1 hn0
    go_wp2_with fail
    refine (markStringS_any _ _ _ _ _ hn1 H1.out (fun j _ => ⟨_, rfl⟩)).mono ?_
    rintro e w6 ⟨rfl, hM6, hz6, hB6⟩
    have M6 := Lib.hid hM6
    have HB6 := Lib.hid (show Below w2.heap.size w5 w6 from hB6 _ (by omega))
    have n0 : w6.cell? ⟨w.heap.size, 0, none⟩ = some (.int .i64 a) := by rw [HB6.out.cell (p := ⟨w.heap.size, 0, none⟩) z2]; exact k0
    have n1 : w6.cell? ⟨w.heap.size, 1, none⟩ = some (.int .i64 b) := by rw [HB6.out.cell (p := ⟨w.heap.size, 1, none⟩) z2]; exact k1
    have HO6 : Hid (OwnS w6 0 A0 n ts) := Lib.hid ⟨O05.out.1, hn1, HN0.out.imp id fun ⟨g0, e0, hl, hC⟩ => ⟨g0, e0, Nat.zero_le _, hC.below (hB6 (g0 + 1) (by omega)) (by omega)⟩⟩
    have z6 : w.heap.size < w6.heap.size := by have h1 := HB5.out.size; have h2 := HB6.out.size; omega
    clear hM6 hB6 k0 k1
    go_wp2_with (first | (go_at_call 22; refine (heldStringS_any _ _ _ _ hn1 M6.out).mono ?_; rintro e w7 ⟨rfl, hb7⟩; have r0 := (hb7.cell (p := ⟨w.heap.size, 0, none⟩) z6).trans n0; have r1 := (hb7.cell (p := ⟨w.heap.size, 1, none⟩) z6).trans n1) | (go_at_call 10; refine (toLock_any _ _ _).mono ?_; rintro e w8 ⟨rfl, hb8⟩))
    refine (leastWordsR_any _ _ _).mono ?_
    rintro e w9 ⟨A2, c2, rfl, hO2, hb9⟩
    rw [HTS.out, HN.out] at hO2
    rw [HTS.out, HN.out]
    have O2 := Lib.hid hO2
    clear hO2
    go_wp2_with fail
    refine (eqStringS_gen _ _ _ _ _ _ _ ts _ O2.out (((HO6.out.keep hb7).keep hb8).keep hb9)).mono ?_
    rintro e w10 ⟨rfl, hb10⟩
    have M10 := Lib.hid ((((M6.out.call hb7).call hb8).call hb9).call hb10)
    go_wp2_with (go_at_call 22; refine (heldStringS_any _ _ _ _ hn1 M10.out).mono ?_; rintro e w11 ⟨rfl, hb11⟩)
    go_ret
    exact ⟨rfl, bel_call (bel_call (bel_call (bel_call (bel_call ((bel_call HB2.out HB5.out).trans (HB6.out.mono (Nat.le_of_lt z2))) hb7) hb8) hb9) hb10) hb11⟩

set_option maxRecDepth 100000 in
theorem lifted (os : Os) (started : os.Started) (H : Type) (enc : TypeId × Value → H) :
    ReturnsInHanded {} Tryd.checked os 7 .any (fun w args => (Rows.fnExactLeastWordsSpec.pre enc Tryd.prog Tryd.f7 [] false w args ∧ laidMetH Tryd.prog Rows.fnExactLeastWordsRow.laid w) ∧ sizedMet enc Tryd.prog Tryd.f7 (OpenSpec.ofChange Rows.fnExactLeastWordsSpec) false w args)
      (Rows.fnExactLeastWordsSpec.post enc Tryd.prog Tryd.f7 false true false false) := by
  refine returnsInHanded_of_change_and (C := Tryd.checked) (X := fun w _ => laidMetH Tryd.prog Rows.fnExactLeastWordsRow.laid w) (fun _ _ _ hh h => h.of_heap hh) Tryd.own started (by kernel_rfl) Tryd.func7
    (ChangeSpec.witness_shaped (enc := enc) (C := Tryd.checked) (os := os) (X := fun w _ => laidMetH Tryd.prog Rows.fnExactLeastWordsRow.laid w) false (World.laidAll Tryd.prog os Rows.fnExactLeastWordsRow.laid) #[.agg #[.int .i64 0, .int .i64 0]] 8 (World.laidAll_os _ _ _)
      (World.shaped_of_ZipB (by kernel_rfl) (by kernel_rfl)) (by kernel_rfl) (by kernel_rfl) (by kernel_rfl)
      (by rw [MakeChecks.laidMetH_plain _ _ _ (by kernel_rfl)]; exact laidMet_laidAll _ (by kernel_rfl) (by kernel_rfl))) ?_
  intro W base args ds gs before hval0 hW _ _ _ _
  have hval : ∀ (j : Nat) t v, Tryd.f7.params[j]? = some t → args[j]? = some v → Value.okWide Tryd.prog W .any base t v := hval0
  have hW' := hW
  obtain ⟨p, q, hA0, hV, rfl, _, _⟩ := hW
  have hA : DataW.TrodAll enc Tryd.prog W 0 (fun _ => true) true Tryd.f7.params.toList args.toList ds p := hA0
  rw [Tryd.params7] at hA hval
  obtain ⟨v0, vs0, d0, ds0, p0, q0, hargs, rfl, rfl, h0, r0⟩ := trodAll_cons hA
  obtain ⟨rfl, rfl, rfl⟩ := trodAll_nil r0
  obtain rfl : args = #[v0] := by cases args; simp_all
  obtain ⟨rfl, rfl⟩ := trodVars_none hV
  have t0 := h0
  have lt0 : ∀ x ∈ p0, x.block < W.heap.size := by obtain ⟨m, hm⟩ := t0; exact DataW.trod_lt m _ _ _ hm
  have t0' := h0
  obtain ⟨x0, x0b, rfl, k0, l0⟩ := open_lock (hval 0 23 v0 rfl rfl) t0'
  clear hA0 hval0
  refine (lawLeastWords_true x0 x0b k0 l0 W).mono fun e W' ⟨he, bel⟩ => ?_
  subst he
  exact ⟨_, rfl, _, _, _, [], _, [], hW', trodAll_mk1 (shut_bool Tryd.underlying4 _), (trodAll_cons_mk (Below.trod Tryd.laidOut (by kernel_rfl) (of_decide_eq_true (by kernel_rfl)) h0 bel lt0) trodAll_mk0), rfl, bel.frame _, fun h => by cases h⟩

set_option maxRecDepth 100000 in
theorem jf : joinedFacts Tryd.pinned.checked.prog 7 Tryd.f7 Rows.fnExactLeastWordsSpec Rows.fnExactLeastWordsRow = true := by
  unfold joinedFacts
  rw [whole_all.1, whole_all.2.1, whole_all.2.2]
  kernel_rfl

theorem over : Rows.FnExactLeastWordsSaid :=
  OpenClaim.holds_of_wide 7 Tryd.f7 rfl rfl rfl rfl rfl rfl rfl ⟨rfl, rfl, rfl, rfl, rfl⟩ rfl rfl rfl rfl rfl (by kernel_rfl) Tryd.func7 jf
    (of_decide_eq_true (by kernel_rfl)) (by unfold Func.isWrapper; rw [if_neg (of_decide_eq_false (by kernel_rfl))]; exact ⟨rfl, rfl⟩)
    (fun os started H enc _ => lifted os started H enc)

theorem card : Rows.FnExactLeastWordsCardSaid :=
  Claim7.holds_tied_plain_at .later [] [.data, .pinned] true (true, "b510c07f0c86b925a9fa6362055e44ec8cc6517653674b74aa086380088c0875") false
    over (fun _ h => by cases h) (by kernel_rfl) (fun _ h => by cases h) fnExactLeastWords_row_tie rfl ⟨rfl, rfl⟩ (by kernel_rfl) rfl
    (fun f fn hf hfn => by
      obtain rfl : f = 7 := Option.some.inj ((show Tryd.prog.funcNamed "loop.example/g01304/laws.FnExactLeastWords" = some 7 by kernel_rfl).symm.trans hf) |>.symm
      obtain rfl : fn = Tryd.f7 := (Option.some.inj (Tryd.func7.symm.trans hfn)).symm
      exact ⟨by kernel_rfl, fun j t ht => by
        rw [Tryd.params7] at ht
        have hm : t ∈ [23] := by simpa using Array.mem_of_getElem? ht
        have hall : ([23].all fun u => !Tryd.prog.wantsStandIn u) = true := by kernel_rfl
        exact (show Tryd.prog.wantsStandIn t = false by simpa using List.all_eq_true.1 hall t hm)⟩)
    (by kernel_rfl)

theorem proved : Rows.FnExactLeastWordsCardSaid := card
end Go.Proofs.YteolmplbgmfhmaaDoor.fnExactLeastWords
