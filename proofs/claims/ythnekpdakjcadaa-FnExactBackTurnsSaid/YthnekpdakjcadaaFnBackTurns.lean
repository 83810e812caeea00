/- For every input at which the law FnExactBackTurns can be called it answers true and leaves its arguments as they were. No conditions. -/
import Derived.Test.YthnekpdakjcadaaBack4
import Derived.Test.YthnekpdakjcadaaOpenTurns
namespace Go.Proofs.Ythnekpdakjcadaa.fnExactBackTurns
open Go.ChangeShapes Go.WideShapes Go.ChangeAt Go.RowKit Go.Joins
open Go.ChangeMaps (open_string shut_string)

theorem mark_zero (A : Option Addr) (c : Nat) (w : World) :
    Calls Try.prog 34 #[.slice A 0 c, .int .i64 1] w fun e w' => e = .returned (.int .i64 1) ∧ w = w' := by
  go_enter Try.func34, Try.ntmps34
  go_wp2_with fail
  go_loop [1, 5] (fun m i => m = .int .i64 1 ∧ i = .int .i64 0) (fun _ _ => 0)
  case atStart => exact ⟨rfl, rfl⟩
  case round =>
    obtain ⟨rfl, rfl⟩ := hrel
    go_wp2_with fail
    go_ret
    exact ⟨rfl, rfl⟩

theorem held_zero (A : Option Addr) (c : Nat) (w : World) :
    Calls Try.prog 35 #[.slice A 0 c, .int .i64 1] w fun e w' => e = .returned (.int .i64 1) ∧ w = w' := by
  go_enter Try.func35, Try.ntmps35
  go_wp2_with fail
  go_loop [1, 5] (fun m i => m = .int .i64 1 ∧ i = .int .i64 0) (fun _ _ => 0)
  case atStart => exact ⟨rfl, rfl⟩
  case round =>
    obtain ⟨rfl, rfl⟩ := hrel
    go_wp2_with fail
    go_ret
    exact ⟨rfl, rfl⟩

theorem held_bel (g n c : Nat) (w : World) (hn : n ≤ 1000) (hC : Cells w g (n * 2) markF) :
    Calls Try.prog 35 #[.slice (some ⟨g, 0, none⟩) n c, .int .i64 1] w fun e w' => e = .returned (.int .i64 (1 + 2 * (n : Int))) ∧ Below w.heap.size w w' :=
  (heldTurnS_any g n c w hn hC).mono fun _ _ h => ⟨h.1, h.2 ▸ Below.refl _ _⟩

theorem ownT_other {w w' : World} {B : Nat} {A : Option Addr} {n g : Nat} {ts : List (Int × Int)} (h : OwnT w B A n ts) (hne : ∀ g0, A = some ⟨g0, 0, none⟩ → n = 0 ∨ g0 ≠ g) (hk : ∀ g' m f', g' ≠ g → Cells w g' m f' → Cells w' g' m f') : OwnT w' B A n ts := by
  refine ⟨h.1, h.2.1, ?_⟩
  rcases h.2.2 with h0 | ⟨g0, e0, hg, hC⟩
  · exact .inl h0
  · rcases hne g0 e0 with h0 | h1
    · exact .inl h0
    · exact .inr ⟨g0, e0, hg, hk g0 _ _ h1 hC⟩
theorem ownT_apart {w : World} {B : Nat} {A : Option Addr} {n : Nat} {ts : List (Int × Int)} (h : OwnT w B A n ts) : ∀ g0, A = some ⟨g0, 0, none⟩ → n = 0 ∨ (B ≤ g0 ∧ g0 < w.heap.size) := fun g0 e => by
  rcases h.2.2 with h0 | ⟨g1, e1, hg, hC⟩
  · exact .inl h0
  · rw [e] at e1; injection e1 with e1; injection e1 with e1 _ _; subst e1; exact .inr ⟨hg, hC.lt⟩

set_option maxHeartbeats 4000000 in
theorem lawBackTurns_true (a b : Int) (_ : (Lit.int .i64 a).wf = true) (_ : (Lit.int .i64 b).wf = true) (A : Option Addr) (n c : Nat) (ts : List (Int × Int)) {w : World} (hA : ArgT w A n ts) (hn : n ≤ maxLen) (_ : World) :
    Calls Try.prog 9 #[.agg #[.int .i64 a, .int .i64 b], .slice A n c] w fun e w' => e = .returned (.bool true) ∧ Below w.heap.size w w' := by
  have HA := Lib.hid hA
  unfold maxLen at hn
  clear hA
  by_cases hs2 : n ≤ 1048576
  · go_enter Try.func9, Try.ntmps9
    go_wp2_with (first | (go_at_call 27; refine (szTurnS_any _ _ _ _ hn).mono ?_; rw [if_pos hs2]; rintro e w1 ⟨rfl, rfl⟩) | (go_at_call 16; refine (toLock_any _ _ _).mono ?_; rintro e w1 ⟨rfl, hb⟩; obtain ⟨hc, hf, hz⟩ := bcell hb; have hz0 : w.heap.size < w1.heap.size := by (try simp at hz); omega))
    have X1 : Below w.heap.size w w1 := by (repeat (first | assumption | exact Below.refl _ _ | (refine Below.alloc ?_ (by first | omega | (simp; done) | (simp; omega)) _) | (refine Below.setCell ?_ (by first | omega | (simp; done) | (simp; omega)) _) | refine bel_drewN ?_ _ | refine bel_drew ?_ | (refine bel_call ?_ (by assumption))))
    have l0 : w1.cell? ⟨w.heap.size, 0, none⟩ = some (.int .i64 a) := by rw [hc _ _ (by simp)]; simp
    have l1 : w1.cell? ⟨w.heap.size, 1, none⟩ = some (.int .i64 b) := by rw [hc _ _ (by simp)]; simp
    have y1 : w.heap.size < w1.heap.size := hz0
    clear hc hf hz hb hz0
    refine (toTurnS_any _ _ _ ts _ hs2 (HA.out.below X1)).mono ?_
    rintro e w2 ⟨rfl, hC2, hb2⟩
    go_wp2_with fail
    refine (specBack_any _ _ ts _ _ _ _ HA.out.len hs2 hC2).mono ?_
    rintro e w3 ⟨A0, c0, rfl, hO0, hb3⟩
    generalize hbs : backZ a b ts = bs at hO0
    generalize hok : okBk a b ts = ok
    generalize hn0 : bs.length = n0 at hO0
    have HBS := Lib.hid hbs
    have HOK := Lib.hid hok
    have HN0 := Lib.hid hn0
    have O0 := Lib.hid hO0
    have X3 : Below w.heap.size w w3 := bel_call (bel_call X1 hb2) hb3
    have Y3 := Lib.hid (show Below w1.heap.size w1 w3 from bel_call hb2 hb3)
    have k0 := (Y3.out.cell (p := ⟨w.heap.size, 0, none⟩) y1).trans l0
    have k1 := (Y3.out.cell (p := ⟨w.heap.size, 1, none⟩) y1).trans l1
    have y3 : w.heap.size < w3.heap.size := Nat.lt_of_lt_of_le y1 Y3.out.size
    clear hbs hok hn0 hO0 hC2 hb2 hb3 X1 l0 l1 Y3
    go_wp2_with fail
    refine (toTurnS_any _ _ _ ts _ hs2 (HA.out.below X3)).mono ?_
    rintro e w4 ⟨rfl, hC4, hb4⟩
    have r0 := (hb4.cell (p := ⟨w.heap.size, 0, none⟩) y3).trans k0
    have r1 := (hb4.cell (p := ⟨w.heap.size, 1, none⟩) y3).trans k1
    go_wp2_with (go_at_call 16; refine (toLock_any _ _ _).mono ?_; rintro e w5 ⟨rfl, hb5⟩)
    refine (backTurns_any _ _ ts _ _ _ _ HA.out.len hs2 (hC4.call hb5)).mono ?_
    rintro e w6 ⟨A1, c1, rfl, hO1, hb6⟩
    rw [HBS.out, HN0.out] at hO1
    rw [HBS.out, HN0.out, HOK.out]
    have O1 := Lib.hid hO1
    have Y6 := Lib.hid (show Below w3.heap.size w3 w6 from bel_call (bel_call hb4 hb5) hb6)
    have C6 := Lib.hid ((hC4.call hb5).call hb6)
    have zx : w3.heap.size < w5.heap.size := Nat.lt_of_lt_of_le hC4.lt hb5.size
    have Z1 := Lib.hid (show ∀ g0, A1 = some ⟨g0, 0, none⟩ → n0 = 0 ∨ g0 ≠ w3.heap.size from fun g0 e => (ownT_apart hO1 g0 e).imp id fun h => by omega)
    have Z0 := Lib.hid (show ∀ g0, A0 = some ⟨g0, 0, none⟩ → n0 = 0 ∨ g0 ≠ w3.heap.size from fun g0 e => (ownT_apart O0.out g0 e).imp id fun h => by omega)
    have ZA1 := Lib.hid (show ∀ g0, A1 = some ⟨g0, 0, none⟩ → n0 = 0 ∨ w3.heap.size < g0 from fun g0 e => (ownT_apart hO1 g0 e).imp id fun h => by omega)
    have ZA0 := Lib.hid (show ∀ g0, A0 = some ⟨g0, 0, none⟩ → n0 = 0 ∨ g0 < w3.heap.size from fun g0 e => (ownT_apart O0.out g0 e).imp id fun h => h.2)
    clear hO1 hC4 hb4 hb5 hb6 zx r0 r1
    go_wp2_with fail
    refine (eqTurnS_gen _ _ _ _ _ _ _ bs _ O1.out (O0.out.keep Y6.out)).mono ?_
    rintro e w7 ⟨rfl, hb7⟩
    have X7 : Below w.heap.size w w7 := bel_call (bel_call X3 Y6.out) hb7
    go_wp2_with fail
    refine (toTurnS_any _ _ _ ts _ hs2 (HA.out.below X7)).mono ?_
    rintro e w8 ⟨rfl, hC8, hb8⟩
    go_wp2_with fail
    refine (eqTurnS_same _ _ _ _ _ ts _ hs2 ((C6.out.call hb7).call hb8) hC8).mono ?_
    rintro e w9 ⟨rfl, hb9⟩
    have Y9 := Lib.hid (show Below w6.heap.size w6 w9 from bel_call (bel_call hb7 hb8) hb9)
    have C9 := Lib.hid (C6.out.call Y9.out)
    have O09 := Lib.hid ((O0.out.keep Y6.out).keep Y9.out)
    have O19 := Lib.hid (O1.out.keep Y9.out)
    have YY := Lib.hid (show Below w3.heap.size w3 w9 from bel_call Y6.out Y9.out)
    clear hb7 hb8 hb9 hC8 X7 O0 O1 C6 Y6 Y9
    go_wp2_with fail
    refine (markTurnS_big _ _ _ _ _ hs2 C9.out).mono ?_
    rintro e w10 ⟨rfl, _, hz10, hB10, hK10⟩
    have O010 := Lib.hid (ownT_other O09.out Z0.out hK10)
    have O110 := Lib.hid (ownT_other O19.out Z1.out hK10)
    have YA := Lib.hid (show Below w3.heap.size w3 w10 from YY.out.trans (hB10 _ (Nat.le_refl _)))
    clear hz10 hB10 hK10 O09 O19 YY C9
    go_wp2_with fail
    refine (eqTurnS_gen _ _ _ _ _ _ _ bs _ O110.out O010.out).mono ?_
    rintro e w11 ⟨rfl, hb11⟩
    have YB := Lib.hid (show Below w3.heap.size w3 w11 from bel_call YA.out hb11)
    have XB : Below w.heap.size w w11 := bel_call X3 YB.out
    have q0 := (YB.out.cell (p := ⟨w.heap.size, 0, none⟩) y3).trans k0
    have q1 := (YB.out.cell (p := ⟨w.heap.size, 1, none⟩) y3).trans k1
    have O011 := Lib.hid (O010.out.keep hb11)
    have O111 := Lib.hid (O110.out.keep hb11)
    clear hb11 YA O010 O110 k0 k1
    by_cases h0 : n0 = 0
    · subst h0
      go_wp2_with (first | (go_at_call 34; refine (mark_zero _ _ _).mono ?_; rintro e w12 ⟨rfl, rfl⟩) | (go_at_call 35; refine (held_zero _ _ _).mono ?_; rintro e w12 ⟨rfl, rfl⟩) | (go_at_call 16; refine (toLock_any _ _ _).mono ?_; rintro e w13 ⟨rfl, hb13⟩))
      refine (toTurnS_any _ _ _ ts _ hs2 (HA.out.below (bel_call XB hb13))).mono ?_
      rintro e w14 ⟨rfl, hC14, hb14⟩
      go_wp2_with fail
      refine (backTurns_any _ _ ts _ _ _ _ HA.out.len hs2 hC14).mono ?_
      rintro e w15 ⟨A2, c2, rfl, hO2, hb15⟩
      rw [HBS.out, HN0.out] at hO2
      rw [HBS.out, HN0.out, HOK.out]
      have O2 := Lib.hid hO2
      clear hO2
      go_wp2_with fail
      refine (eqTurnS_gen _ _ _ _ _ _ _ bs _ O2.out (((O011.out.keep hb13).keep hb14).keep hb15)).mono ?_
      rintro e w16 ⟨rfl, hb16⟩
      go_wp2_with (go_at_call 35; refine (held_zero _ _ _).mono ?_; rintro e w17 ⟨rfl, rfl⟩)
      go_ret
      exact ⟨rfl, bel_call (bel_call (bel_call (bel_call XB hb13) hb14) hb15) hb16⟩
    · have hn1 : n0 ≤ 1000 := O111.out.2.1
      obtain ⟨g1, rfl, hg1, hC1⟩ := O111.out.2.2.resolve_left h0
      have z1 : w3.heap.size < g1 := (ZA1.out g1 rfl).resolve_left h0
      have HC1 := Lib.hid hC1
      clear hC1 h0
      go_wp2_with fail
      refine (markTurnS_big _ _ _ _ _ (by omega) HC1.out).mono ?_
      rintro e w12 ⟨rfl, hM12, hz12, hB12, hK12⟩
      have M12 := Lib.hid hM12
      have Y12 := Lib.hid (hB12 w3.heap.size (by omega))
      have O012 := Lib.hid (ownT_other O011.out (fun g0 e => (ZA0.out g0 e).imp id fun h => by omega) hK12)
      have X12 : Below w.heap.size w w12 := XB.trans (Y12.out.mono (Nat.le_of_lt y3))
      have s0 := (Y12.out.cell (p := ⟨w.heap.size, 0, none⟩) y3).trans q0
      have s1 := (Y12.out.cell (p := ⟨w.heap.size, 1, none⟩) y3).trans q1
      clear hM12 hz12 hB12 hK12 q0 q1
      go_wp2_with (first | (go_at_call 35; refine (heldTurnS_any _ _ _ _ hn1 M12.out).mono ?_; rintro e w13 ⟨rfl, rfl⟩) | (go_at_call 16; refine (toLock_any _ _ _).mono ?_; rintro e w14 ⟨rfl, hb14⟩))
      refine (toTurnS_any _ _ _ ts _ hs2 (HA.out.below (bel_call X12 hb14))).mono ?_
      rintro e w15 ⟨rfl, hC15, hb15⟩
      go_wp2_with fail
      refine (backTurns_any _ _ ts _ _ _ _ HA.out.len hs2 hC15).mono ?_
      rintro e w16 ⟨A2, c2, rfl, hO2, hb16⟩
      rw [HBS.out, HN0.out] at hO2
      rw [HBS.out, HN0.out, HOK.out]
      have O2 := Lib.hid hO2
      clear hO2
      go_wp2_with fail
      refine (eqTurnS_gen _ _ _ _ _ _ _ bs _ O2.out (((O012.out.keep hb14).keep hb15).keep hb16)).mono ?_
      rintro e w17 ⟨rfl, hb17⟩
      have M17 := Lib.hid ((((M12.out.call hb14).call hb15).call hb16).call hb17)
      go_wp2_with (go_at_call 35; refine (heldTurnS_any _ _ _ _ hn1 M17.out).mono ?_; rintro e w18 ⟨rfl, rfl⟩)
      go_ret
      exact ⟨rfl, bel_call (bel_call (bel_call (bel_call X12 hb14) hb15) hb16) hb17⟩
  · go_enter Try.func9, Try.ntmps9
    go_wp2_with (go_at_call 27; refine (szTurnS_any _ _ _ _ hn).mono ?_; rw [if_neg hs2]; rintro e w1 ⟨rfl, rfl⟩)
    go_ret
    refine ⟨rfl, ?_⟩
    (repeat (first | assumption | exact Below.refl _ _ | (refine Below.alloc ?_ (by first | omega | (simp; done) | (simp; omega)) _) | (refine Below.setCell ?_ (by first | omega | (simp; done) | (simp; omega)) _) | refine bel_drewN ?_ _ | refine bel_drew ?_ | (refine bel_call ?_ (by assumption))))

set_option maxRecDepth 100000 in
theorem lifted (os : Os) (started : os.Started) (H : Type) (enc : TypeId × Value → H) :
    ReturnsInHanded {} Try.checked os 9 .any (Rows.fnExactBackTurnsSpec.pre6 enc Try.prog Try.f9 Rows.fnExactBackTurnsRow.domain false) (Rows.fnExactBackTurnsSpec.post enc Try.prog Try.f9 false true false false) := by
  refine returnsInHanded_of_change (C := Try.checked) Try.own started (by kernel_rfl) Try.func9
    (ChangeSpec.witness6 (enc := enc) (C := Try.checked) false ⟨#[], #[.agg #[.int .i64 0, .int .i64 0], .slice none 0 0], []⟩ 8 (by kernel_rfl) (by kernel_rfl) (by kernel_rfl) (by kernel_rfl)) ?_
  intro W base args ds gs before hval0 hW _ _
  have hval : ∀ (j : Nat) t v, Try.f9.params[j]? = some t → args[j]? = some v → Value.okWide Try.prog W .any base t v := hval0
  have hW' := hW
  obtain ⟨p, q, hA0, hV, rfl, _, _⟩ := hW
  have hA : DataW.TrodAll enc Try.prog W 0 (fun _ => true) true Try.f9.params.toList args.toList ds p := hA0
  rw [Try.params9] at hA hval
  obtain ⟨v0, vs0, d0, ds0, p0, q0, hargs, rfl, rfl, h0, r0⟩ := trodAll_cons hA
  obtain ⟨v1, vs1, d1, ds1, p1, q1, rfl, rfl, rfl, h1, r1⟩ := trodAll_cons r0
  obtain ⟨rfl, rfl, rfl⟩ := trodAll_nil r1
  obtain rfl : args = #[v0, v1] := by cases args; simp_all
  obtain ⟨rfl, rfl⟩ := trodVars_none hV
  have t0 := h0
  have lt0 : ∀ x ∈ p0, x.block < W.heap.size := by obtain ⟨m, hm⟩ := t0; exact DataW.trod_lt m _ _ _ hm
  have t0' := h0
  have t1 := h1
  have lt1 : ∀ x ∈ p1, x.block < W.heap.size := by obtain ⟨m, hm⟩ := t1; exact DataW.trod_lt m _ _ _ hm
  have t1' := h1
  obtain ⟨x0, x0b, rfl, k0, l0⟩ := open_lock (hval 0 23 v0 rfl rfl) t0'
  obtain ⟨x1a, x1n, x1c, x1t, rfl, k1, l1⟩ := open_turns (hval 1 41 v1 rfl rfl) t1'
  clear hA0 hval0
  refine (lawBackTurns_true x0 x0b k0 l0 x1a x1n x1c x1t k1 l1 W).mono fun e W' ⟨he, bel⟩ => ?_
  subst he
  exact ⟨_, rfl, _, _, _, [], _, [], hW', trodAll_mk1 (shut_bool Try.underlying4 _), (trodAll_cons_mk (Below.trod Try.laidOut (by kernel_rfl) (of_decide_eq_true (by kernel_rfl)) h0 bel lt0) (trodAll_cons_mk (Below.trod Try.laidOut (by kernel_rfl) (of_decide_eq_true (by kernel_rfl)) h1 bel lt1) trodAll_mk0)), rfl, bel.frame _, fun h => by cases h⟩

theorem over : Rows.fnExactBackTurnsRow.holds Try.pinned (OpenSpec.ofChange Rows.fnExactBackTurnsSpec) :=
  OpenClaim.holds_of_wide 9 Try.f9 rfl rfl rfl rfl rfl rfl rfl ⟨rfl, rfl, rfl, rfl, rfl⟩ rfl rfl rfl rfl rfl (by kernel_rfl) Try.func9 (by kernel_rfl)
    (of_decide_eq_true (by kernel_rfl)) (by unfold Func.isWrapper; rw [if_neg (of_decide_eq_false (by kernel_rfl))]; exact ⟨rfl, rfl⟩)
    (fun os started H enc _ => lifted os started H enc)

theorem proved : Rows.FnExactBackTurnsSaid := over
end Go.Proofs.Ythnekpdakjcadaa.fnExactBackTurns
