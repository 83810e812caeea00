/- For every input at which the law FnExactTurnWheels can be called it answers true and leaves its arguments as they were. No conditions. -/
import Derived.Test.YthnekpdakjcadaaTurnWheelsSpec
import Derived.Test.YthnekpdakjcadaaEqTurns
namespace Go.Proofs.Ythnekpdakjcadaa.fnExactTurnWheels
open Go.ChangeShapes Go.WideShapes Go.ChangeAt Go.RowKit Go.Joins
open Go.ChangeMaps (open_string shut_string)

set_option maxHeartbeats 1000000 in
theorem lawTurnWheels_true (a b : Int) (_ : (Lit.int .i64 a).wf = true) (_ : (Lit.int .i64 b).wf = true) (s : ByteArray) (hs : s.size ≤ maxLen) (A : Option Addr) (n c : Nat) (ts : List (Int × Int)) {w : World} (hA : ArgT w A n ts) (hn : n ≤ maxLen) (_ : World) :
    Calls Try.prog 8 #[.agg #[.int .i64 a, .int .i64 b], .string s, .slice A n c] w fun e w' => e = .returned (.bool true) ∧ Below w.heap.size w w' := by
  have HS := Lib.hid hs
  unfold maxLen at hs
  have HA := Lib.hid hA
  unfold maxLen at hn
  clear hA
  by_cases hlen : 1048576 < s.size
  · go_enter Try.func8, Try.ntmps8
    go_wp2_with fail
    go_ret
    refine ⟨rfl, ?_⟩
    (repeat (first | assumption | exact Below.refl _ _ | (refine Below.alloc ?_ (by first | omega | (simp; done) | (simp; omega)) _) | (refine Below.setCell ?_ (by first | omega | (simp; done) | (simp; omega)) _) | refine bel_drewN ?_ _ | refine bel_drew ?_ | (refine bel_call ?_ (by assumption))))
  · by_cases hs2 : n ≤ 1048576
    · go_enter Try.func8, Try.ntmps8
      go_wp2_with (first | (go_at_call 27; refine (szTurnS_any _ _ _ _ hn).mono ?_; rw [if_pos hs2]; rintro e w1 ⟨rfl, rfl⟩) | (go_at_call 16; refine (toLock_any _ _ _).mono ?_; rintro e w1 ⟨rfl, hb⟩; obtain ⟨hc, hf, hz⟩ := bcell hb; have hz0 : w.heap.size < w1.heap.size := by (try simp at hz); omega))
      have X1 : Below w.heap.size w w1 := by (repeat (first | assumption | exact Below.refl _ _ | (refine Below.alloc ?_ (by first | omega | (simp; done) | (simp; omega)) _) | (refine Below.setCell ?_ (by first | omega | (simp; done) | (simp; omega)) _) | refine bel_drewN ?_ _ | refine bel_drew ?_ | (refine bel_call ?_ (by assumption))))
      have l0 : w1.cell? ⟨w.heap.size, 0, none⟩ = some (.int .i64 a) := by rw [hc _ _ (by simp)]; simp
      have l1 : w1.cell? ⟨w.heap.size, 1, none⟩ = some (.int .i64 b) := by rw [hc _ _ (by simp)]; simp
      have A1 := Lib.hid (HA.out.below X1)
      clear hc hf hz hb
      refine (toTurnS_any _ _ _ ts _ hs2 A1.out).mono ?_
      rintro e w2 ⟨rfl, hC2, hb2⟩
      have X2 : Below w.heap.size w w2 := bel_call X1 hb2
      have y2 : w.heap.size < w2.heap.size := Nat.lt_of_lt_of_le hz0 hb2.size
      have k0 : w2.cell? ⟨w.heap.size, 0, none⟩ = some (.int .i64 a) := by rw [hb2.cell (p := ⟨w.heap.size, 0, none⟩) hz0, l0]
      have k1 : w2.cell? ⟨w.heap.size, 1, none⟩ = some (.int .i64 b) := by rw [hb2.cell (p := ⟨w.heap.size, 1, none⟩) hz0, l1]
      have A2 := Lib.hid (A1.out.below hb2)
      have C2 := Lib.hid hC2
      clear X1 l0 l1 hC2 hb2 A1 HA
      go_wp2_with fail
      refine (specTurnWheels_any _ _ _ ts _ _ _ _ HS.out A2.out.len hs2 C2.out).mono ?_
      rintro e w3 ⟨rfl, hb3⟩
      have X3 : Below w.heap.size w w3 := bel_call X2 hb3
      have y3 : w.heap.size < w3.heap.size := Nat.lt_of_lt_of_le y2 hb3.size
      have l0 : w3.cell? ⟨w.heap.size, 0, none⟩ = some (.int .i64 a) := by rw [hb3.cell (p := ⟨w.heap.size, 0, none⟩) y2, k0]
      have l1 : w3.cell? ⟨w.heap.size, 1, none⟩ = some (.int .i64 b) := by rw [hb3.cell (p := ⟨w.heap.size, 1, none⟩) y2, k1]
      have A3 := Lib.hid (A2.out.below hb3)
      clear X2 k0 k1 hb3 A2 C2
      go_wp2_with fail
      refine (toTurnS_any _ _ _ ts _ hs2 A3.out).mono ?_
      rintro e w4 ⟨rfl, hC4, hb4⟩
      have X4 : Below w.heap.size w w4 := bel_call X3 hb4
      have y4 : w.heap.size < w4.heap.size := Nat.lt_of_lt_of_le y3 hb4.size
      have k0 : w4.cell? ⟨w.heap.size, 0, none⟩ = some (.int .i64 a) := by rw [hb4.cell (p := ⟨w.heap.size, 0, none⟩) y3, l0]
      have k1 : w4.cell? ⟨w.heap.size, 1, none⟩ = some (.int .i64 b) := by rw [hb4.cell (p := ⟨w.heap.size, 1, none⟩) y3, l1]
      have A4 := Lib.hid (A3.out.below hb4)
      have C4 := Lib.hid hC4
      clear X3 l0 l1 hC4 hb4 A3
      go_wp2_with (go_at_call 16; refine (toLock_any _ _ _).mono ?_; rintro e w5 ⟨rfl, hb5⟩)
      have C5 := Lib.hid (C4.out.call hb5)
      refine (turnWheels_any _ _ _ ts _ _ _ _ HS.out A4.out.len hs2 C5.out).mono ?_
      rintro e w6 ⟨rfl, hb6⟩
      go_wp2_with fail
      refine (toTurnS_any _ _ _ ts _ hs2 ((A4.out.below hb5).below hb6)).mono ?_
      rintro e w7 ⟨rfl, hC7, hb7⟩
      have C7 := Lib.hid hC7
      clear hC7
      go_wp2_with (go_at_call 31; refine (eqTurnS_same _ _ _ _ _ ts _ hs2 ((C5.out.call hb6).call hb7) C7.out).mono ?_; rintro e w8 ⟨rfl, hb8⟩)
      go_ret
      exact ⟨rfl, bel_call (bel_call (bel_call (bel_call X4 hb5) hb6) hb7) hb8⟩
    · go_enter Try.func8, Try.ntmps8
      go_wp2_with (go_at_call 27; refine (szTurnS_any _ _ _ _ hn).mono ?_; rw [if_neg hs2]; rintro e w1 ⟨rfl, rfl⟩)
      go_ret
      refine ⟨rfl, ?_⟩
      (repeat (first | assumption | exact Below.refl _ _ | (refine Below.alloc ?_ (by first | omega | (simp; done) | (simp; omega)) _) | (refine Below.setCell ?_ (by first | omega | (simp; done) | (simp; omega)) _) | refine bel_drewN ?_ _ | refine bel_drew ?_ | (refine bel_call ?_ (by assumption))))

set_option maxRecDepth 100000 in
theorem lifted (os : Os) (started : os.Started) (H : Type) (enc : TypeId × Value → H) :
    ReturnsInHanded {} Try.checked os 8 .any (Rows.fnExactTurnWheelsSpec.pre6 enc Try.prog Try.f8 Rows.fnExactTurnWheelsRow.domain false) (Rows.fnExactTurnWheelsSpec.post enc Try.prog Try.f8 false true false false) := by
  refine returnsInHanded_of_change (C := Try.checked) Try.own started (by kernel_rfl) Try.func8
    (ChangeSpec.witness6 (enc := enc) (C := Try.checked) false ⟨#[], #[.agg #[.int .i64 0, .int .i64 0], .string ByteArray.empty, .slice none 0 0], []⟩ 8 (by kernel_rfl) (by kernel_rfl) (by kernel_rfl) (by kernel_rfl)) ?_
  intro W base args ds gs before hval0 hW _ _
  have hval : ∀ (j : Nat) t v, Try.f8.params[j]? = some t → args[j]? = some v → Value.okWide Try.prog W .any base t v := hval0
  have hW' := hW
  obtain ⟨p, q, hA0, hV, rfl, _, _⟩ := hW
  have hA : DataW.TrodAll enc Try.prog W 0 (fun _ => true) true Try.f8.params.toList args.toList ds p := hA0
  rw [Try.params8] at hA hval
  obtain ⟨v0, vs0, d0, ds0, p0, q0, hargs, rfl, rfl, h0, r0⟩ := trodAll_cons hA
  obtain ⟨v1, vs1, d1, ds1, p1, q1, rfl, rfl, rfl, h1, r1⟩ := trodAll_cons r0
  obtain ⟨v2, vs2, d2, ds2, p2, q2, rfl, rfl, rfl, h2, r2⟩ := trodAll_cons r1
  obtain ⟨rfl, rfl, rfl⟩ := trodAll_nil r2
  obtain rfl : args = #[v0, v1, v2] := by cases args; simp_all
  obtain ⟨rfl, rfl⟩ := trodVars_none hV
  have t0 := h0
  have lt0 : ∀ x ∈ p0, x.block < W.heap.size := by obtain ⟨m, hm⟩ := t0; exact DataW.trod_lt m _ _ _ hm
  have t0' := h0
  have t1 := h1
  have lt1 : ∀ x ∈ p1, x.block < W.heap.size := by obtain ⟨m, hm⟩ := t1; exact DataW.trod_lt m _ _ _ hm
  have t1' := h1
  have t2 := h2
  have lt2 : ∀ x ∈ p2, x.block < W.heap.size := by obtain ⟨m, hm⟩ := t2; exact DataW.trod_lt m _ _ _ hm
  have t2' := h2
  obtain ⟨x0, x0b, rfl, k0, l0⟩ := open_lock (hval 0 23 v0 rfl rfl) t0'
  obtain ⟨x1, rfl, _, _, k1⟩ := open_string Try.underlying9 (hval 1 9 v1 rfl rfl) t1'
  obtain ⟨x2a, x2n, x2c, x2t, rfl, k2, l2⟩ := open_turns (hval 2 41 v2 rfl rfl) t2'
  clear hA0 hval0
  refine (lawTurnWheels_true x0 x0b k0 l0 x1 k1 x2a x2n x2c x2t k2 l2 W).mono fun e W' ⟨he, bel⟩ => ?_
  subst he
  exact ⟨_, rfl, _, _, _, [], _, [], hW', trodAll_mk1 (shut_bool Try.underlying4 _), (trodAll_cons_mk (Below.trod Try.laidOut (by kernel_rfl) (of_decide_eq_true (by kernel_rfl)) h0 bel lt0) (trodAll_cons_mk (Below.trod Try.laidOut (by kernel_rfl) (of_decide_eq_true (by kernel_rfl)) h1 bel lt1) (trodAll_cons_mk (Below.trod Try.laidOut (by kernel_rfl) (of_decide_eq_true (by kernel_rfl)) h2 bel lt2) trodAll_mk0))), rfl, bel.frame _, fun h => by cases h⟩

theorem over : Rows.fnExactTurnWheelsRow.holds Try.pinned (OpenSpec.ofChange Rows.fnExactTurnWheelsSpec) :=
  OpenClaim.holds_of_wide 8 Try.f8 rfl rfl rfl rfl rfl rfl rfl ⟨rfl, rfl, rfl, rfl, rfl⟩ rfl rfl rfl rfl rfl (by kernel_rfl) Try.func8 (by kernel_rfl)
    (of_decide_eq_true (by kernel_rfl)) (by unfold Func.isWrapper; rw [if_neg (of_decide_eq_false (by kernel_rfl))]; exact ⟨rfl, rfl⟩)
    (fun os started H enc _ => lifted os started H enc)

theorem proved : Rows.FnExactTurnWheelsSaid := over
end Go.Proofs.Ythnekpdakjcadaa.fnExactTurnWheels
