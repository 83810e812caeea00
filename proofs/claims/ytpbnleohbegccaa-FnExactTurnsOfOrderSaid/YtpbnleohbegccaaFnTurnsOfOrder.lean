/- For every input at which the law FnExactTurnsOfOrder can be called it answers true and leaves its arguments as they were. No conditions. -/
import Derived.Test.YtpbnleohbegccaaLv
import Derived.Test.YtpbnleohbegccaaOs
import Derived.Test.YtpbnleohbegccaaOq
import Derived.Test.YtpbnleohbegccaaOl
import Derived.Test.YtpbnleohbegccaaLq
import Derived.Test.YtpbnleohbegccaaOpenTurns
import Derived.Test.YtpbnleohbegccaaFacts
namespace Go.Proofs.Ytpbnleohbegccaa.fnExactTurnsOfOrder
open Go.ChangeShapes Go.WideShapes Go.ChangeAt Go.RowKit Go.Joins
open Go.ChangeMaps (open_string shut_string)

set_option maxHeartbeats 4000000 in
theorem lawTurnsOfOrder_true (a b : Int) (_ : (Lit.int .i64 a).wf = true) (_ : (Lit.int .i64 b).wf = true) (A : Option Addr) (n c : Nat) (ts : List ByteArray) {w : World} (hA : ArgS w A n ts) (hn : n ≤ maxLen) (_ : World) :
    Calls Try.prog 15 #[.agg #[.int .i64 a, .int .i64 b], .slice A n c] w fun e w' => e = .returned (.bool true) ∧ Below w.heap.size w w' := by
  have HA := Lib.hid hA
  have HN := Lib.hid hn
  have HL := Lib.hid hA.len
  have HZ := Lib.hid hA.sz
  unfold maxLen at hn
  clear hA
  obtain ⟨us, hz0⟩ : ∃ x, orT a b ts = x := ⟨_, rfl⟩
  obtain ⟨zo, hz1⟩ : ∃ x, orB a b ts = x := ⟨_, rfl⟩
  have HZ0 := Lib.hid hz0
  have HZ1 := Lib.hid hz1
  clear hz0 hz1
  have X0 := Lib.hid (show Below w.heap.size w (w.alloc (.cells #[.int .i64 a, .int .i64 b] 23)) from (Below.refl _ _).alloc (Nat.le_refl _) _)
  go_enter Try.func15, Try.ntmps15
  go_wp2_with fail
  refine (szStringS_any _ _ _ ts _ HN.out (HA.out.below X0.out)).mono ?_
  rintro e w1 ⟨r, rfl, hr1, hr2, hr3, hb1⟩
  have C1 := Lib.hid ((box_new (W := w) (a := a) (b := b) (t := 23) rfl).call hb1)
  have X1 := Lib.hid (bel_call X0.out hb1)
  clear hb1 X0
  by_cases hneg : r < 0
  · go_wp2_with fail
    go_ret
    exact ⟨rfl, X1.out⟩
  have hm0 := hr3 (by omega)
  have l0 : w1.cell? ⟨w.heap.size, 0, none⟩ = some (.int .i64 a) := C1.out.cell (show 0 < 2 by omega)
  have l1 : w1.cell? ⟨w.heap.size, 1, none⟩ = some (.int .i64 b) := C1.out.cell (show 1 < 2 by omega)
  go_wp2_with fail
  refine (toLock_any _ _ _).mono ?_
  rintro e w2 ⟨rfl, hb2⟩
  have C2 := Lib.hid (C1.out.call hb2)
  have X2 := Lib.hid (bel_call X1.out hb2)
  have s2 := hb2.size
  clear hb2 C1 X1
  clear l0 l1
  go_wp2_with fail
  refine (toStringS_any _ _ _ ts _ hm0 (HA.out.below X2.out)).mono ?_
  rintro e w3 ⟨rfl, hC, hb3⟩
  have D3 := Lib.hid hC
  clear hC
  have C3 := Lib.hid (C2.out.call hb3)
  have X3 := Lib.hid (bel_call X2.out hb3)
  have s3 := hb3.size
  clear hb3 C2 X2
  go_wp2_with fail
  refine (specTurnsOfOrder_any _ _ _ _ _ ts  _ (by unfold maxLen; omega) (argS_of HL.out HZ.out D3.out)).mono ?_
  intro e w4 h4
  obtain ⟨AK0, cK0, rfl, k0, hb4⟩ := h4.lt
  rw [HZ0.out] at k0
  rw [HZ0.out, HZ1.out]
  have K04 := Lib.hid k0
  clear k0 h4
  have C4 := Lib.hid (C3.out.call hb4)
  have X4 := Lib.hid (bel_call X3.out hb4)
  have s4 := hb4.size
  have D4 := Lib.hid (D3.out.call hb4)
  clear hb4 C3 X3 D3
  clear D4
  obtain ⟨U0, hU0⟩ : ∃ U, w3.heap.size = U := ⟨_, rfl⟩
  obtain ⟨U1, hU1⟩ : ∃ U, w4.heap.size = U := ⟨_, rfl⟩
  rw [hU0, hU1] at K04
  go_wp2_with fail
  refine (toStringS_any _ _ _ ts _ hm0 (HA.out.below X4.out)).mono ?_
  rintro e w5 ⟨rfl, hC, hb5⟩
  rw [hU1] at hC ⊢
  have D5 := Lib.hid hC
  have q1 := hC.lt
  have q0 : w.heap.size < U1 := by rw [← hU1]; exact C4.out.lt
  clear hC
  have C5 := Lib.hid (C4.out.call hb5)
  have X5 := Lib.hid (bel_call X4.out hb5)
  have s5 := hb5.size
  have K05 := Lib.hid (K04.out.call hb5)
  clear hb5 C4 X4 K04
  have l0 : w5.cell? ⟨w.heap.size, 0, none⟩ = some (.int .i64 a) := C5.out.cell (show 0 < 2 by omega)
  have l1 : w5.cell? ⟨w.heap.size, 1, none⟩ = some (.int .i64 b) := C5.out.cell (show 1 < 2 by omega)
  go_wp2_with fail
  refine (toLock_any _ _ _).mono ?_
  rintro e w6 ⟨rfl, hb6⟩
  have C6 := Lib.hid (C5.out.call hb6)
  have X6 := Lib.hid (bel_call X5.out hb6)
  have s6 := hb6.size
  have K06 := Lib.hid (K05.out.call hb6)
  have D6 := Lib.hid (D5.out.call hb6)
  clear hb6 C5 X5 K05 D5
  clear l0 l1
  have q2 : U1 < w6.heap.size := by omega
  go_wp2_with fail
  refine (turnsOfOrder_any _ _ _ _ _ ts  _ (by unfold maxLen; omega) (argS_of HL.out HZ.out D6.out)).mono ?_
  intro e w7 h7
  obtain ⟨AK1, cK1, rfl, k0, hb7⟩ := h7.lt
  rw [HZ0.out] at k0
  rw [HZ0.out, HZ1.out]
  have K17 := Lib.hid k0
  clear k0 h7
  have C7 := Lib.hid (C6.out.call hb7)
  have X7 := Lib.hid (bel_call X6.out hb7)
  have s7 := hb7.size
  have K07 := Lib.hid (K06.out.call hb7)
  have D7 := Lib.hid (D6.out.call hb7)
  clear hb7 C6 X6 K06 D6
  obtain ⟨U2, hU2⟩ : ∃ U, w6.heap.size = U := ⟨_, rfl⟩
  obtain ⟨U3, hU3⟩ : ∃ U, w7.heap.size = U := ⟨_, rfl⟩
  rw [hU2] at q2
  rw [hU2, hU3] at K17
  go_wp2_with fail
  refine (eqLT_any _ _ _ _ _ _ _ _ _ _ K17.out K07.out).mono ?_
  rintro e w8 ⟨rfl, hb8⟩
  have C8 := Lib.hid (C7.out.call hb8)
  have X8 := Lib.hid (bel_call X7.out hb8)
  have s8 := hb8.size
  have K08 := Lib.hid (K07.out.call hb8)
  have K18 := Lib.hid (K17.out.call hb8)
  have D8 := Lib.hid (D7.out.call hb8)
  clear hb8 C7 X7 K07 K17 D7
  go_wp2_with fail
  refine (toStringS_any _ _ _ ts _ hm0 (HA.out.below X8.out)).mono ?_
  rintro e w9 ⟨rfl, hC, hb9⟩
  have E9 := Lib.hid hC
  clear hC
  have C9 := Lib.hid (C8.out.call hb9)
  have X9 := Lib.hid (bel_call X8.out hb9)
  have s9 := hb9.size
  have K09 := Lib.hid (K08.out.call hb9)
  have K19 := Lib.hid (K18.out.call hb9)
  have D9 := Lib.hid (D8.out.call hb9)
  clear hb9 C8 X8 K08 K18 D8
  go_wp2_with fail
  refine (eqStringS_gen _ _ _ _ _ 0 0 ts _ (ownS_of HL.out hm0 D9.out) (ownS_of HL.out hm0 E9.out)).mono ?_
  rintro e w10 ⟨rfl, hb10⟩
  have C10 := Lib.hid (C9.out.call hb10)
  have X10 := Lib.hid (bel_call X9.out hb10)
  have s10 := hb10.size
  have K010 := Lib.hid (K09.out.call hb10)
  have K110 := Lib.hid (K19.out.call hb10)
  have D10 := Lib.hid (D9.out.call hb10)
  clear hb10 C9 X9 K09 K19 D9
  go_wp2_with fail
  refine (markX_any _ _ _ _ _ (by omega) D10.out (fun j _ => ⟨_, rfl⟩)).mono ?_
  rintro e w11 ⟨rfl, _, s11, m2, m3⟩
  have b1 := m2 w.heap.size (by omega)
  have X11 := Lib.hid (X10.out.trans b1)
  have C11 := Lib.hid (m3 _ _ _ (by omega) C10.out)
  have K011 := Lib.hid (K010.out.keep (g0 := U1) (by omega) m3)
  have K111 := Lib.hid (K110.out.keep (g0 := U1) (by omega) m3)
  clear m2 m3 b1 X10 C10 D10 K010 K110
  go_wp2_with fail
  refine (eqLT_any _ _ _ _ _ _ _ _ _ _ K111.out K011.out).mono ?_
  rintro e w12 ⟨rfl, hb12⟩
  have C12 := Lib.hid (C11.out.call hb12)
  have X12 := Lib.hid (bel_call X11.out hb12)
  have s12 := hb12.size
  have K012 := Lib.hid (K011.out.call hb12)
  have K112 := Lib.hid (K111.out.call hb12)
  clear hb12 C11 X11 K011 K111
  go_wp2_with fail
  refine (markLT_any _ _ _ _ _ _ K112.out).mono ?_
  rintro e w13 ⟨rfl, m1, s13, m2⟩
  have b1 := m2 U2 (Nat.le_refl _)
  have KM13 := Lib.hid m1
  have X13 := Lib.hid (X12.out.trans (b1.mono (by omega)))
  have C13 := Lib.hid (C12.out.below b1 (by omega))
  have K013 := Lib.hid (K012.out.below b1 (by omega))
  clear m1 m2 b1 X12 C12 K012 K112
  go_wp2_with fail
  refine (heldLT_any _ _ _ _ _ _ KM13.out).mono ?_
  rintro e w14 ⟨rfl, hb14⟩
  have C14 := Lib.hid (C13.out.call hb14)
  have X14 := Lib.hid (bel_call X13.out hb14)
  have s14 := hb14.size
  have K014 := Lib.hid (K013.out.call hb14)
  have KM14 := Lib.hid (KM13.out.call hb14)
  clear hb14 C13 X13 K013 KM13
  have l0 : w14.cell? ⟨w.heap.size, 0, none⟩ = some (.int .i64 a) := C14.out.cell (show 0 < 2 by omega)
  have l1 : w14.cell? ⟨w.heap.size, 1, none⟩ = some (.int .i64 b) := C14.out.cell (show 1 < 2 by omega)
  go_wp2_with fail
  refine (toLock_any _ _ _).mono ?_
  rintro e w15 ⟨rfl, hb15⟩
  have C15 := Lib.hid (C14.out.call hb15)
  have X15 := Lib.hid (bel_call X14.out hb15)
  have s15 := hb15.size
  have K015 := Lib.hid (K014.out.call hb15)
  have KM15 := Lib.hid (KM14.out.call hb15)
  clear hb15 C14 X14 K014 KM14
  clear l0 l1
  go_wp2_with fail
  refine (toStringS_any _ _ _ ts _ hm0 (HA.out.below X15.out)).mono ?_
  rintro e w16 ⟨rfl, hC, hb16⟩
  have D16 := Lib.hid hC
  clear hC
  have C16 := Lib.hid (C15.out.call hb16)
  have X16 := Lib.hid (bel_call X15.out hb16)
  have s16 := hb16.size
  have K016 := Lib.hid (K015.out.call hb16)
  have KM16 := Lib.hid (KM15.out.call hb16)
  clear hb16 C15 X15 K015 KM15
  go_wp2_with fail
  refine (turnsOfOrder_any _ _ _ _ _ ts  _ (by unfold maxLen; omega) (argS_of HL.out HZ.out D16.out)).mono ?_
  intro e w17 h17
  obtain ⟨AK4, cK4, rfl, k0, hb17⟩ := h17.lt
  rw [HZ0.out] at k0
  rw [HZ0.out, HZ1.out]
  have K417 := Lib.hid k0
  clear k0 h17
  have C17 := Lib.hid (C16.out.call hb17)
  have X17 := Lib.hid (bel_call X16.out hb17)
  have s17 := hb17.size
  have K017 := Lib.hid (K016.out.call hb17)
  have KM17 := Lib.hid (KM16.out.call hb17)
  have D17 := Lib.hid (D16.out.call hb17)
  clear hb17 C16 X16 K016 KM16 D16
  go_wp2_with fail
  refine (eqLT_any _ _ _ _ _ _ _ _ _ _ K417.out K017.out).mono ?_
  rintro e w18 ⟨rfl, hb18⟩
  have C18 := Lib.hid (C17.out.call hb18)
  have X18 := Lib.hid (bel_call X17.out hb18)
  have s18 := hb18.size
  have KM18 := Lib.hid (KM17.out.call hb18)
  clear hb18 C17 X17 KM17
  go_wp2_with fail
  refine (heldLT_any _ _ _ _ _ _ KM18.out).mono ?_
  rintro e w19 ⟨rfl, hb19⟩
  have C19 := Lib.hid (C18.out.call hb19)
  have X19 := Lib.hid (bel_call X18.out hb19)
  have s19 := hb19.size
  clear hb19 C18 X18
  go_wp2_with fail
  go_ret
  exact ⟨rfl, X19.out⟩

set_option maxRecDepth 100000 in
theorem lifted (os : Os) (started : os.Started) (H : Type) (enc : TypeId × Value → H) :
    ReturnsInHanded {} Try.checked os 15 .any (Rows.fnExactTurnsOfOrderSpec.pre6 enc Try.prog Try.f15 Rows.fnExactTurnsOfOrderRow.domain false) (Rows.fnExactTurnsOfOrderSpec.post enc Try.prog Try.f15 false true false false) := by
  refine returnsInHanded_of_change (C := Try.checked) Try.own started (by kernel_rfl) Try.func15
    (ChangeSpec.witness6 (enc := enc) (C := Try.checked) false ⟨#[], #[.agg #[.int .i64 0, .int .i64 0], .slice none 0 0], []⟩ 8 (by kernel_rfl) (by kernel_rfl) (by kernel_rfl) (by kernel_rfl)) ?_
  intro W base args ds gs before hval0 hW _ _
  have hval : ∀ (j : Nat) t v, Try.f15.params[j]? = some t → args[j]? = some v → Value.okWide Try.prog W .any base t v := hval0
  have hW' := hW
  obtain ⟨p, q, hA0, hV, rfl, _, _⟩ := hW
  have hA : DataW.TrodAll enc Try.prog W 0 (fun _ => true) true Try.f15.params.toList args.toList ds p := hA0
  rw [Try.params15] at hA hval
  obtain ⟨v0, vs0, d0, ds0, p0, q0, hargs, rfl, rfl, h0, r0⟩ := trodAll_cons hA
  obtain ⟨v1, vs1, d1, ds1, p1, q1, rfl, rfl, rfl, h1, r1⟩ := trodAll_cons r0
  obtain ⟨rfl, rfl, rfl⟩ := trodAll_nil r1
  obtain rfl : args = #[v0, v1] := by cases args; simp_all
  obtain ⟨rfl, rfl⟩ := trodVars_none hV
  have t0 := h0
  have lt0 : ∀ x ∈ p0, x.block < W.heap.size := by obtain ⟨m, hm⟩ := t0; exact DataW.trod_lt m _ _ _ hm
  have t0' := h0
  have t1 := h1
  have lt1 : ∀ x ∈ p1, x.block < W.heap.size := by obtain ⟨m, hm⟩ := t1; exact DataW.trod_lt m _ _ _ hm
  have t1' := h1
  obtain ⟨x0, x0b, rfl, k0, l0⟩ := open_lock (hval 0 23 v0 rfl rfl) t0'
  obtain ⟨x1a, x1n, x1c, x1t, rfl, k1, l1⟩ := open_strs (hval 1 37 v1 rfl rfl) t1'
  clear hA0 hval0
  refine (lawTurnsOfOrder_true x0 x0b k0 l0 x1a x1n x1c x1t k1 l1 W).mono fun e W' ⟨he, bel⟩ => ?_
  subst he
  exact ⟨_, rfl, _, _, _, [], _, [], hW', trodAll_mk1 (shut_bool Try.underlying4 _), (trodAll_cons_mk (Below.trod Try.laidOut (by kernel_rfl) (of_decide_eq_true (by kernel_rfl)) h0 bel lt0) (trodAll_cons_mk (Below.trod Try.laidOut (by kernel_rfl) (of_decide_eq_true (by kernel_rfl)) h1 bel lt1) trodAll_mk0)), rfl, bel.frame _, fun h => by cases h⟩

set_option maxRecDepth 100000 in
theorem jf : joinedFacts Try.pinned.checked.prog 15 Try.f15 Rows.fnExactTurnsOfOrderSpec Rows.fnExactTurnsOfOrderRow = true := by
  unfold joinedFacts
  rw [whole_all.1, whole_all.2.1, whole_all.2.2]
  kernel_rfl

theorem over : Rows.fnExactTurnsOfOrderRow.holds Try.pinned (OpenSpec.ofChange Rows.fnExactTurnsOfOrderSpec) :=
  OpenClaim.holds_of_wide_leaving 15 Try.f15 rfl rfl rfl rfl rfl rfl rfl ⟨rfl, rfl, rfl, rfl, rfl⟩ rfl rfl rfl rfl rfl (by kernel_rfl) Try.func15 jf
    (of_decide_eq_true (by kernel_rfl)) (by unfold Func.isWrapper; rw [if_neg (of_decide_eq_false (by kernel_rfl))]; exact ⟨rfl, rfl⟩)
    (fun os started H enc _ => leave_of_handed (lifted os started H enc))

theorem proved : Rows.FnExactTurnsOfOrderSaid := over
end Go.Proofs.Ytpbnleohbegccaa.fnExactTurnsOfOrder
