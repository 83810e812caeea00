/- For every input at which the law FnExactIsDesk can be called it answers true and leaves its arguments as they were. No conditions. -/
import Derived.Test.YthfhbkfifdgokaaKa
import Derived.Test.YthfhbkfifdgokaaFacts
namespace Go.Proofs.Ythfhbkfifdgokaa.fnExactIsDesk
open Go.ChangeShapes Go.WideShapes Go.ChangeAt Go.RowKit Go.Joins
open Go.ChangeMaps (open_string shut_string)

set_option maxHeartbeats 4000000 in
theorem lawIsDesk_true (a b : Int) (s : ByteArray) (A : Option Addr) (n c : Nat) (ts : List ByteArray) (_ : (Lit.int .i64 a).wf = true) (_ : (Lit.int .i64 b).wf = true) (hs : s.size ≤ maxLen) {w : World} (hA : ArgS w A n ts) (hn : n ≤ maxLen) (_ : World) :
    Calls Try.prog 4 #[.agg #[.int .i64 a, .int .i64 b, .string s, .slice A n c]] w fun e w' => e = .returned (.bool true) ∧ Below w.heap.size w w' := by
  have HA := Lib.hid hA
  have HN := Lib.hid hn
  have HS := Lib.hid hs
  have HL := Lib.hid hA.len
  have HZ := Lib.hid hA.sz
  have X0 := Lib.hid ((Below.refl w.heap.size w).alloc (Nat.le_refl _) (.cells #[.int .i64 a, .int .i64 b, .string s, .slice A n c] 33))
  have C0 : Hid (Cells (w.alloc (.cells #[.int .i64 a, .int .i64 b, .string s, .slice A n c] 33)) w.heap.size 4 (g4D a b s (.slice A n c))) := Lib.hid (Cells.new (n := 4) rfl rfl)
  clear hA hn hs
  go_enter Try.func4, Try.ntmps4
  go_wp2_with fail
  refine (szDesk_any _ _ _ _ _ _ ts _ HN.out HS.out (HA.out.below X0.out)).mono ?_
  rintro e w1 ⟨r, rfl, _, _, hr3, hb1⟩
  have C1 := Lib.hid (C0.out.call hb1)
  have X1 := Lib.hid (bel_call X0.out hb1)
  clear hb1 C0 X0
  by_cases hneg : r < 0
  · go_wp2_with fail
    go_ret
    exact ⟨rfl, X1.out⟩
  have hm := hr3 (by omega)
  clear hr3
  have l0 : w1.cell? ⟨w.heap.size, 0, none⟩ = some (.int .i64 a) := C1.out.cell (show 0 < 4 by omega)
  have l1 : w1.cell? ⟨w.heap.size, 1, none⟩ = some (.int .i64 b) := C1.out.cell (show 1 < 4 by omega)
  have l2 : w1.cell? ⟨w.heap.size, 2, none⟩ = some (.string s) := C1.out.cell (show 2 < 4 by omega)
  have l3 : w1.cell? ⟨w.heap.size, 3, none⟩ = some (.slice A n c) := C1.out.cell (show 3 < 4 by omega)
  go_wp2_with fail
  refine (toDesk_any _ _ _ _ _ _ ts _ hm (HA.out.below X1.out)).mono ?_
  rintro e w2 ⟨g, rfl, _, hC2, hb2⟩
  go_wp2_with fail
  refine (specIsDesk_any _ _ _ _ _ _ ts _ HN.out HS.out (argS_of HL.out HZ.out hC2)).mono ?_
  rintro e w3 ⟨rfl, hb3⟩
  have C3 := Lib.hid ((C1.out.call hb2).call hb3)
  have X3 := Lib.hid (bel_call (bel_call X1.out hb2) hb3)
  clear hb2 hb3 hC2 C1 X1 l0 l1 l2 l3
  have l0 : w3.cell? ⟨w.heap.size, 0, none⟩ = some (.int .i64 a) := C3.out.cell (show 0 < 4 by omega)
  have l1 : w3.cell? ⟨w.heap.size, 1, none⟩ = some (.int .i64 b) := C3.out.cell (show 1 < 4 by omega)
  have l2 : w3.cell? ⟨w.heap.size, 2, none⟩ = some (.string s) := C3.out.cell (show 2 < 4 by omega)
  have l3 : w3.cell? ⟨w.heap.size, 3, none⟩ = some (.slice A n c) := C3.out.cell (show 3 < 4 by omega)
  go_wp2_with fail
  refine (toDesk_any _ _ _ _ _ _ ts _ hm (HA.out.below X3.out)).mono ?_
  rintro e w4 ⟨g4, rfl, _, hC4, hb4⟩
  have X4 := Lib.hid (bel_call X3.out hb4)
  have C4 := Lib.hid (C3.out.call hb4)
  have HC4 := Lib.hid hC4
  have hxb : Below w4.heap.size w4 (w4.alloc (.cells #[.int .i64 a, .int .i64 b, .string s, .slice (some ⟨g4, 0, none⟩) n n] 26)) := (Below.refl _ _).alloc (Nat.le_refl _) _
  have D4 : Hid (Cells (w4.alloc (.cells #[.int .i64 a, .int .i64 b, .string s, .slice (some ⟨g4, 0, none⟩) n n] 26)) w4.heap.size 4 (g4D a b s (.slice (some ⟨g4, 0, none⟩) n n))) := Lib.hid (Cells.new (n := 4) rfl rfl)
  have HXB := Lib.hid hxb
  clear hb4 hC4 hxb l0 l1 l2 l3
  go_wp2_with fail
  refine (isDesk_any _ _ _ _ _ _ ts _ HN.out HS.out (argS_of HL.out HZ.out (HC4.out.call HXB.out))).mono ?_
  rintro e w5 ⟨rfl, hb5⟩
  have D5 := Lib.hid (D4.out.call hb5)
  have C5 := Lib.hid ((C4.out.call HXB.out).call hb5)
  have X5 := Lib.hid (bel_call (bel_call X4.out HXB.out) hb5)
  have HC5 := Lib.hid ((HC4.out.call HXB.out).call hb5)
  have hU : w4.heap.size < w5.heap.size := D5.out.lt
  obtain ⟨U, hUe⟩ : ∃ U, w4.heap.size = U := ⟨_, rfl⟩
  rw [hUe] at D5 ⊢
  have l0 : w5.cell? ⟨w.heap.size, 0, none⟩ = some (.int .i64 a) := C5.out.cell (show 0 < 4 by omega)
  have l1 : w5.cell? ⟨w.heap.size, 1, none⟩ = some (.int .i64 b) := C5.out.cell (show 1 < 4 by omega)
  have l2 : w5.cell? ⟨w.heap.size, 2, none⟩ = some (.string s) := C5.out.cell (show 2 < 4 by omega)
  have l3 : w5.cell? ⟨w.heap.size, 3, none⟩ = some (.slice A n c) := C5.out.cell (show 3 < 4 by omega)
  have d0 : w5.cell? ⟨U, 0, none⟩ = some (.int .i64 a) := D5.out.cell (show 0 < 4 by omega)
  have d1 : w5.cell? ⟨U, 1, none⟩ = some (.int .i64 b) := D5.out.cell (show 1 < 4 by omega)
  have d2 : w5.cell? ⟨U, 2, none⟩ = some (.string s) := D5.out.cell (show 2 < 4 by omega)
  have d3 : w5.cell? ⟨U, 3, none⟩ = some (.slice (some ⟨g4, 0, none⟩) n n) := D5.out.cell (show 3 < 4 by omega)
  clear hb5 hU hUe
  generalize dkB a b ts s = vv
  go_wp2_with fail
  go_region_with (first
    | (go_at_call 12; refine (toDesk_any _ _ _ _ _ _ ts _ hm (HA.out.below (bel_drew X5.out))).mono ?_; rintro e w6 ⟨g6, rfl, _, hC6, hb6⟩
       have HB6 := Lib.hid (show Below w5.heap.size w5 w6 from below_undrew hb6)
       have D6 := Lib.hid (D5.out.call HB6.out)
       have HC6 := Lib.hid (HC5.out.call HB6.out)
       have HD6 := Lib.hid hC6
       have e0 : w6.cell? ⟨U, 0, none⟩ = some (.int .i64 a) := D6.out.cell (show 0 < 4 by omega)
       have e1 : w6.cell? ⟨U, 1, none⟩ = some (.int .i64 b) := D6.out.cell (show 1 < 4 by omega)
       have e2 : w6.cell? ⟨U, 2, none⟩ = some (.string s) := D6.out.cell (show 2 < 4 by omega)
       have e3 : w6.cell? ⟨U, 3, none⟩ = some (.slice (some ⟨g4, 0, none⟩) n n) := D6.out.cell (show 3 < 4 by omega)
       clear hb6 hC6)
    | (go_at_call 7; refine (eqDesk_any _ _ _ _ _ _ _ _ _ _ ts _ (ownS_of HL.out hm HC6.out) (ownS_of HL.out hm HD6.out)).mono ?_; rintro e w8 ⟨rfl, hb8⟩))
  all_goals
    go_wp2_with fail
    go_ret
    exact ⟨rfl, bel_call (bel_call X5.out HB6.out) hb8⟩

set_option maxRecDepth 100000 in
theorem lifted (os : Os) (started : os.Started) (H : Type) (enc : TypeId × Value → H) :
    ReturnsInHanded {} Try.checked os 4 .any (Rows.fnExactIsDeskSpec.pre6 enc Try.prog Try.f4 Rows.fnExactIsDeskRow.domain false) (Rows.fnExactIsDeskSpec.post enc Try.prog Try.f4 false true false false) := by
  refine returnsInHanded_of_change (C := Try.checked) Try.own started (by kernel_rfl) Try.func4
    (ChangeSpec.witness6 (enc := enc) (C := Try.checked) false ⟨#[], #[.agg #[.int .i64 0, .int .i64 0, .string ByteArray.empty, .slice none 0 0]], []⟩ 8 (by kernel_rfl) (by kernel_rfl) (by kernel_rfl) (by kernel_rfl)) ?_
  intro W base args ds gs before hval0 hW _ _
  have hval : ∀ (j : Nat) t v, Try.f4.params[j]? = some t → args[j]? = some v → Value.okWide Try.prog W .any base t v := hval0
  have hW' := hW
  obtain ⟨p, q, hA0, hV, rfl, _, _⟩ := hW
  have hA : DataW.TrodAll enc Try.prog W 0 (fun _ => true) true Try.f4.params.toList args.toList ds p := hA0
  rw [Try.params4] at hA hval
  obtain ⟨v0, vs0, d0, ds0, p0, q0, hargs, rfl, rfl, h0, r0⟩ := trodAll_cons hA
  obtain ⟨rfl, rfl, rfl⟩ := trodAll_nil r0
  obtain rfl : args = #[v0] := by cases args; simp_all
  obtain ⟨rfl, rfl⟩ := trodVars_none hV
  have t0 := h0
  have lt0 : ∀ x ∈ p0, x.block < W.heap.size := by obtain ⟨m, hm⟩ := t0; exact DataW.trod_lt m _ _ _ hm
  have t0' := h0
  obtain ⟨x0, x0b, x0s, x0A, x0n, x0c, x0t, rfl, k0, l0, m0, o0, p0d⟩ := open_desk (hval 0 33 v0 rfl rfl) t0'
  clear hA0 hval0
  refine (lawIsDesk_true x0 x0b x0s x0A x0n x0c x0t k0 l0 m0 o0 p0d W).mono fun e W' ⟨he, bel⟩ => ?_
  subst he
  exact ⟨_, rfl, _, _, _, [], _, [], hW', trodAll_mk1 (shut_bool Try.underlying4 _), (trodAll_cons_mk (Below.trod Try.laidOut (by kernel_rfl) (of_decide_eq_true (by kernel_rfl)) h0 bel lt0) trodAll_mk0), rfl, bel.frame _, fun h => by cases h⟩

set_option maxRecDepth 100000 in
theorem jf : joinedFacts Try.pinned.checked.prog 4 Try.f4 Rows.fnExactIsDeskSpec Rows.fnExactIsDeskRow = true := by
  unfold joinedFacts
  rw [whole_all.1, whole_all.2.1, whole_all.2.2]
  kernel_rfl

theorem over : Rows.fnExactIsDeskRow.holds Try.pinned (OpenSpec.ofChange Rows.fnExactIsDeskSpec) :=
  OpenClaim.holds_of_wide 4 Try.f4 rfl rfl rfl rfl rfl rfl rfl ⟨rfl, rfl, rfl, rfl, rfl⟩ rfl rfl rfl rfl rfl (by kernel_rfl) Try.func4 jf
    (of_decide_eq_true (by kernel_rfl)) (by unfold Func.isWrapper; rw [if_neg (of_decide_eq_false (by kernel_rfl))]; exact ⟨rfl, rfl⟩)
    (fun os started H enc _ => lifted os started H enc)

theorem proved : Rows.FnExactIsDeskSaid := over
end Go.Proofs.Ythfhbkfifdgokaa.fnExactIsDesk
