/- For every input at which the law FnExactFirstDesk can be called it answers true and leaves its arguments as they were. No conditions. -/
import Derived.Test.YthfhbkfifdgokaaKb
import Derived.Test.YthfhbkfifdgokaaFacts
namespace Go.Proofs.Ythfhbkfifdgokaa.fnExactFirstDesk
open Go.ChangeShapes Go.WideShapes Go.ChangeAt Go.RowKit Go.Joins
open Go.ChangeMaps (open_string shut_string)

set_option maxHeartbeats 4000000 in
theorem lawFirstDesk_true (w : World) :
    Calls Try.prog 3 #[] w fun e w' => e = .returned (.bool true) ∧ Below w.heap.size w w' := by
  go_enter Try.func3, Try.ntmps3
  go_wp2_with fail
  refine (specFirstDesk_any _).mono ?_
  rintro e w1 ⟨g0, rfl, hg0, hC0, hb1⟩
  have B0 := Lib.hid ((Below.refl w1.heap.size w1).alloc (Nat.le_refl _) (.cells #[.int .i64 2, .int .i64 5, .string ⟨#[48, 48]⟩, .slice (some ⟨g0, 0, none⟩) 2 2] 26))
  have DX0 : Hid (Cells (w1.alloc (.cells #[.int .i64 2, .int .i64 5, .string ⟨#[48, 48]⟩, .slice (some ⟨g0, 0, none⟩) 2 2] 26)) w1.heap.size 4 (g4D 2 5 ⟨#[48, 48]⟩ (.slice (some ⟨g0, 0, none⟩) 2 2))) := Lib.hid (Cells.new (n := 4) rfl rfl)
  have K00 := Lib.hid (hC0.call B0.out)
  have hgl := hC0.lt
  have X1 := Lib.hid hb1
  clear hb1 hC0
  go_wp2_with fail
  refine (firstDesk_any _).mono ?_
  rintro e w2 ⟨g1, rfl, hg1, hC1, hb2⟩
  rw [World.size_alloc] at hg1
  have DX2 := Lib.hid (DX0.out.call hb2)
  have K02 := Lib.hid (K00.out.call hb2)
  have X2 := Lib.hid (bel_call (bel_call X1.out B0.out) hb2)
  have B2 := Lib.hid ((Below.refl w2.heap.size w2).alloc (Nat.le_refl _) (.cells #[.int .i64 2, .int .i64 5, .string ⟨#[48, 48]⟩, .slice (some ⟨g1, 0, none⟩) 2 2] 26))
  have DY0 : Hid (Cells (w2.alloc (.cells #[.int .i64 2, .int .i64 5, .string ⟨#[48, 48]⟩, .slice (some ⟨g1, 0, none⟩) 2 2] 26)) w2.heap.size 4 (g4D 2 5 ⟨#[48, 48]⟩ (.slice (some ⟨g1, 0, none⟩) 2 2))) := Lib.hid (Cells.new (n := 4) rfl rfl)
  have K12 := Lib.hid (hC1.call B2.out)
  have hgl1 := hC1.lt
  have hw1 := hb2.size
  rw [World.size_alloc] at hw1
  have hX1 := X1.out.size
  clear hb2 hC1 K00 DX0
  obtain ⟨U1, hU1⟩ : ∃ U, w1.heap.size = U := ⟨_, rfl⟩
  obtain ⟨U2, hU2⟩ : ∃ U, w2.heap.size = U := ⟨_, rfl⟩
  rw [hU1] at DX2 hg1 hgl hw1 hX1 ⊢
  have HU2 := Lib.hid hU2
  have x0 : w2.cell? ⟨U1, 0, none⟩ = some (.int .i64 2) := DX2.out.cell (show 0 < 4 by omega)
  have x1 : w2.cell? ⟨U1, 1, none⟩ = some (.int .i64 5) := DX2.out.cell (show 1 < 4 by omega)
  have x2 : w2.cell? ⟨U1, 2, none⟩ = some (.string ⟨#[48, 48]⟩) := DX2.out.cell (show 2 < 4 by omega)
  have x3 : w2.cell? ⟨U1, 3, none⟩ = some (.slice (some ⟨g0, 0, none⟩) 2 2) := DX2.out.cell (show 3 < 4 by omega)
  obtain ⟨W3, hW3⟩ : ∃ W, w2.alloc (.cells #[.int .i64 2, .int .i64 5, .string ⟨#[48, 48]⟩, .slice (some ⟨g1, 0, none⟩) 2 2] 26) = W := ⟨_, rfl⟩
  have HX3 := Lib.hid (show Cells W3 U1 4 _ from hW3 ▸ DX2.out.call B2.out)
  have K03 := Lib.hid (show Cells W3 g0 2 _ from hW3 ▸ K02.out.call B2.out)
  have X3 := Lib.hid (show Below w.heap.size w W3 from hW3 ▸ bel_call X2.out B2.out)
  rw [hW3] at DY0 K12
  rw [hU2] at DY0 hgl1 hw1
  have HW3 := Lib.hid hW3
  clear hU1 hU2 hW3 B2 DX2 K02 X2
  have y0 : W3.cell? ⟨U1, 0, none⟩ = some (.int .i64 2) := HX3.out.cell (show 0 < 4 by omega)
  have y1 : W3.cell? ⟨U1, 1, none⟩ = some (.int .i64 5) := HX3.out.cell (show 1 < 4 by omega)
  have y2 : W3.cell? ⟨U1, 2, none⟩ = some (.string ⟨#[48, 48]⟩) := HX3.out.cell (show 2 < 4 by omega)
  have y3 : W3.cell? ⟨U1, 3, none⟩ = some (.slice (some ⟨g0, 0, none⟩) 2 2) := HX3.out.cell (show 3 < 4 by omega)
  rw [← HW3.out] at y0 y1 y2 y3
  go_wp2_with fail
  rw [HW3.out]
  refine (eqDesk_any _ _ _ _ _ _ _ _ _ _ fdL _ (fd_own K12.out) (fd_own K03.out)).mono ?_
  rintro e w4 ⟨rfl, hb4⟩
  have DX4 := Lib.hid (HX3.out.call hb4)
  have DY4 := Lib.hid (DY0.out.call hb4)
  have K04 := Lib.hid (K03.out.call hb4)
  have K14 := Lib.hid (K12.out.call hb4)
  have X4 := Lib.hid (bel_call X3.out hb4)
  have h4 := DY4.out.lt
  clear hb4 HX3 DY0 K03 K12 X3 x0 x1 x2 x3 y0 y1 y2 y3
  try rw [HU2.out]
  have y0 : w4.cell? ⟨U2, 0, none⟩ = some (.int .i64 2) := DY4.out.cell (show 0 < 4 by omega)
  have y1 : w4.cell? ⟨U2, 1, none⟩ = some (.int .i64 5) := DY4.out.cell (show 1 < 4 by omega)
  have y2 : w4.cell? ⟨U2, 2, none⟩ = some (.string ⟨#[48, 48]⟩) := DY4.out.cell (show 2 < 4 by omega)
  have y3 : w4.cell? ⟨U2, 3, none⟩ = some (.slice (some ⟨g1, 0, none⟩) 2 2) := DY4.out.cell (show 3 < 4 by omega)
  go_wp2_with fail
  refine (markDesk_any _ _ _ _ _ _ _ _ (by omega) K14.out (fun j _ => ⟨_, rfl⟩)).mono ?_
  rintro e w5 ⟨rfl, hM5, hz5, hB5, hK5⟩
  have DX5 := Lib.hid (hK5 _ _ _ (by omega) DX4.out)
  have DY5 := Lib.hid (hK5 _ _ _ (by omega) DY4.out)
  have K05 := Lib.hid (hK5 _ _ _ (by omega) K04.out)
  have X5 := Lib.hid (X4.out.trans (hB5 w.heap.size (by omega)))
  have KM5 := Lib.hid hM5
  clear hM5 hz5 hB5 hK5 DX4 DY4 K04 K14 X4 y0 y1 y2 y3
  have y0 : w5.cell? ⟨U2, 0, none⟩ = some (.int .i64 2) := DY5.out.cell (show 0 < 4 by omega)
  have y1 : w5.cell? ⟨U2, 1, none⟩ = some (.int .i64 5) := DY5.out.cell (show 1 < 4 by omega)
  have y2 : w5.cell? ⟨U2, 2, none⟩ = some (.string ⟨#[48, 48]⟩) := DY5.out.cell (show 2 < 4 by omega)
  have y3 : w5.cell? ⟨U2, 3, none⟩ = some (.slice (some ⟨g1, 0, none⟩) 2 2) := DY5.out.cell (show 3 < 4 by omega)
  go_wp2_with fail
  refine (heldDesk_any _ _ _ _ _ _ _ (by omega) KM5.out).mono ?_
  rintro e w6 ⟨rfl, hb6⟩
  have DX6 := Lib.hid (DX5.out.call hb6)
  have DY6 := Lib.hid (DY5.out.call hb6)
  have K06 := Lib.hid (K05.out.call hb6)
  have KM6 := Lib.hid (KM5.out.call hb6)
  have X6 := Lib.hid (bel_call X5.out hb6)
  clear hb6 DX5 DY5 K05 KM5 X5 y0 y1 y2 y3
  go_wp2_with fail
  refine (firstDesk_any _).mono ?_
  rintro e w7 ⟨g7, rfl, hg7, hC7, hb7⟩
  have DX7 := Lib.hid (DX6.out.call hb7)
  have DY7 := Lib.hid (DY6.out.call hb7)
  have K07 := Lib.hid (K06.out.call hb7)
  have KM7 := Lib.hid (KM6.out.call hb7)
  have X7 := Lib.hid (bel_call X6.out hb7)
  have K47 := Lib.hid hC7
  have B7 := Lib.hid ((Below.refl w7.heap.size w7).alloc (Nat.le_refl _) (.cells #[.int .i64 2, .int .i64 5, .string ⟨#[48, 48]⟩, .slice (some ⟨g7, 0, none⟩) 2 2] 26))
  clear hC7 hb7 hg7 DX6 DY6 K06 KM6 X6
  have x0 : w7.cell? ⟨U1, 0, none⟩ = some (.int .i64 2) := DX7.out.cell (show 0 < 4 by omega)
  have x1 : w7.cell? ⟨U1, 1, none⟩ = some (.int .i64 5) := DX7.out.cell (show 1 < 4 by omega)
  have x2 : w7.cell? ⟨U1, 2, none⟩ = some (.string ⟨#[48, 48]⟩) := DX7.out.cell (show 2 < 4 by omega)
  have x3 : w7.cell? ⟨U1, 3, none⟩ = some (.slice (some ⟨g0, 0, none⟩) 2 2) := DX7.out.cell (show 3 < 4 by omega)
  have z0 : (w7.alloc (.cells #[.int .i64 2, .int .i64 5, .string ⟨#[48, 48]⟩, .slice (some ⟨g7, 0, none⟩) 2 2] 26)).cell? ⟨U1, 0, none⟩ = some (.int .i64 2) := (DX7.out.alloc _).cell (show 0 < 4 by omega)
  have z1 : (w7.alloc (.cells #[.int .i64 2, .int .i64 5, .string ⟨#[48, 48]⟩, .slice (some ⟨g7, 0, none⟩) 2 2] 26)).cell? ⟨U1, 1, none⟩ = some (.int .i64 5) := (DX7.out.alloc _).cell (show 1 < 4 by omega)
  have z2 : (w7.alloc (.cells #[.int .i64 2, .int .i64 5, .string ⟨#[48, 48]⟩, .slice (some ⟨g7, 0, none⟩) 2 2] 26)).cell? ⟨U1, 2, none⟩ = some (.string ⟨#[48, 48]⟩) := (DX7.out.alloc _).cell (show 2 < 4 by omega)
  have z3 : (w7.alloc (.cells #[.int .i64 2, .int .i64 5, .string ⟨#[48, 48]⟩, .slice (some ⟨g7, 0, none⟩) 2 2] 26)).cell? ⟨U1, 3, none⟩ = some (.slice (some ⟨g0, 0, none⟩) 2 2) := (DX7.out.alloc _).cell (show 3 < 4 by omega)
  go_wp2_with fail
  refine (eqDesk_any _ _ _ _ _ _ _ _ _ _ fdL _ (fd_own (K47.out.call B7.out)) (fd_own (K07.out.call B7.out))).mono ?_
  rintro e w8 ⟨rfl, hb8⟩
  have DY8 := Lib.hid ((DY7.out.call B7.out).call hb8)
  have KM8 := Lib.hid ((KM7.out.call B7.out).call hb8)
  have X8 := Lib.hid (bel_call (bel_call X7.out B7.out) hb8)
  clear hb8 B7 DX7 DY7 K07 KM7 K47 X7 x0 x1 x2 x3 z0 z1 z2 z3
  have y0 : w8.cell? ⟨U2, 0, none⟩ = some (.int .i64 2) := DY8.out.cell (show 0 < 4 by omega)
  have y1 : w8.cell? ⟨U2, 1, none⟩ = some (.int .i64 5) := DY8.out.cell (show 1 < 4 by omega)
  have y2 : w8.cell? ⟨U2, 2, none⟩ = some (.string ⟨#[48, 48]⟩) := DY8.out.cell (show 2 < 4 by omega)
  have y3 : w8.cell? ⟨U2, 3, none⟩ = some (.slice (some ⟨g1, 0, none⟩) 2 2) := DY8.out.cell (show 3 < 4 by omega)
  go_wp2_with fail
  refine (heldDesk_any _ _ _ _ _ _ _ (by omega) KM8.out).mono ?_
  rintro e w9 ⟨rfl, hb9⟩
  go_wp2_with fail
  go_ret
  exact ⟨rfl, bel_call X8.out hb9⟩

set_option maxRecDepth 100000 in
theorem lifted (os : Os) (started : os.Started) (H : Type) (enc : TypeId × Value → H) :
    ReturnsInHanded {} Try.checked os 3 .any (Rows.fnExactFirstDeskSpec.pre6 enc Try.prog Try.f3 Rows.fnExactFirstDeskRow.domain false) (Rows.fnExactFirstDeskSpec.post enc Try.prog Try.f3 false true false false) := by
  refine returnsInHanded_of_change (C := Try.checked) Try.own started (by kernel_rfl) Try.func3
    (ChangeSpec.witness6 (enc := enc) (C := Try.checked) false ⟨#[], #[], []⟩ 8 (by kernel_rfl) (by kernel_rfl) (by kernel_rfl) (by kernel_rfl)) ?_
  intro W base args ds gs before hval0 hW _ _
  have hval : ∀ (j : Nat) t v, Try.f3.params[j]? = some t → args[j]? = some v → Value.okWide Try.prog W .any base t v := hval0
  have hW' := hW
  obtain ⟨p, q, hA0, hV, rfl, _, _⟩ := hW
  have hA : DataW.TrodAll enc Try.prog W 0 (fun _ => true) true Try.f3.params.toList args.toList ds p := hA0
  rw [Try.params3] at hA hval
  obtain ⟨hargs, rfl, rfl⟩ := trodAll_nil hA
  obtain rfl : args = #[] := by cases args; simp_all
  obtain ⟨rfl, rfl⟩ := trodVars_none hV
  clear hA0 hval0
  refine (lawFirstDesk_true  W).mono fun e W' ⟨he, bel⟩ => ?_
  subst he
  exact ⟨_, rfl, _, _, _, [], _, [], hW', trodAll_mk1 (shut_bool Try.underlying4 _), trodAll_mk0, rfl, bel.frame _, fun h => by cases h⟩

set_option maxRecDepth 100000 in
theorem jf : joinedFacts Try.pinned.checked.prog 3 Try.f3 Rows.fnExactFirstDeskSpec Rows.fnExactFirstDeskRow = true := by
  unfold joinedFacts
  rw [whole_all.1, whole_all.2.1, whole_all.2.2]
  kernel_rfl

theorem over : Rows.fnExactFirstDeskRow.holds Try.pinned (OpenSpec.ofChange Rows.fnExactFirstDeskSpec) :=
  OpenClaim.holds_of_wide 3 Try.f3 rfl rfl rfl rfl rfl rfl rfl ⟨rfl, rfl, rfl, rfl, rfl⟩ rfl rfl rfl rfl rfl (by kernel_rfl) Try.func3 jf
    (of_decide_eq_true (by kernel_rfl)) (by unfold Func.isWrapper; rw [if_neg (of_decide_eq_false (by kernel_rfl))]; exact ⟨rfl, rfl⟩)
    (fun os started H enc _ => lifted os started H enc)

theorem proved : Rows.FnExactFirstDeskSaid := over
end Go.Proofs.Ythfhbkfifdgokaa.fnExactFirstDesk
