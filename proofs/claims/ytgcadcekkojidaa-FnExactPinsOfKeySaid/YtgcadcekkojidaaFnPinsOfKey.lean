/- For every input at which the law FnExactPinsOfKey can be called it answers true and leaves its arguments as they were. No conditions. -/
import Derived.Test.YtgcadcekkojidaaVu
import Derived.Test.YtgcadcekkojidaaFacts
namespace Go.Proofs.Ytgcadcekkojidaa.fnExactPinsOfKey
open Go.ChangeShapes Go.WideShapes Go.ChangeAt Go.RowKit Go.Joins
open Go.ChangeMaps (open_string shut_string)

set_option maxHeartbeats 4000000 in
theorem lawPinsOfKey_true (a : Int) (_ : (Lit.int .i64 a).wf = true) (s : ByteArray) (hs : s.size ≤ maxLen) (w : World) :
    Calls Try.prog 8 #[.int .i64 a, .string s] w fun e w' => e = .returned (.bool true) ∧ Below w.heap.size w w' := by
  have HS := Lib.hid hs
  unfold maxLen at hs
  by_cases hlen : 1048576 < s.size
  · go_enter Try.func8, Try.ntmps8
    go_wp2_with fail
    go_ret
    exact ⟨rfl, Below.refl _ _⟩
  have HQ1 : Hid (∀ W : World, Calls Try.prog 37 #[.int .i64 a, .string s] W (KPOut W (kqD a s) (kqK a s) (keyB a s))) := Lib.hid (fun W => (specPinsOfKey_any a s W HS.out).mono fun _ _ h => h.kd kqK_ne)
  have HQ2 : Hid (∀ W : World, Calls Try.prog 38 #[.int .i64 a, .string s] W (KPOut W (kqD a s) (kqK a s) (keyB a s))) := Lib.hid (fun W => (pinsOfKey_any a s W (by omega)).mono fun _ _ h => h.kd kqK_ne)
  have HM : Hid ((kqK a s).length + lensAt (kqK a s) (kqK a s).length ≤ 1048576) := Lib.hid kqK_size
  generalize kqD a s = zd at HQ1 HQ2
  generalize kqK a s = zk at HQ1 HQ2 HM
  generalize keyB a s = zo at HQ1 HQ2
  go_enter Try.func8, Try.ntmps8
  go_wp2_with fail
  refine (HQ1.out w).mono ?_
  rintro e w3 ⟨A0, c0, rfl, k0, hb3⟩
  have CX : Cells (w3.alloc (.cells #[.int .i64 zd, .slice A0 zk.length c0] 27)) w3.heap.size 2 (pF zd (.slice A0 zk.length c0)) := Cells.new (n := 2) rfl rfl
  have hbx : Below w3.heap.size w3 (w3.alloc (.cells #[.int .i64 zd, .slice A0 zk.length c0] 27)) := (Below.refl _ _).alloc (Nat.le_refl _) _
  have HB3 := Lib.hid (bel_call hb3 hbx)
  have HCX := Lib.hid CX
  have HK0 := Lib.hid (k0.call hbx)
  have n3 := hb3.size
  clear hb3 k0 CX hbx
  go_wp2_with fail
  refine (HQ2.out _).mono ?_
  rintro e w5 ⟨A1, c1, rfl, k1, hb5⟩
  rw [World.size_alloc] at k1
  have n5 : w3.heap.size + 1 ≤ w5.heap.size := by have := hb5.size; rw [World.size_alloc] at this; exact this
  have DX5 := Lib.hid (HCX.out.call hb5)
  have K05 := Lib.hid (HK0.out.call hb5)
  have K15 := Lib.hid k1
  have X5 := Lib.hid (bel_call HB3.out hb5)
  clear hb5 k1 HCX HK0 HB3
  obtain ⟨U1, hU1⟩ : ∃ U, w3.heap.size = U := ⟨_, rfl⟩
  rw [hU1] at DX5 K05 K15 n3 n5 ⊢
  clear hU1
  have x0_5 : w5.cell? ⟨U1, 0, none⟩ = some (.int .i64 zd) := DX5.out.cell (show 0 < 2 by omega)
  have x1_5 : w5.cell? ⟨U1, 1, none⟩ = some (.slice A0 zk.length c0) := DX5.out.cell (show 1 < 2 by omega)
  have x0_5n : (w5.alloc (.cells #[.int .i64 zd, .slice A1 zk.length c1] 27)).cell? ⟨U1, 0, none⟩ = some (.int .i64 zd) := (DX5.out.alloc _).cell (show 0 < 2 by omega)
  have x1_5n : (w5.alloc (.cells #[.int .i64 zd, .slice A1 zk.length c1] 27)).cell? ⟨U1, 1, none⟩ = some (.slice A0 zk.length c0) := (DX5.out.alloc _).cell (show 1 < 2 by omega)
  go_wp2_with fail
  have CZ : Cells (w5.alloc (.cells #[.int .i64 zd, .slice A1 zk.length c1] 27)) w5.heap.size 2 (pF zd (.slice A1 zk.length c1)) := Cells.new (n := 2) rfl rfl
  have hbz : Below w5.heap.size w5 (w5.alloc (.cells #[.int .i64 zd, .slice A1 zk.length c1] 27)) := (Below.refl _ _).alloc (Nat.le_refl _) _
  refine (eqKD_any _ _ _ _ _ _ _ _ _ _ _ HM.out (K15.out.call hbz) (K05.out.call hbz)).mono ?_
  rintro e w6 ⟨rfl, hb6⟩
  have DX6 := Lib.hid ((DX5.out.call hbz).call hb6)
  have DY6 := Lib.hid (CZ.call hb6)
  have K06 := Lib.hid ((K05.out.call hbz).call hb6)
  have K16 := Lib.hid ((K15.out.call hbz).call hb6)
  have X6 := Lib.hid (bel_call (bel_call X5.out hbz) hb6)
  have n6 : w5.heap.size + 1 ≤ w6.heap.size := by have := hb6.size; rw [World.size_alloc] at this; exact this
  clear CZ hbz hb6 DX5 X5 K05 K15 x0_5n x1_5n
  clear x0_5 x1_5
  obtain ⟨U3, hU3⟩ : ∃ U, w5.heap.size = U := ⟨_, rfl⟩
  rw [hU3] at DY6 K16 n5 n6 ⊢
  clear hU3
  have x0_6 : w6.cell? ⟨U1, 0, none⟩ = some (.int .i64 zd) := DX6.out.cell (show 0 < 2 by omega)
  have x1_6 : w6.cell? ⟨U1, 1, none⟩ = some (.slice A0 zk.length c0) := DX6.out.cell (show 1 < 2 by omega)
  have y0_6 : w6.cell? ⟨U3, 0, none⟩ = some (.int .i64 zd) := DY6.out.cell (show 0 < 2 by omega)
  have y1_6 : w6.cell? ⟨U3, 1, none⟩ = some (.slice A1 zk.length c1) := DY6.out.cell (show 1 < 2 by omega)
  go_wp2_with fail
  refine (markKD_any _ _ _ _ _ _ _ _ HM.out K16.out).mono ?_
  rintro e w7 ⟨rfl, m1, m2, m3⟩
  have KM7 := Lib.hid m1
  have b7 := m2 w.heap.size (by omega) (by omega)
  have X7 := Lib.hid (X6.out.trans b7)
  have DX7 := Lib.hid (m3 _ _ _ (by omega) DX6.out)
  have DY7 := Lib.hid (m3 _ _ _ (by omega) DY6.out)
  have K07 := Lib.hid (K06.out.keep (lo2 := U1 + 1) (hi2 := U3) (by omega) m3)
  clear m1 m2 m3 b7 DX6 DY6 K06 K16 X6
  clear x0_6 x1_6 y0_6 y1_6
  have x0_7 : w7.cell? ⟨U1, 0, none⟩ = some (.int .i64 zd) := DX7.out.cell (show 0 < 2 by omega)
  have x1_7 : w7.cell? ⟨U1, 1, none⟩ = some (.slice A0 zk.length c0) := DX7.out.cell (show 1 < 2 by omega)
  have y0_7 : w7.cell? ⟨U3, 0, none⟩ = some (.int .i64 zd) := DY7.out.cell (show 0 < 2 by omega)
  have y1_7 : w7.cell? ⟨U3, 1, none⟩ = some (.slice A1 zk.length c1) := DY7.out.cell (show 1 < 2 by omega)
  go_wp2_with fail
  refine (heldKD_any _ _ _ _ _ _ _ HM.out KM7.out).mono ?_
  rintro e w8 ⟨rfl, hb8⟩
  have DX8 := Lib.hid (DX7.out.call hb8)
  have DY8 := Lib.hid (DY7.out.call hb8)
  have K08 := Lib.hid (K07.out.call hb8)
  have KM8 := Lib.hid (KM7.out.call hb8)
  have X8 := Lib.hid (bel_call X7.out hb8)
  clear hb8 DX7 DY7 K07 KM7 X7
  clear x0_7 x1_7 y0_7 y1_7
  have x0_8 : w8.cell? ⟨U1, 0, none⟩ = some (.int .i64 zd) := DX8.out.cell (show 0 < 2 by omega)
  have x1_8 : w8.cell? ⟨U1, 1, none⟩ = some (.slice A0 zk.length c0) := DX8.out.cell (show 1 < 2 by omega)
  have y0_8 : w8.cell? ⟨U3, 0, none⟩ = some (.int .i64 zd) := DY8.out.cell (show 0 < 2 by omega)
  have y1_8 : w8.cell? ⟨U3, 1, none⟩ = some (.slice A1 zk.length c1) := DY8.out.cell (show 1 < 2 by omega)
  go_wp2_with fail
  refine (HQ2.out _).mono ?_
  rintro e w10 ⟨A4, c4, rfl, k4, hb10⟩
  have DX10 := Lib.hid (DX8.out.call hb10)
  have DY10 := Lib.hid (DY8.out.call hb10)
  have K010 := Lib.hid (K08.out.call hb10)
  have KM10 := Lib.hid (KM8.out.call hb10)
  have X10 := Lib.hid (bel_call X8.out hb10)
  have K410 := Lib.hid k4
  clear hb10 k4 DX8 DY8 K08 KM8 X8
  clear x0_8 x1_8 y0_8 y1_8
  have x0_10 : w10.cell? ⟨U1, 0, none⟩ = some (.int .i64 zd) := DX10.out.cell (show 0 < 2 by omega)
  have x1_10 : w10.cell? ⟨U1, 1, none⟩ = some (.slice A0 zk.length c0) := DX10.out.cell (show 1 < 2 by omega)
  have y0_10 : w10.cell? ⟨U3, 0, none⟩ = some (.int .i64 zd) := DY10.out.cell (show 0 < 2 by omega)
  have y1_10 : w10.cell? ⟨U3, 1, none⟩ = some (.slice A1 zk.length c1) := DY10.out.cell (show 1 < 2 by omega)
  have x0_10n : (w10.alloc (.cells #[.int .i64 zd, .slice A4 zk.length c4] 27)).cell? ⟨U1, 0, none⟩ = some (.int .i64 zd) := (DX10.out.alloc _).cell (show 0 < 2 by omega)
  have x1_10n : (w10.alloc (.cells #[.int .i64 zd, .slice A4 zk.length c4] 27)).cell? ⟨U1, 1, none⟩ = some (.slice A0 zk.length c0) := (DX10.out.alloc _).cell (show 1 < 2 by omega)
  go_wp2_with fail
  have hbq : Below w10.heap.size w10 (w10.alloc (.cells #[.int .i64 zd, .slice A4 zk.length c4] 27)) := (Below.refl _ _).alloc (Nat.le_refl _) _
  refine (eqKD_any _ _ _ _ _ _ _ _ _ _ _ HM.out (K410.out.call hbq) (K010.out.call hbq)).mono ?_
  rintro e w11 ⟨rfl, hb11⟩
  have DY11 := Lib.hid ((DY10.out.call hbq).call hb11)
  have KM11 := Lib.hid ((KM10.out.call hbq).call hb11)
  have X11 := Lib.hid (bel_call (bel_call X10.out hbq) hb11)
  clear hbq hb11 DX10 DY10 K010 KM10 X10 K410 x0_10n x1_10n
  clear x0_10 x1_10 y0_10 y1_10
  have y0_11 : w11.cell? ⟨U3, 0, none⟩ = some (.int .i64 zd) := DY11.out.cell (show 0 < 2 by omega)
  have y1_11 : w11.cell? ⟨U3, 1, none⟩ = some (.slice A1 zk.length c1) := DY11.out.cell (show 1 < 2 by omega)
  go_wp2_with fail
  refine (heldKD_any _ _ _ _ _ _ _ HM.out KM11.out).mono ?_
  rintro e w12 ⟨rfl, hb12⟩
  have X12 := Lib.hid (bel_call X11.out hb12)
  clear hb12 DY11
  go_wp2_with fail
  go_ret
  exact ⟨rfl, X12.out⟩

set_option maxRecDepth 100000 in
theorem lifted (os : Os) (started : os.Started) (H : Type) (enc : TypeId × Value → H) :
    ReturnsInHanded {} Try.checked os 8 .any (Rows.fnExactPinsOfKeySpec.pre6 enc Try.prog Try.f8 Rows.fnExactPinsOfKeyRow.domain false) (Rows.fnExactPinsOfKeySpec.post enc Try.prog Try.f8 false true false false) := by
  refine returnsInHanded_of_change (C := Try.checked) Try.own started (by kernel_rfl) Try.func8
    (ChangeSpec.witness6 (enc := enc) (C := Try.checked) false ⟨#[], #[.int .i64 0, .string ByteArray.empty], []⟩ 8 (by kernel_rfl) (by kernel_rfl) (by kernel_rfl) (by kernel_rfl)) ?_
  intro W base args ds gs before hval0 hW _ _
  have hval : ∀ (j : Nat) t v, Try.f8.params[j]? = some t → args[j]? = some v → Value.okWide Try.prog W .any base t v := hval0
  have hW' := hW
  obtain ⟨p, q, hA0, hV, rfl, _, _⟩ := hW
  have hA : DataW.TrodAll enc Try.prog W 0 (fun _ => true) true Try.f8.params.toList args.toList ds p := hA0
  rw [Try.params8] at hA hval
  obtain ⟨v0, vs0, d0, ds0, p0, q0, hargs, rfl, rfl, h0, r0⟩ := trodAll_cons hA
  obtain ⟨v1, vs1, d1, ds1, p1, q1, rfl, rfl, rfl, h1, r1⟩ := trodAll_cons r0
  obtain ⟨rfl, rfl, rfl⟩ := trodAll_nil r1
  obtain rfl : args = #[v0, v1] := by cases args; simp_all
  obtain ⟨rfl, rfl⟩ := trodVars_none hV
  have t0 := h0
  have lt0 : ∀ x ∈ p0, x.block < W.heap.size := by obtain ⟨m, hm⟩ := t0; exact DataW.trod_lt m _ _ _ hm
  have t0' := h0
  have t1 := h1
  have lt1 : ∀ x ∈ p1, x.block < W.heap.size := by obtain ⟨m, hm⟩ := t1; exact DataW.trod_lt m _ _ _ hm
  have t1' := h1
  obtain ⟨x0, rfl, _, _, k0⟩ := open_int Try.underlying3 (hval 0 3 v0 rfl rfl) t0'
  obtain ⟨x1, rfl, _, _, k1⟩ := open_string Try.underlying9 (hval 1 9 v1 rfl rfl) t1'
  clear hA0 hval0
  refine (lawPinsOfKey_true x0 k0 x1 k1 W).mono fun e W' ⟨he, bel⟩ => ?_
  subst he
  exact ⟨_, rfl, _, _, _, [], _, [], hW', trodAll_mk1 (shut_bool Try.underlying4 _), (trodAll_cons_mk (Below.trod Try.laidOut (by kernel_rfl) (of_decide_eq_true (by kernel_rfl)) h0 bel lt0) (trodAll_cons_mk (Below.trod Try.laidOut (by kernel_rfl) (of_decide_eq_true (by kernel_rfl)) h1 bel lt1) trodAll_mk0)), rfl, bel.frame _, fun h => by cases h⟩

set_option maxRecDepth 100000 in
theorem jf : joinedFacts Try.pinned.checked.prog 8 Try.f8 Rows.fnExactPinsOfKeySpec Rows.fnExactPinsOfKeyRow = true := by
  unfold joinedFacts
  rw [whole_all.1, whole_all.2.1, whole_all.2.2]
  kernel_rfl

theorem over : Rows.fnExactPinsOfKeyRow.holds Try.pinned (OpenSpec.ofChange Rows.fnExactPinsOfKeySpec) :=
  OpenClaim.holds_of_wide 8 Try.f8 rfl rfl rfl rfl rfl rfl rfl ⟨rfl, rfl, rfl, rfl, rfl⟩ rfl rfl rfl rfl rfl (by kernel_rfl) Try.func8 jf
    (of_decide_eq_true (by kernel_rfl)) (by unfold Func.isWrapper; rw [if_neg (of_decide_eq_false (by kernel_rfl))]; exact ⟨rfl, rfl⟩)
    (fun os started H enc _ => lifted os started H enc)

theorem proved : Rows.FnExactPinsOfKeySaid := over
end Go.Proofs.Ytgcadcekkojidaa.fnExactPinsOfKey
