/- For every input at which the law FnExactMasterOf can be called it answers true and leaves its arguments as they were. No conditions. -/
import Derived.Test.YtgcadcekkojidaaLv
import Derived.Test.YtgcadcekkojidaaWm
import Derived.Test.YtgcadcekkojidaaFacts
namespace Go.Proofs.Ytgcadcekkojidaa.fnExactMasterOf
open Go.ChangeShapes Go.WideShapes Go.ChangeAt Go.RowKit Go.Joins
open Go.ChangeMaps (open_string shut_string)

set_option maxHeartbeats 4000000 in
theorem lawMasterOf_true (A : Option Addr) (n c : Nat) (ps : List Pn) {w : World} (hA : ArgP w A n ps) (hn : n ≤ maxLen) (_ : World) :
    Calls Try.prog 13 #[.slice A n c] w fun e w' => e = .returned (.bool true) ∧ Below w.heap.size w w' := by
  have HA := Lib.hid hA
  have HN := Lib.hid hA.len
  have HMX := Lib.hid hn
  unfold maxLen at hn
  clear hA
  go_enter Try.func13, Try.ntmps13
  go_wp2_with fail
  refine (szPinsS_any _ _ _ ps _ HMX.out HA.out).mono ?_
  rintro e w1 ⟨⟨r, rfl, hr1, hr⟩, hb1⟩
  have X1 := Lib.hid hb1
  clear hb1
  by_cases hr0 : r < 0
  · go_wp2_with fail
    go_ret
    exact ⟨rfl, X1.out⟩
  have hm := hr (by omega)
  have HF := Lib.hid (few_of HN.out hm)
  have HPS := Lib.hid hm
  have hn2 : n ≤ 1048576 := by omega
  clear hr
  have HQ1 : Hid (∀ (W : World) (g : Nat), ArgP W (some ⟨g, 0, none⟩) n ps → Calls Try.prog 52 #[.slice (some ⟨g, 0, none⟩) n n] W (KPOut W (cbD ps) (cbK (fun x y => x || y) ps) (listB ps))) := Lib.hid (fun W g h => (specMasterOf_any _ _ _ ps W HMX.out h HF.out).mono fun _ _ h => h.kd cbK_ne)
  have HQ2 : Hid (∀ (W : World) (g : Nat), ArgP W (some ⟨g, 0, none⟩) n ps → Calls Try.prog 53 #[.slice (some ⟨g, 0, none⟩) n n] W (KPOut W (cbD ps) (cbK (fun x y => x || y) ps) (listB ps))) := Lib.hid (fun W g h => (masterOf_any _ _ _ ps W HMX.out h HF.out).mono fun _ _ h => h.kd cbK_ne)
  have HM : Hid ((cbK (fun x y => x || y) ps).length + lensAt (cbK (fun x y => x || y) ps) (cbK (fun x y => x || y) ps).length ≤ 1048576) := Lib.hid cbK_size
  generalize cbD ps = zd at HQ1 HQ2
  generalize cbK (fun x y => x || y) ps = zk at HQ1 HQ2 HM
  generalize listB ps = zo at HQ1 HQ2
  go_wp2_with fail
  refine (toPinsS_any _ _ _ ps _ hn2 (HA.out.below X1.out) HF.out).mono ?_
  rintro e w2 ⟨rfl, ⟨Gp, GG, hT⟩, hb2⟩
  have HT := Lib.hid (hT.arg HF.out)
  have X2 := Lib.hid (bel_call X1.out hb2)
  clear hT hb2
  go_wp2_with fail
  refine (HQ1.out _ _ HT.out).mono ?_
  rintro e w3 ⟨A0, c0, rfl, k0, hb3⟩
  have CX : Cells (w3.alloc (.cells #[.int .i64 zd, .slice A0 zk.length c0] 27)) w3.heap.size 2 (pF zd (.slice A0 zk.length c0)) := Cells.new (n := 2) rfl rfl
  have hbx : Below w3.heap.size w3 (w3.alloc (.cells #[.int .i64 zd, .slice A0 zk.length c0] 27)) := (Below.refl _ _).alloc (Nat.le_refl _) _
  have HB3 := Lib.hid (bel_call (bel_call X2.out hb3) hbx)
  have HCX := Lib.hid CX
  have HK0 := Lib.hid (k0.call hbx)
  have n3 := HB3.out.size
  rw [World.size_alloc] at n3
  clear hb3 k0 CX hbx HT
  go_wp2_with fail
  refine (toPinsS_any _ _ _ ps _ hn2 (HA.out.below HB3.out) HF.out).mono ?_
  rintro e w4 ⟨rfl, ⟨Gp4, GG4, hT⟩, hb4⟩
  have HT4 := Lib.hid hT
  have X4 := Lib.hid (bel_call HB3.out hb4)
  have DX4 := Lib.hid (HCX.out.call hb4)
  have K04 := Lib.hid (HK0.out.call hb4)
  have n4 : w3.heap.size + 1 ≤ w4.heap.size := by have := hb4.size; rw [World.size_alloc] at this; exact this
  clear hT hb4 HCX HK0 HB3
  obtain ⟨U1, hU1⟩ : ∃ U, w3.heap.size = U := ⟨_, rfl⟩
  rw [World.size_alloc, hU1] at HT4
  rw [hU1] at DX4 K04 n3 n4
  try rw [World.size_alloc]
  try rw [hU1]
  have HU1 := Lib.hid hU1
  clear hU1
  go_wp2_with fail
  try rw [World.size_alloc]
  try rw [HU1.out]
  refine (HQ2.out _ _ (HT4.out.arg HF.out)).mono ?_
  rintro e w5 ⟨A1, c1, rfl, k1, hb5⟩
  have n5 : w4.heap.size ≤ w5.heap.size := hb5.size
  have HHI := Lib.hid (show ∀ k, k < n → U1 + 1 < Gp4 k ∧ Gp4 k < w4.heap.size ∧ ∀ x, x < (ps.getD k pn0).2.length → U1 + 1 < GG4 k x ∧ GG4 k x < w4.heap.size from fun k hk => ⟨(HT4.out.row k hk).1, (HT4.out.row k hk).2.top.lt, fun x hx => ⟨by have h1 := ((HT4.out.row k hk).2.row x hx).1; have h2 := (HT4.out.row k hk).1; omega, ((HT4.out.row k hk).2.row x hx).2.lt⟩⟩)
  have hh4 := HT4.out.top.lt
  have HT5 := Lib.hid (HT4.out.call hb5)
  have DX5 := Lib.hid (DX4.out.call hb5)
  have K05 := Lib.hid (K04.out.call hb5)
  have K15 := Lib.hid k1
  have X5 := Lib.hid (bel_call X4.out hb5)
  clear hb5 k1 DX4 K04 X4 HT4
  obtain ⟨hi, hhi⟩ : ∃ h, w4.heap.size = h := ⟨_, rfl⟩
  rw [hhi] at K15 n4 n5 HHI hh4
  clear hhi
  have x0_5 : w5.cell? ⟨U1, 0, none⟩ = some (.int .i64 zd) := DX5.out.cell (show 0 < 2 by omega)
  have x1_5 : w5.cell? ⟨U1, 1, none⟩ = some (.slice A0 zk.length c0) := DX5.out.cell (show 1 < 2 by omega)
  have x0_5n : (w5.alloc (.cells #[.int .i64 zd, .slice A1 zk.length c1] 27)).cell? ⟨U1, 0, none⟩ = some (.int .i64 zd) := (DX5.out.alloc _).cell (show 0 < 2 by omega)
  have x1_5n : (w5.alloc (.cells #[.int .i64 zd, .slice A1 zk.length c1] 27)).cell? ⟨U1, 1, none⟩ = some (.slice A0 zk.length c0) := (DX5.out.alloc _).cell (show 1 < 2 by omega)
  go_wp2_with fail
  have CZ : Cells (w5.alloc (.cells #[.int .i64 zd, .slice A1 zk.length c1] 27)) w5.heap.size 2 (pF zd (.slice A1 zk.length c1)) := Cells.new (n := 2) rfl rfl
  have hbz : Below w5.heap.size w5 (w5.alloc (.cells #[.int .i64 zd, .slice A1 zk.length c1] 27)) := (Below.refl _ _).alloc (Nat.le_refl _) _
  refine (eqKD_any _ _ _ _ _ _ _ _ _ _ _ HM.out (K15.out.call hbz) (K05.out.call hbz)).mono ?_
  rintro e w6 ⟨rfl, hb6⟩
  have DX6 := Lib.hid ((DX5.out.call hbz).call hb6)
  have DY6 := Lib.hid (CZ.call hb6)
  have K06 := Lib.hid ((K05.out.call hbz).call hb6)
  have K16 := Lib.hid ((K15.out.call hbz).call hb6)
  have HT6 := Lib.hid ((HT5.out.call hbz).call hb6)
  have X6 := Lib.hid (bel_call (bel_call X5.out hbz) hb6)
  have n6 : w5.heap.size + 1 ≤ w6.heap.size := by have := hb6.size; rw [World.size_alloc] at this; exact this
  clear CZ hbz hb6 DX5 X5 K05 K15 HT5 x0_5n x1_5n
  clear x0_5 x1_5
  obtain ⟨U3, hU3⟩ : ∃ U, w5.heap.size = U := ⟨_, rfl⟩
  rw [hU3] at DY6 K16 n5 n6 ⊢
  clear hU3
  go_wp2_with fail
  refine (toPinsS_any _ _ _ ps _ hn2 (HA.out.below X6.out) HF.out).mono ?_
  rintro e w7 ⟨rfl, ⟨Gp7, GG7, hT⟩, hb7⟩
  have HE7 := Lib.hid (hT.arg HF.out)
  have n7 := hb7.size
  have DX7 := Lib.hid (DX6.out.call hb7)
  have DY7 := Lib.hid (DY6.out.call hb7)
  have K07 := Lib.hid (K06.out.call hb7)
  have K17 := Lib.hid (K16.out.call hb7)
  have HT7 := Lib.hid (HT6.out.call hb7)
  have X7 := Lib.hid (bel_call X6.out hb7)
  clear hb7 DX6 DY6 K06 K16 HT6 X6
  clear hT
  go_wp2_with fail
  refine (eqPinsS_same _ _ _ _ _ ps _ hn2 HF.out (HT7.out.arg HF.out) HE7.out).mono ?_
  rintro e w8 ⟨rfl, hb8⟩
  have n8 := hb8.size
  have DX8 := Lib.hid (DX7.out.call hb8)
  have DY8 := Lib.hid (DY7.out.call hb8)
  have K08 := Lib.hid (K07.out.call hb8)
  have K18 := Lib.hid (K17.out.call hb8)
  have HT8 := Lib.hid (HT7.out.call hb8)
  have X8 := Lib.hid (bel_call X7.out hb8)
  clear hb8 DX7 DY7 K07 K17 HT7 X7
  clear HE7
  go_wp2_with fail
  refine (markPinsS_any (U1 + 1) n n hi ps Gp4 GG4 _ HPS.out HT8.out.marks HHI.out HT8.out.up (fun k hk x hx => ((HT8.out.row k hk).2.row x hx).1) hh4).mono ?_
  rintro e w9 ⟨⟨mm, rfl⟩, n9, m2, m3⟩
  have X9 := Lib.hid (X8.out.trans (m2.mono (by omega)))
  have DX9 := Lib.hid (m3 _ _ _ (by omega) DX8.out)
  have DY9 := Lib.hid (m3 _ _ _ (by omega) DY8.out)
  have K09 := Lib.hid (K08.out.keep (lo2 := U1 + 1) (hi2 := hi) (by omega) m3)
  have K19 := Lib.hid (K18.out.keep (lo2 := U1 + 1) (hi2 := hi) (by omega) m3)
  clear m2 m3 DX8 DY8 K08 K18 X8 HT8
  have x0_9 : w9.cell? ⟨U1, 0, none⟩ = some (.int .i64 zd) := DX9.out.cell (show 0 < 2 by omega)
  have x1_9 : w9.cell? ⟨U1, 1, none⟩ = some (.slice A0 zk.length c0) := DX9.out.cell (show 1 < 2 by omega)
  have y0_9 : w9.cell? ⟨U3, 0, none⟩ = some (.int .i64 zd) := DY9.out.cell (show 0 < 2 by omega)
  have y1_9 : w9.cell? ⟨U3, 1, none⟩ = some (.slice A1 zk.length c1) := DY9.out.cell (show 1 < 2 by omega)
  go_wp2_with fail
  refine (eqKD_any _ _ _ _ _ _ _ _ _ _ _ HM.out K19.out K09.out).mono ?_
  rintro e w10 ⟨rfl, hb10⟩
  have n10 := hb10.size
  have DX10 := Lib.hid (DX9.out.call hb10)
  have DY10 := Lib.hid (DY9.out.call hb10)
  have K010 := Lib.hid (K09.out.call hb10)
  have K110 := Lib.hid (K19.out.call hb10)
  have X10 := Lib.hid (bel_call X9.out hb10)
  clear hb10 DX9 DY9 K09 K19 X9
  clear x0_9 x1_9 y0_9 y1_9
  have x0_10 : w10.cell? ⟨U1, 0, none⟩ = some (.int .i64 zd) := DX10.out.cell (show 0 < 2 by omega)
  have x1_10 : w10.cell? ⟨U1, 1, none⟩ = some (.slice A0 zk.length c0) := DX10.out.cell (show 1 < 2 by omega)
  have y0_10 : w10.cell? ⟨U3, 0, none⟩ = some (.int .i64 zd) := DY10.out.cell (show 0 < 2 by omega)
  have y1_10 : w10.cell? ⟨U3, 1, none⟩ = some (.slice A1 zk.length c1) := DY10.out.cell (show 1 < 2 by omega)
  go_wp2_with fail
  refine (markKD_any _ _ _ _ _ _ _ _ HM.out K110.out).mono ?_
  rintro e w11 ⟨rfl, m1, m2, m3⟩
  have KM11 := Lib.hid m1
  have b11 := m2 w.heap.size (by omega) (by omega)
  have X11 := Lib.hid (X10.out.trans b11)
  have DX11 := Lib.hid (m3 _ _ _ (by omega) DX10.out)
  have DY11 := Lib.hid (m3 _ _ _ (by omega) DY10.out)
  have K011 := Lib.hid (K010.out.keep (lo2 := hi) (hi2 := U3) (by omega) m3)
  clear m1 m2 m3 b11 DX10 DY10 K010 K110 X10
  clear x0_10 x1_10 y0_10 y1_10
  have x0_11 : w11.cell? ⟨U1, 0, none⟩ = some (.int .i64 zd) := DX11.out.cell (show 0 < 2 by omega)
  have x1_11 : w11.cell? ⟨U1, 1, none⟩ = some (.slice A0 zk.length c0) := DX11.out.cell (show 1 < 2 by omega)
  have y0_11 : w11.cell? ⟨U3, 0, none⟩ = some (.int .i64 zd) := DY11.out.cell (show 0 < 2 by omega)
  have y1_11 : w11.cell? ⟨U3, 1, none⟩ = some (.slice A1 zk.length c1) := DY11.out.cell (show 1 < 2 by omega)
  go_wp2_with fail
  refine (heldKD_any _ _ _ _ _ _ _ HM.out KM11.out).mono ?_
  rintro e w12 ⟨rfl, hb12⟩
  have DX12 := Lib.hid (DX11.out.call hb12)
  have DY12 := Lib.hid (DY11.out.call hb12)
  have K012 := Lib.hid (K011.out.call hb12)
  have KM12 := Lib.hid (KM11.out.call hb12)
  have X12 := Lib.hid (bel_call X11.out hb12)
  clear hb12 DX11 DY11 K011 KM11 X11
  clear x0_11 x1_11 y0_11 y1_11
  go_wp2_with fail
  refine (toPinsS_any _ _ _ ps _ hn2 (HA.out.below X12.out) HF.out).mono ?_
  rintro e w13 ⟨rfl, ⟨Gp13, GG13, hT⟩, hb13⟩
  have HT13 := Lib.hid (hT.arg HF.out)
  have DX13 := Lib.hid (DX12.out.call hb13)
  have DY13 := Lib.hid (DY12.out.call hb13)
  have K013 := Lib.hid (K012.out.call hb13)
  have KM13 := Lib.hid (KM12.out.call hb13)
  have X13 := Lib.hid (bel_call X12.out hb13)
  clear hT hb13 DX12 DY12 K012 KM12 X12
  go_wp2_with fail
  refine (HQ2.out _ _ HT13.out).mono ?_
  rintro e w14 ⟨A4, c4, rfl, k4, hb14⟩
  have DX14 := Lib.hid (DX13.out.call hb14)
  have DY14 := Lib.hid (DY13.out.call hb14)
  have K014 := Lib.hid (K013.out.call hb14)
  have KM14 := Lib.hid (KM13.out.call hb14)
  have X14 := Lib.hid (bel_call X13.out hb14)
  have K414 := Lib.hid k4
  clear hb14 k4 DX13 DY13 K013 KM13 X13 HT13
  have x0_14 : w14.cell? ⟨U1, 0, none⟩ = some (.int .i64 zd) := DX14.out.cell (show 0 < 2 by omega)
  have x1_14 : w14.cell? ⟨U1, 1, none⟩ = some (.slice A0 zk.length c0) := DX14.out.cell (show 1 < 2 by omega)
  have y0_14 : w14.cell? ⟨U3, 0, none⟩ = some (.int .i64 zd) := DY14.out.cell (show 0 < 2 by omega)
  have y1_14 : w14.cell? ⟨U3, 1, none⟩ = some (.slice A1 zk.length c1) := DY14.out.cell (show 1 < 2 by omega)
  have x0_14n : (w14.alloc (.cells #[.int .i64 zd, .slice A4 zk.length c4] 27)).cell? ⟨U1, 0, none⟩ = some (.int .i64 zd) := (DX14.out.alloc _).cell (show 0 < 2 by omega)
  have x1_14n : (w14.alloc (.cells #[.int .i64 zd, .slice A4 zk.length c4] 27)).cell? ⟨U1, 1, none⟩ = some (.slice A0 zk.length c0) := (DX14.out.alloc _).cell (show 1 < 2 by omega)
  go_wp2_with fail
  have hbq : Below w14.heap.size w14 (w14.alloc (.cells #[.int .i64 zd, .slice A4 zk.length c4] 27)) := (Below.refl _ _).alloc (Nat.le_refl _) _
  refine (eqKD_any _ _ _ _ _ _ _ _ _ _ _ HM.out (K414.out.call hbq) (K014.out.call hbq)).mono ?_
  rintro e w15 ⟨rfl, hb15⟩
  have DY15 := Lib.hid ((DY14.out.call hbq).call hb15)
  have KM15 := Lib.hid ((KM14.out.call hbq).call hb15)
  have X15 := Lib.hid (bel_call (bel_call X14.out hbq) hb15)
  clear hbq hb15 DX14 DY14 K014 KM14 X14 K414 x0_14n x1_14n
  clear x0_14 x1_14 y0_14 y1_14
  have y0_15 : w15.cell? ⟨U3, 0, none⟩ = some (.int .i64 zd) := DY15.out.cell (show 0 < 2 by omega)
  have y1_15 : w15.cell? ⟨U3, 1, none⟩ = some (.slice A1 zk.length c1) := DY15.out.cell (show 1 < 2 by omega)
  go_wp2_with fail
  refine (heldKD_any _ _ _ _ _ _ _ HM.out KM15.out).mono ?_
  rintro e w16 ⟨rfl, hb16⟩
  have X16 := Lib.hid (bel_call X15.out hb16)
  clear hb16 DY15
  go_wp2_with fail
  go_ret
  exact ⟨rfl, X16.out⟩

set_option maxRecDepth 100000 in
theorem lifted (os : Os) (started : os.Started) (H : Type) (enc : TypeId × Value → H) :
    ReturnsInHanded {} Try.checked os 13 .any (Rows.fnExactMasterOfSpec.pre6 enc Try.prog Try.f13 Rows.fnExactMasterOfRow.domain false) (Rows.fnExactMasterOfSpec.post enc Try.prog Try.f13 false true false false) := by
  refine returnsInHanded_of_change (C := Try.checked) Try.own started (by kernel_rfl) Try.func13
    (ChangeSpec.witness6 (enc := enc) (C := Try.checked) false ⟨#[], #[.slice none 0 0], []⟩ 8 (by kernel_rfl) (by kernel_rfl) (by kernel_rfl) (by kernel_rfl)) ?_
  intro W base args ds gs before hval0 hW _ _
  have hval : ∀ (j : Nat) t v, Try.f13.params[j]? = some t → args[j]? = some v → Value.okWide Try.prog W .any base t v := hval0
  have hW' := hW
  obtain ⟨p, q, hA0, hV, rfl, _, _⟩ := hW
  have hA : DataW.TrodAll enc Try.prog W 0 (fun _ => true) true Try.f13.params.toList args.toList ds p := hA0
  rw [Try.params13] at hA hval
  obtain ⟨v0, vs0, d0, ds0, p0, q0, hargs, rfl, rfl, h0, r0⟩ := trodAll_cons hA
  obtain ⟨rfl, rfl, rfl⟩ := trodAll_nil r0
  obtain rfl : args = #[v0] := by cases args; simp_all
  obtain ⟨rfl, rfl⟩ := trodVars_none hV
  have t0 := h0
  have lt0 : ∀ x ∈ p0, x.block < W.heap.size := by obtain ⟨m, hm⟩ := t0; exact DataW.trod_lt m _ _ _ hm
  have t0' := h0
  obtain ⟨x0A, x0n, x0c, x0k, rfl, k0, l0⟩ := open_pinss (hval 0 47 v0 rfl rfl) t0'
  clear hA0 hval0
  refine (lawMasterOf_true x0A x0n x0c x0k k0 l0 W).mono fun e W' ⟨he, bel⟩ => ?_
  subst he
  exact ⟨_, rfl, _, _, _, [], _, [], hW', trodAll_mk1 (shut_bool Try.underlying4 _), (trodAll_cons_mk (Below.trod Try.laidOut (by kernel_rfl) (of_decide_eq_true (by kernel_rfl)) h0 bel lt0) trodAll_mk0), rfl, bel.frame _, fun h => by cases h⟩

set_option maxRecDepth 100000 in
theorem jf : joinedFacts Try.pinned.checked.prog 13 Try.f13 Rows.fnExactMasterOfSpec Rows.fnExactMasterOfRow = true := by
  unfold joinedFacts
  rw [whole_all.1, whole_all.2.1, whole_all.2.2]
  kernel_rfl

theorem over : Rows.fnExactMasterOfRow.holds Try.pinned (OpenSpec.ofChange Rows.fnExactMasterOfSpec) :=
  OpenClaim.holds_of_wide_leaving 13 Try.f13 rfl rfl rfl rfl rfl rfl rfl ⟨rfl, rfl, rfl, rfl, rfl⟩ rfl rfl rfl rfl rfl (by kernel_rfl) Try.func13 jf
    (of_decide_eq_true (by kernel_rfl)) (by unfold Func.isWrapper; rw [if_neg (of_decide_eq_false (by kernel_rfl))]; exact ⟨rfl, rfl⟩)
    (fun os started H enc _ => leave_of_handed (lifted os started H enc))

theorem proved : Rows.FnExactMasterOfSaid := over
end Go.Proofs.Ytgcadcekkojidaa.fnExactMasterOf
