/- The master of two pins, as the program and the model make it. For pins with at most 1048576 numbers. -/
import Derived.Test.YtgcadcekkojidaaWm
import Derived.Deep.DeepCutAuto
namespace Go.Proofs.Ytgcadcekkojidaa
open Go.ChangeShapes Go.WideShapes Go.ChangeAt Go.RowKit Go.Joins

theorem kindB_symm (d1 : Int) (n1 : Nat) (d2 : Int) (n2 : Nat) : kindB d1 n1 d2 n2 = kindB d2 n2 d1 n1 := by
  unfold kindB
  rw [Bool.eq_iff_iff]
  simp only [Bool.and_eq_true, decide_eq_true_eq]
  constructor
  · rintro ⟨h1, h2⟩; exact ⟨h1.symm, h2.symm⟩
  · rintro ⟨h1, h2⟩; exact ⟨h1.symm, h2.symm⟩

theorem listB_two (d1 d2 : Int) (ks ls : List (List Int)) : listB [(d1, ks), (d2, ls)] = (pinsB d1 ks && pinsB d2 ls && kindB d1 ks.length d2 ls.length) := by
  unfold listB okP
  rw [kindB_symm d1 ks.length d2 ls.length]
  simp [kindB_self, inB, Bool.and_assoc]

theorem cbK_two {d1 d2 : Int} {ks ls : List (List Int)} (h : listB [(d1, ks), (d2, ls)] = true) : cbK (fun x y => x || y) [(d1, ks), (d2, ls)] = jnL (fun x y => x || y) d1.toNat ks ls ks.length := by
  rw [cbK_yes h]
  rw [listB_two, Bool.and_eq_true, Bool.and_eq_true] at h
  have e := jn_self h.1.1 (fun x y => x || y) (fun a => by cases a <;> rfl)
  show jnL (fun x y => x || y) d1.toNat (jnL (fun x y => x || y) d1.toNat ks ks ks.length) ls ks.length = _
  rw [e]

set_option maxRecDepth 100000 in
set_option maxHeartbeats 4000000 in
theorem specMasterPins_any (d1 d2 : Int) (A1 A2 : Option Addr) (n1 n2 c1 c2 : Nat) (ks ls : List (List Int)) (w : World) (hm1 : n1 + lensAt ks n1 ≤ 1048576) (hm2 : n2 + lensAt ls n2 ≤ 1048576) (h1 : KnobsA w A1 n1 ks) (h2 : KnobsA w A2 n2 ls) :
    Calls Try.prog 40 #[.agg #[.int .i64 d1, .slice A1 n1 c1], .agg #[.int .i64 d2, .slice A2 n2 c2]] w (PinsOut w (cbD [(d1, ks), (d2, ls)]) (cbK (fun x y => x || y) [(d1, ks), (d2, ls)]) (listB [(d1, ks), (d2, ls)])) := by
  have H1 := Lib.hid h1
  have H2 := Lib.hid h2
  have N1 := Lib.hid h1.len
  have N2 := Lib.hid h2.len
  clear h1 h2
  obtain ⟨W3, hW3⟩ : ∃ W, ((w.alloc (.cells #[.int .i64 d1, .slice A1 n1 c1] 27)).alloc (.cells #[.int .i64 d2, .slice A2 n2 c2] 27)).alloc (.cells #[.int .i64 0, .slice none 0 0] 27) = W := ⟨_, rfl⟩
  have HB3 := Lib.hid (show Below w.heap.size w W3 from by rw [← hW3]; (repeat (first | assumption | exact Below.refl _ _ | (refine Below.alloc ?_ (by first | omega | (simp; done) | (simp; omega)) _) | (refine Below.setCell ?_ (by first | omega | (simp; done) | (simp; omega)) _) | refine bel_drewN ?_ _ | refine bel_drew ?_ | (refine bel_call ?_ (by assumption)))))
  have HP := Lib.hid (show Cells W3 w.heap.size 2 (pF d1 (.slice A1 n1 c1)) from by rw [← hW3]; exact ((Cells.new (n := 2) rfl rfl).alloc _).alloc _)
  have HQ := Lib.hid (show Cells W3 (w.heap.size + 1) 2 (pF d2 (.slice A2 n2 c2)) from by rw [← hW3]; exact (Cells.new (W := w.alloc _) (n := 2) (by rw [World.size_alloc]) rfl).alloc _)
  have HR := Lib.hid (show Cells W3 (w.heap.size + 2) 2 (pF 0 (.slice none 0 0)) from by rw [← hW3]; exact Cells.new (W := (w.alloc _).alloc _) (n := 2) (by rw [World.size_alloc, World.size_alloc]) rfl)
  have HW := Lib.hid hW3
  obtain ⟨v1, HV1⟩ : ∃ v, Hid (pinsB d1 ks = v) := ⟨_, Lib.hid rfl⟩
  obtain ⟨v2, HV2⟩ : ∃ v, Hid (pinsB d2 ls = v) := ⟨_, Lib.hid rfl⟩
  obtain ⟨v3, HV3⟩ : ∃ v, Hid (kindB d1 n1 d2 n2 = v) := ⟨_, Lib.hid rfl⟩
  have HL : Hid (listB [(d1, ks), (d2, ls)] = (v1 && v2 && v3)) := Lib.hid (by rw [listB_two, HV1.out, HV2.out, N1.out, N2.out, HV3.out])
  have HNO : Hid (listB [(d1, ks), (d2, ls)] = false → cbD [(d1, ks), (d2, ls)] = 0 ∧ cbK (fun x y => x || y) [(d1, ks), (d2, ls)] = []) := Lib.hid (fun h => ⟨cbD_no h, cbK_no h⟩)
  clear hW3
  rcases v1 with _ | _
  · rw [HL.out, (HNO.out (by rw [HL.out]; rfl)).1, (HNO.out (by rw [HL.out]; rfl)).2]
    go_enter Try.func40, Try.ntmps40
    go_wp2_with (first
      | (go_at_call 67; refine (keGood_any _ _ _ _ ks _ hm1 (by rw [HW.out]; exact H1.out.below HB3.out)).mono ?_; rw [HV1.out]; rintro e w1 ⟨rfl, hb1⟩
         have HB1 := Lib.hid (bel_call HB3.out (by rw [← HW.out]; exact hb1))
         have HP1 := Lib.hid (HP.out.call (by rw [← HW.out]; exact hb1))
         have HQ1 := Lib.hid (HQ.out.call (by rw [← HW.out]; exact hb1))
         have HR1 := Lib.hid (HR.out.call (by rw [← HW.out]; exact hb1))
         have p0_1 : w1.cell? ⟨w.heap.size, 0, none⟩ = some (.int .i64 d1) := HP1.out.cell (show 0 < 2 by omega)
         have p1_1 : w1.cell? ⟨w.heap.size, 1, none⟩ = some (.slice A1 n1 c1) := HP1.out.cell (show 1 < 2 by omega)
         have q0_1 : w1.cell? ⟨w.heap.size + 1, 0, none⟩ = some (.int .i64 d2) := HQ1.out.cell (show 0 < 2 by omega)
         have q1_1 : w1.cell? ⟨w.heap.size + 1, 1, none⟩ = some (.slice A2 n2 c2) := HQ1.out.cell (show 1 < 2 by omega)
         have r0_1 : w1.cell? ⟨w.heap.size + 2, 0, none⟩ = some (.int .i64 0) := HR1.out.cell (show 0 < 2 by omega)
         have r1_1 : w1.cell? ⟨w.heap.size + 2, 1, none⟩ = some (.slice none 0 0) := HR1.out.cell (show 1 < 2 by omega)
         have f0_1 := HR1.out.frozen (show 0 < 2 by omega)
         have f1_1 := HR1.out.frozen (show 1 < 2 by omega)
         clear hb1))
    refine bodyPost_ret (v := .tuple #[.agg #[.int .i64 0, .slice none 0 0], .bool false]) (by simp [results, Try.results40, go_sem, r0_1, r1_1]) rfl (pinsOut_no rfl ?_)
    iterate 2 (refine Below.setCell ?_ (by show w.heap.size ≤ w.heap.size + 2; omega) _)
    exact HB1.out
  rcases v2 with _ | _
  · rw [HL.out, (HNO.out (by rw [HL.out]; rfl)).1, (HNO.out (by rw [HL.out]; rfl)).2]
    go_enter Try.func40, Try.ntmps40
    go_wp2_with (first
      | (go_at_call 67; refine (keGood_any _ _ _ _ ls _ hm2 (H2.out.below HB1.out)).mono ?_; rw [HV2.out]; rintro e w2 ⟨rfl, hb2⟩
         have HB2 := Lib.hid (bel_call HB1.out hb2)
         have HP2 := Lib.hid (HP1.out.call hb2)
         have HQ2 := Lib.hid (HQ1.out.call hb2)
         have HR2 := Lib.hid (HR1.out.call hb2)
         have p0_2 : w2.cell? ⟨w.heap.size, 0, none⟩ = some (.int .i64 d1) := HP2.out.cell (show 0 < 2 by omega)
         have p1_2 : w2.cell? ⟨w.heap.size, 1, none⟩ = some (.slice A1 n1 c1) := HP2.out.cell (show 1 < 2 by omega)
         have q0_2 : w2.cell? ⟨w.heap.size + 1, 0, none⟩ = some (.int .i64 d2) := HQ2.out.cell (show 0 < 2 by omega)
         have q1_2 : w2.cell? ⟨w.heap.size + 1, 1, none⟩ = some (.slice A2 n2 c2) := HQ2.out.cell (show 1 < 2 by omega)
         have r0_2 : w2.cell? ⟨w.heap.size + 2, 0, none⟩ = some (.int .i64 0) := HR2.out.cell (show 0 < 2 by omega)
         have r1_2 : w2.cell? ⟨w.heap.size + 2, 1, none⟩ = some (.slice none 0 0) := HR2.out.cell (show 1 < 2 by omega)
         have f0_2 := HR2.out.frozen (show 0 < 2 by omega)
         have f1_2 := HR2.out.frozen (show 1 < 2 by omega)
         clear hb2)
      | (go_at_call 67; refine (keGood_any _ _ _ _ ks _ hm1 (by rw [HW.out]; exact H1.out.below HB3.out)).mono ?_; rw [HV1.out]; rintro e w1 ⟨rfl, hb1⟩
         have HB1 := Lib.hid (bel_call HB3.out (by rw [← HW.out]; exact hb1))
         have HP1 := Lib.hid (HP.out.call (by rw [← HW.out]; exact hb1))
         have HQ1 := Lib.hid (HQ.out.call (by rw [← HW.out]; exact hb1))
         have HR1 := Lib.hid (HR.out.call (by rw [← HW.out]; exact hb1))
         have p0_1 : w1.cell? ⟨w.heap.size, 0, none⟩ = some (.int .i64 d1) := HP1.out.cell (show 0 < 2 by omega)
         have p1_1 : w1.cell? ⟨w.heap.size, 1, none⟩ = some (.slice A1 n1 c1) := HP1.out.cell (show 1 < 2 by omega)
         have q0_1 : w1.cell? ⟨w.heap.size + 1, 0, none⟩ = some (.int .i64 d2) := HQ1.out.cell (show 0 < 2 by omega)
         have q1_1 : w1.cell? ⟨w.heap.size + 1, 1, none⟩ = some (.slice A2 n2 c2) := HQ1.out.cell (show 1 < 2 by omega)
         have r0_1 : w1.cell? ⟨w.heap.size + 2, 0, none⟩ = some (.int .i64 0) := HR1.out.cell (show 0 < 2 by omega)
         have r1_1 : w1.cell? ⟨w.heap.size + 2, 1, none⟩ = some (.slice none 0 0) := HR1.out.cell (show 1 < 2 by omega)
         have f0_1 := HR1.out.frozen (show 0 < 2 by omega)
         have f1_1 := HR1.out.frozen (show 1 < 2 by omega)
         clear hb1))
    refine bodyPost_ret (v := .tuple #[.agg #[.int .i64 0, .slice none 0 0], .bool false]) (by simp [results, Try.results40, go_sem, r0_2, r1_2]) rfl (pinsOut_no rfl ?_)
    iterate 2 (refine Below.setCell ?_ (by show w.heap.size ≤ w.heap.size + 2; omega) _)
    exact HB2.out
  rcases v3 with _ | _
  · rw [HL.out, (HNO.out (by rw [HL.out]; rfl)).1, (HNO.out (by rw [HL.out]; rfl)).2]
    go_enter Try.func40, Try.ntmps40
    go_wp2_with (first
      | (go_at_call 86; refine (keKind_any _ _ _ _ _ _ _ _ _).mono ?_; rw [HV3.out]; rintro e w3 ⟨rfl, hb3⟩
         have HBx3 := Lib.hid (bel_call HB2.out hb3)
         have HP3 := Lib.hid (HP2.out.call hb3)
         have HQ3 := Lib.hid (HQ2.out.call hb3)
         have HR3 := Lib.hid (HR2.out.call hb3)
         have p0_3 : w3.cell? ⟨w.heap.size, 0, none⟩ = some (.int .i64 d1) := HP3.out.cell (show 0 < 2 by omega)
         have p1_3 : w3.cell? ⟨w.heap.size, 1, none⟩ = some (.slice A1 n1 c1) := HP3.out.cell (show 1 < 2 by omega)
         have q0_3 : w3.cell? ⟨w.heap.size + 1, 0, none⟩ = some (.int .i64 d2) := HQ3.out.cell (show 0 < 2 by omega)
         have q1_3 : w3.cell? ⟨w.heap.size + 1, 1, none⟩ = some (.slice A2 n2 c2) := HQ3.out.cell (show 1 < 2 by omega)
         have r0_3 : w3.cell? ⟨w.heap.size + 2, 0, none⟩ = some (.int .i64 0) := HR3.out.cell (show 0 < 2 by omega)
         have r1_3 : w3.cell? ⟨w.heap.size + 2, 1, none⟩ = some (.slice none 0 0) := HR3.out.cell (show 1 < 2 by omega)
         have f0_3 := HR3.out.frozen (show 0 < 2 by omega)
         have f1_3 := HR3.out.frozen (show 1 < 2 by omega)
         clear hb3)
      | (go_at_call 67; refine (keGood_any _ _ _ _ ls _ hm2 (H2.out.below HB1.out)).mono ?_; rw [HV2.out]; rintro e w2 ⟨rfl, hb2⟩
         have HB2 := Lib.hid (bel_call HB1.out hb2)
         have HP2 := Lib.hid (HP1.out.call hb2)
         have HQ2 := Lib.hid (HQ1.out.call hb2)
         have HR2 := Lib.hid (HR1.out.call hb2)
         have p0_2 : w2.cell? ⟨w.heap.size, 0, none⟩ = some (.int .i64 d1) := HP2.out.cell (show 0 < 2 by omega)
         have p1_2 : w2.cell? ⟨w.heap.size, 1, none⟩ = some (.slice A1 n1 c1) := HP2.out.cell (show 1 < 2 by omega)
         have q0_2 : w2.cell? ⟨w.heap.size + 1, 0, none⟩ = some (.int .i64 d2) := HQ2.out.cell (show 0 < 2 by omega)
         have q1_2 : w2.cell? ⟨w.heap.size + 1, 1, none⟩ = some (.slice A2 n2 c2) := HQ2.out.cell (show 1 < 2 by omega)
         have r0_2 : w2.cell? ⟨w.heap.size + 2, 0, none⟩ = some (.int .i64 0) := HR2.out.cell (show 0 < 2 by omega)
         have r1_2 : w2.cell? ⟨w.heap.size + 2, 1, none⟩ = some (.slice none 0 0) := HR2.out.cell (show 1 < 2 by omega)
         have f0_2 := HR2.out.frozen (show 0 < 2 by omega)
         have f1_2 := HR2.out.frozen (show 1 < 2 by omega)
         clear hb2)
      | (go_at_call 67; refine (keGood_any _ _ _ _ ks _ hm1 (by rw [HW.out]; exact H1.out.below HB3.out)).mono ?_; rw [HV1.out]; rintro e w1 ⟨rfl, hb1⟩
         have HB1 := Lib.hid (bel_call HB3.out (by rw [← HW.out]; exact hb1))
         have HP1 := Lib.hid (HP.out.call (by rw [← HW.out]; exact hb1))
         have HQ1 := Lib.hid (HQ.out.call (by rw [← HW.out]; exact hb1))
         have HR1 := Lib.hid (HR.out.call (by rw [← HW.out]; exact hb1))
         have p0_1 : w1.cell? ⟨w.heap.size, 0, none⟩ = some (.int .i64 d1) := HP1.out.cell (show 0 < 2 by omega)
         have p1_1 : w1.cell? ⟨w.heap.size, 1, none⟩ = some (.slice A1 n1 c1) := HP1.out.cell (show 1 < 2 by omega)
         have q0_1 : w1.cell? ⟨w.heap.size + 1, 0, none⟩ = some (.int .i64 d2) := HQ1.out.cell (show 0 < 2 by omega)
         have q1_1 : w1.cell? ⟨w.heap.size + 1, 1, none⟩ = some (.slice A2 n2 c2) := HQ1.out.cell (show 1 < 2 by omega)
         have r0_1 : w1.cell? ⟨w.heap.size + 2, 0, none⟩ = some (.int .i64 0) := HR1.out.cell (show 0 < 2 by omega)
         have r1_1 : w1.cell? ⟨w.heap.size + 2, 1, none⟩ = some (.slice none 0 0) := HR1.out.cell (show 1 < 2 by omega)
         have f0_1 := HR1.out.frozen (show 0 < 2 by omega)
         have f1_1 := HR1.out.frozen (show 1 < 2 by omega)
         clear hb1))
    refine bodyPost_ret (v := .tuple #[.agg #[.int .i64 0, .slice none 0 0], .bool false]) (by simp [results, Try.results40, go_sem, r0_3, r1_3]) rfl (pinsOut_no rfl ?_)
    iterate 2 (refine Below.setCell ?_ (by show w.heap.size ≤ w.heap.size + 2; omega) _)
    exact HBx3.out
  · obtain ⟨e1, e2⟩ := kindB_yes HV3.out
    subst e1 e2
    obtain ⟨h1, h9, _, h7, _⟩ := pinsB_yes HV1.out
    obtain ⟨dn, rfl⟩ : ∃ dn : Nat, d1 = (dn : Int) := ⟨d1.toNat, by omega⟩
    have hd9 : dn ≤ 9 := by omega
    have hn7 : n1 ≤ 7 := by have := N1.out; omega
    have HJ : Hid (jnL (bothB false) dn ks ls n1 = cbK (fun x y => x || y) [((dn : Int), ks), ((dn : Int), ls)]) := Lib.hid (by rw [cbK_two (by rw [HL.out]; rfl), Int.toNat_natCast, N1.out]; exact jnL_congr both_or _ _ _ _)
    have HJL : Hid ((cbK (fun x y => x || y) [((dn : Int), ks), ((dn : Int), ls)]).length = n1) := Lib.hid (by rw [← HJ.out]; exact jnL_length _ _ _ _ _)
    have HD : Hid (cbD [((dn : Int), ks), ((dn : Int), ls)] = (dn : Int)) := Lib.hid (cbD_yes (by rw [HL.out]; rfl))
    rw [HL.out, HD.out]
    go_enter Try.func40, Try.ntmps40
    go_wp2_with (first
      | (go_at_call 87; refine (keJoin_any dn (dn : Int) false _ _ n1 _ _ ks ls _ hn7 hd9 (H1.out.below HBx3.out) (H2.out.below HBx3.out) (pins_nine HV1.out) (pins_nine HV2.out)).mono ?_; rw [HJ.out]; rintro e w4 ⟨v4, rfl, hR4, hb4⟩
         obtain ⟨A4, c4, rfl⟩ := hR4.slice
         rw [HJL.out] at hR4 ⊢
         have HB4 := Lib.hid (bel_call HBx3.out hb4)
         have HR4 := Lib.hid (HR3.out.call hb4)
         have hlt := HR3.out.lt
         have HRR := Lib.hid ((hR4.under (p := ⟨w.heap.size + 2, 0, none⟩) hlt (.int .i64 (dn : Int))).under (p := ⟨w.heap.size + 2, 1, none⟩) hlt (.slice A4 n1 c4))
         have r0_4 : w4.cell? ⟨w.heap.size + 2, 0, none⟩ = some (.int .i64 0) := HR4.out.cell (show 0 < 2 by omega)
         have r1_4 : w4.cell? ⟨w.heap.size + 2, 1, none⟩ = some (.slice none 0 0) := HR4.out.cell (show 1 < 2 by omega)
         have f0_4 := HR4.out.frozen (show 0 < 2 by omega)
         have f1_4 := HR4.out.frozen (show 1 < 2 by omega)
         clear hb4 hR4)
      | (go_at_call 86; refine (keKind_any _ _ _ _ _ _ _ _ _).mono ?_; rw [HV3.out]; rintro e w3 ⟨rfl, hb3⟩
         have HBx3 := Lib.hid (bel_call HB2.out hb3)
         have HP3 := Lib.hid (HP2.out.call hb3)
         have HQ3 := Lib.hid (HQ2.out.call hb3)
         have HR3 := Lib.hid (HR2.out.call hb3)
         have p0_3 : w3.cell? ⟨w.heap.size, 0, none⟩ = some (.int .i64 (dn : Int)) := HP3.out.cell (show 0 < 2 by omega)
         have p1_3 : w3.cell? ⟨w.heap.size, 1, none⟩ = some (.slice A1 n1 c1) := HP3.out.cell (show 1 < 2 by omega)
         have q0_3 : w3.cell? ⟨w.heap.size + 1, 0, none⟩ = some (.int .i64 (dn : Int)) := HQ3.out.cell (show 0 < 2 by omega)
         have q1_3 : w3.cell? ⟨w.heap.size + 1, 1, none⟩ = some (.slice A2 n1 c2) := HQ3.out.cell (show 1 < 2 by omega)
         have r0_3 : w3.cell? ⟨w.heap.size + 2, 0, none⟩ = some (.int .i64 0) := HR3.out.cell (show 0 < 2 by omega)
         have r1_3 : w3.cell? ⟨w.heap.size + 2, 1, none⟩ = some (.slice none 0 0) := HR3.out.cell (show 1 < 2 by omega)
         have f0_3 := HR3.out.frozen (show 0 < 2 by omega)
         have f1_3 := HR3.out.frozen (show 1 < 2 by omega)
         clear hb3)
      | (go_at_call 67; refine (keGood_any _ _ _ _ ls _ hm2 (H2.out.below HB1.out)).mono ?_; rw [HV2.out]; rintro e w2 ⟨rfl, hb2⟩
         have HB2 := Lib.hid (bel_call HB1.out hb2)
         have HP2 := Lib.hid (HP1.out.call hb2)
         have HQ2 := Lib.hid (HQ1.out.call hb2)
         have HR2 := Lib.hid (HR1.out.call hb2)
         have p0_2 : w2.cell? ⟨w.heap.size, 0, none⟩ = some (.int .i64 (dn : Int)) := HP2.out.cell (show 0 < 2 by omega)
         have p1_2 : w2.cell? ⟨w.heap.size, 1, none⟩ = some (.slice A1 n1 c1) := HP2.out.cell (show 1 < 2 by omega)
         have q0_2 : w2.cell? ⟨w.heap.size + 1, 0, none⟩ = some (.int .i64 (dn : Int)) := HQ2.out.cell (show 0 < 2 by omega)
         have q1_2 : w2.cell? ⟨w.heap.size + 1, 1, none⟩ = some (.slice A2 n1 c2) := HQ2.out.cell (show 1 < 2 by omega)
         have r0_2 : w2.cell? ⟨w.heap.size + 2, 0, none⟩ = some (.int .i64 0) := HR2.out.cell (show 0 < 2 by omega)
         have r1_2 : w2.cell? ⟨w.heap.size + 2, 1, none⟩ = some (.slice none 0 0) := HR2.out.cell (show 1 < 2 by omega)
         have f0_2 := HR2.out.frozen (show 0 < 2 by omega)
         have f1_2 := HR2.out.frozen (show 1 < 2 by omega)
         clear hb2)
      | (go_at_call 67; refine (keGood_any _ _ _ _ ks _ hm1 (by rw [HW.out]; exact H1.out.below HB3.out)).mono ?_; rw [HV1.out]; rintro e w1 ⟨rfl, hb1⟩
         have HB1 := Lib.hid (bel_call HB3.out (by rw [← HW.out]; exact hb1))
         have HP1 := Lib.hid (HP.out.call (by rw [← HW.out]; exact hb1))
         have HQ1 := Lib.hid (HQ.out.call (by rw [← HW.out]; exact hb1))
         have HR1 := Lib.hid (HR.out.call (by rw [← HW.out]; exact hb1))
         have p0_1 : w1.cell? ⟨w.heap.size, 0, none⟩ = some (.int .i64 (dn : Int)) := HP1.out.cell (show 0 < 2 by omega)
         have p1_1 : w1.cell? ⟨w.heap.size, 1, none⟩ = some (.slice A1 n1 c1) := HP1.out.cell (show 1 < 2 by omega)
         have q0_1 : w1.cell? ⟨w.heap.size + 1, 0, none⟩ = some (.int .i64 (dn : Int)) := HQ1.out.cell (show 0 < 2 by omega)
         have q1_1 : w1.cell? ⟨w.heap.size + 1, 1, none⟩ = some (.slice A2 n1 c2) := HQ1.out.cell (show 1 < 2 by omega)
         have r0_1 : w1.cell? ⟨w.heap.size + 2, 0, none⟩ = some (.int .i64 0) := HR1.out.cell (show 0 < 2 by omega)
         have r1_1 : w1.cell? ⟨w.heap.size + 2, 1, none⟩ = some (.slice none 0 0) := HR1.out.cell (show 1 < 2 by omega)
         have f0_1 := HR1.out.frozen (show 0 < 2 by omega)
         have f1_1 := HR1.out.frozen (show 1 < 2 by omega)
         clear hb1))
    refine bodyPost_ret (v := .tuple #[.agg #[.int .i64 (dn : Int), .slice A4 n1 c4], .bool true]) (by simp [results, Try.results40, go_sem, r0_4, r1_4]) rfl ⟨_, rfl, HRR.out.weak HBx3.out.size, ?_⟩
    iterate 2 (refine Below.setCell ?_ (by show w.heap.size ≤ w.heap.size + 2; omega) _)
    exact HB4.out

set_option maxRecDepth 100000 in
set_option maxHeartbeats 4000000 in
theorem masterPins_any (d1 d2 : Int) (A1 A2 : Option Addr) (n1 n2 c1 c2 : Nat) (ks ls : List (List Int)) (w : World) (hm1 : n1 + lensAt ks n1 ≤ 1048576) (hm2 : n2 + lensAt ls n2 ≤ 1048576) (h1 : KnobsA w A1 n1 ks) (h2 : KnobsA w A2 n2 ls) :
    Calls Try.prog 41 #[.agg #[.int .i64 d1, .slice A1 n1 c1], .agg #[.int .i64 d2, .slice A2 n2 c2]] w (PinsOut w (cbD [(d1, ks), (d2, ls)]) (cbK (fun x y => x || y) [(d1, ks), (d2, ls)]) (listB [(d1, ks), (d2, ls)])) := by
  obtain ⟨W3, hW3⟩ : ∃ W, ((w.alloc (.cells #[.int .i64 d1, .slice A1 n1 c1] 27)).alloc (.cells #[.int .i64 d2, .slice A2 n2 c2] 27)).alloc (.cells #[.int .i64 0, .slice none 0 0] 27) = W := ⟨_, rfl⟩
  have HB3 := Lib.hid (show Below w.heap.size w W3 from by rw [← hW3]; (repeat (first | assumption | exact Below.refl _ _ | (refine Below.alloc ?_ (by first | omega | (simp; done) | (simp; omega)) _) | (refine Below.setCell ?_ (by first | omega | (simp; done) | (simp; omega)) _) | refine bel_drewN ?_ _ | refine bel_drew ?_ | (refine bel_call ?_ (by assumption)))))
  have HR := Lib.hid (show Cells W3 (w.heap.size + 2) 2 (pF 0 (.slice none 0 0)) from by rw [← hW3]; exact Cells.new (W := (w.alloc _).alloc _) (n := 2) (by rw [World.size_alloc, World.size_alloc]) rfl)
  have hs : W3.heap.size = w.heap.size + 3 := by rw [← hW3, World.size_alloc, World.size_alloc, World.size_alloc]
  have HP1 : Hid (ArgP (W3.alloc (.cells #[.int .i64 d1, .slice A1 n1 c1, .int .i64 d2, .slice A2 n2 c2] 27)) (some ⟨w.heap.size + 3, 0, none⟩) 2 [(d1, ks), (d2, ls)]) := Lib.hid (by
    have h := argP_two (c1 := c1) (c2 := c2) (d1 := d1) (d2 := d2) (t := 27) (h1.below HB3.out) (h2.below HB3.out) (by unfold maxLen; omega) (by unfold maxLen; omega)
    rw [hs] at h
    exact h)
  have HBX := Lib.hid (HB3.out.alloc HB3.out.size (.cells #[.int .i64 d1, .slice A1 n1 c1, .int .i64 d2, .slice A2 n2 c2] 27))
  have HRX := Lib.hid (HR.out.alloc (.cells #[.int .i64 d1, .slice A1 n1 c1, .int .i64 d2, .slice A2 n2 c2] 27))
  have HCS := Lib.hid (masterOf_any _ 2 2 [(d1, ks), (d2, ls)] _ (by unfold maxLen; omega) HP1.out (few_two h1.len h2.len hm1 hm2))
  generalize cbD [(d1, ks), (d2, ls)] = zd at HCS ⊢
  generalize cbK (fun x y => x || y) [(d1, ks), (d2, ls)] = zk at HCS ⊢
  generalize listB [(d1, ks), (d2, ls)] = zo at HCS ⊢
  clear HP1 h1 h2 hs HB3 HR
  rw [← hW3] at HBX HRX HCS
  clear hW3 W3
  go_enter Try.func41, Try.ntmps41
  go_wp2_with (first
    | (go_at_call 53; refine HCS.out.mono ?_; rintro e w2 ⟨v2, rfl, hR2, hb2⟩
       obtain ⟨A2', c2', rfl⟩ := hR2.slice
       have HB2 := Lib.hid (bel_call HBX.out hb2)
       have HR2 := Lib.hid (HRX.out.call hb2)
       have hlt := HRX.out.lt
       have HR3 := Lib.hid ((hR2.under (p := ⟨w.heap.size + 2, 0, none⟩) hlt (.int .i64 zd)).under (p := ⟨w.heap.size + 2, 1, none⟩) hlt (.slice A2' zk.length c2'))
       have q0 : w2.cell? ⟨w.heap.size + 2, 0, none⟩ = some (.int .i64 0) := HR2.out.cell (show 0 < 2 by omega)
       have q1 : w2.cell? ⟨w.heap.size + 2, 1, none⟩ = some (.slice none 0 0) := HR2.out.cell (show 1 < 2 by omega)
       have f0 := HR2.out.frozen (show 0 < 2 by omega)
       have f1 := HR2.out.frozen (show 1 < 2 by omega)
       clear hb2 hR2))
  refine bodyPost_ret (v := .tuple #[.agg #[.int .i64 zd, .slice A2' zk.length c2'], .bool zo]) (by simp [results, Try.results41, go_sem, q0, q1]) rfl ⟨_, rfl, HR3.out.weak HBX.out.size, ?_⟩
  iterate 2 (refine Below.setCell ?_ (by show w.heap.size ≤ w.heap.size + 2; omega) _)
  exact HB2.out

/-- Pins of the law's own, marked from k0 on. -/
theorem markGrid_any (a : Int) (g n c lo hi k0 : Nat) (ks : List (List Int)) (G : Nat → Nat) (w : World) (hn : ks.length = n) (hm : n + lensAt ks n ≤ 1048576) (hk0 : k0 ≤ 1048577) (hD : GridT w g n ks G) (hG : ∀ k, k < n → lo ≤ G k ∧ G k < hi) :
    Calls Try.prog 34 #[.agg #[.int .i64 a, .slice (some ⟨g, 0, none⟩) n c], .int .i64 (k0 : Int)] w fun e w' => e = .returned (.int .i64 ((k0 + lensAt ks n : Nat) : Int)) ∧ w.heap.size ≤ w'.heap.size ∧ (∀ B, B ≤ w.heap.size → B ≤ lo → Below B w w') ∧ ∀ g' m f', ¬ (lo ≤ g' ∧ g' < hi) → Cells w g' m f' → Cells w' g' m f' := by
  subst hn
  have HG := Lib.hid hG
  have HD := Lib.hid hD.marks
  have HS := Lib.hid (sumL_lens ks ks.length)
  have HB0 := Lib.hid (show Below w.heap.size w (w.alloc (.cells #[.int .i64 a, .slice (some ⟨g, 0, none⟩) ks.length c] 27)) from (Below.refl _ _).alloc (Nat.le_refl _) _)
  have hs : (w.alloc (.cells #[.int .i64 a, .slice (some ⟨g, 0, none⟩) ks.length c] 27)).heap.size = w.heap.size + 1 := World.size_alloc ..
  have HSZ := Lib.hid hs
  clear hD hG hs
  go_enter Try.func34, Try.ntmps34
  go_wp2_with (go_at_call 79; refine (markIntSS_from _ _ _ k0 _ _ _ _ _ hk0 (by rw [HS.out]; exact hm) (HD.out.call HB0.out)).mono ?_; rw [HS.out]; rintro e w2 ⟨rfl, _, hz2, hB2, hO2⟩)
  go_ret
  exact ⟨rfl, by have := HSZ.out; omega, fun B hB hlo => (HB0.out.mono hB).trans (hB2 B (fun k hk => by have := HG.out k hk; omega)), fun g' m f' hno hC => hO2 g' m f' (fun k hk e => hno (by have := HG.out k hk; omega)) (hC.call HB0.out)⟩

/-- The law's world behind the model's (or the program's) answer: the answer's cell lies somewhere. -/
def CutX (w : World) (a1 a2 : Int) (v1 v2 : Value) (zd : Int) (zk : List (List Int)) (zo : Bool) (s6 s7 : Value) (wx : World) : Prop :=
  ∃ (U1 lo hi c0 : Nat) (A0 : Option Addr), s6 = .pointer (some ⟨U1, 0, none⟩) ∧ s7 = .bool zo ∧ Cells wx U1 2 (pF zd (.slice A0 zk.length c0)) ∧ KD wx lo hi A0 zk (digK zk) ∧ hi ≤ wx.heap.size ∧ Cells wx w.heap.size 2 (pF a1 v1) ∧ Cells wx (w.heap.size + 1) 2 (pF a2 v2) ∧ Below w.heap.size w wx

theorem KD.far0 {w : World} {lo hi : Nat} {A : Option Addr} {ks : List (List Int)} {f : Nat → Nat → Value} (h : KD w lo hi A ks f) {p : Addr} (hp : p.block < lo) (x : Value) : KD (w.setCell p x) lo hi A ks f :=
  h.imp id fun ⟨g, G, Cp, e, h1, h2, h3, h4⟩ => ⟨g, G, Cp, e, h1, h2, h3, h4.far0 (by omega) (fun k hk => by have := h3 k hk; omega) x⟩

theorem cutX_new {w w5 : World} {a1 a2 zd : Int} {v1 v2 : Value} {zk : List (List Int)} {zo : Bool} {A0 : Option Addr} {c0 lo : Nat} {t : TypeId} (K : KD w5 lo w5.heap.size A0 zk (digK zk)) (CP : Cells w5 w.heap.size 2 (pF a1 v1)) (CQ : Cells w5 (w.heap.size + 1) 2 (pF a2 v2)) (X : Below w.heap.size w w5) :
    CutX w a1 a2 v1 v2 zd zk zo (.pointer (some ⟨w5.heap.size, 0, none⟩)) (.bool zo) (w5.alloc (.cells #[.int .i64 zd, .slice A0 zk.length c0] t)) :=
  ⟨_, lo, w5.heap.size, c0, A0, rfl, rfl, Cells.new (n := 2) rfl rfl, K.call ((Below.refl _ _).alloc (Nat.le_refl _) _), by rw [World.size_alloc]; omega, CP.alloc _, CQ.alloc _, X.alloc X.size _⟩

theorem cutX_set {w w5 : World} {a1 a2 zd : Int} {v1 v2 : Value} {zk : List (List Int)} {zo : Bool} {A0 : Option Addr} {c0 lo g : Nat} (K : KD w5 lo w5.heap.size A0 zk (digK zk)) (CP : Cells w5 w.heap.size 2 (pF a1 v1)) (CQ : Cells w5 (w.heap.size + 1) 2 (pF a2 v2)) (X : Below w.heap.size w w5) (CA : Cells w5 g 2 (pF 0 (.slice none 0 0))) (hg : w.heap.size + 1 < g) (hl : g < lo) :
    CutX w a1 a2 v1 v2 zd zk zo (.pointer (some ⟨g, 0, none⟩)) (.bool zo) ((w5.setCell ⟨g, 0, none⟩ (.int .i64 zd)).setCell ⟨g, 1, none⟩ (.slice A0 zk.length c0)) :=
  ⟨g, lo, w5.heap.size, c0, A0, rfl, rfl, ((CA.set_ (show 0 < 2 by omega) _).set_ (show 1 < 2 by omega) _).congr (fun j hj => by
      have : j = 0 ∨ j = 1 := by omega
      rcases this with rfl | rfl <;> rfl),
    (K.far0 (p := ⟨g, 0, none⟩) hl _).far0 (p := ⟨g, 1, none⟩) hl _, by rw [size_setCell, size_setCell]; omega,
    (CP.far (p := ⟨g, 0, none⟩) (by show g ≠ w.heap.size; omega) _).far (p := ⟨g, 1, none⟩) (by show g ≠ w.heap.size; omega) _,
    (CQ.far (p := ⟨g, 0, none⟩) (by show g ≠ w.heap.size + 1; omega) _).far (p := ⟨g, 1, none⟩) (by show g ≠ w.heap.size + 1; omega) _,
    (X.setCell (p := ⟨g, 0, none⟩) (by show w.heap.size ≤ g; omega) _).setCell (p := ⟨g, 1, none⟩) (by show w.heap.size ≤ g; omega) _⟩

end Go.Proofs.Ytgcadcekkojidaa
