/- For every input at which the law FnExactMasterPins can be called it answers true and leaves its arguments as they were. No conditions. -/
import Derived.Test.YtgcadcekkojidaaLv
import Derived.Test.YtgcadcekkojidaaWn
import Derived.Test.YtgcadcekkojidaaFacts
namespace Go.Proofs.Ytgcadcekkojidaa.fnExactMasterPins
open Go.ChangeShapes Go.WideShapes Go.ChangeAt Go.RowKit Go.Joins
open Go.ChangeMaps (open_string shut_string)

set_option maxHeartbeats 60000000 in
theorem lawMasterPins_true (a1 : Int) (A1 : Option Addr) (n1 c1 : Nat) (ks : List (List Int)) (_ : (Lit.int .i64 a1).wf = true) {w : World} (hA1 : KnobsA w A1 n1 ks) (hn1 : n1 ≤ maxLen) (a2 : Int) (A2 : Option Addr) (n2 c2 : Nat) (ls : List (List Int)) (_ : (Lit.int .i64 a2).wf = true) (hA2 : KnobsA w A2 n2 ls) (hn2 : n2 ≤ maxLen) (_ : World) :
    Calls Try.prog 9 #[.agg #[.int .i64 a1, .slice A1 n1 c1], .agg #[.int .i64 a2, .slice A2 n2 c2]] w fun e w' => e = .returned (.bool true) ∧ Below w.heap.size w w' := by
  have H1 := Lib.hid hA1
  have H2 := Lib.hid hA2
  have N1 := Lib.hid hA1.len
  have N2 := Lib.hid hA2.len
  unfold maxLen at hn1 hn2
  clear hA1 hA2
  obtain ⟨W0, hW0⟩ : ∃ W, (w.alloc (.cells #[.int .i64 a1, .slice A1 n1 c1] 24)).alloc (.cells #[.int .i64 a2, .slice A2 n2 c2] 24) = W := ⟨_, rfl⟩
  have X0 := Lib.hid (show Below w.heap.size w W0 from by rw [← hW0]; (repeat (first | assumption | exact Below.refl _ _ | (refine Below.alloc ?_ (by first | omega | (simp; done) | (simp; omega)) _) | (refine Below.setCell ?_ (by first | omega | (simp; done) | (simp; omega)) _) | refine bel_drewN ?_ _ | refine bel_drew ?_ | (refine bel_call ?_ (by assumption)))))
  have CP0 := Lib.hid (show Cells W0 w.heap.size 2 (pF a1 (.slice A1 n1 c1)) from by rw [← hW0]; exact (Cells.new (n := 2) rfl rfl).alloc _)
  have CQ0 := Lib.hid (show Cells W0 (w.heap.size + 1) 2 (pF a2 (.slice A2 n2 c2)) from by rw [← hW0]; exact Cells.new (W := w.alloc _) (n := 2) (by rw [World.size_alloc]) rfl)
  have HW0 := Lib.hid hW0
  clear hW0
  go_enter Try.func9, Try.ntmps9
  go_wp2_with fail
  rw [HW0.out]
  refine (szPins_from _ _ _ _ ks _ _ (by omega) (by omega) (by omega) (H1.out.below X0.out)).mono ?_
  rintro e w1 ⟨⟨r, rfl, hr1, hr⟩, hb1⟩
  have CP1 := Lib.hid (CP0.out.call hb1)
  have CQ1 := Lib.hid (CQ0.out.call hb1)
  have X1 := Lib.hid (bel_call X0.out hb1)
  clear hb1 CP0 CQ0 X0
  by_cases hr0 : r < 0
  · go_wp2_with fail
    go_ret
    exact ⟨rfl, X1.out⟩
  have hm1 : n1 + lensAt ks n1 ≤ 1048576 := by have := hr (by omega); omega
  have hr2 : 0 ≤ r := by omega
  clear hr hr0
  have q0_1 : w1.cell? ⟨w.heap.size + 1, 0, none⟩ = some (.int .i64 a2) := CQ1.out.cell (show 0 < 2 by omega)
  have q1_1 : w1.cell? ⟨w.heap.size + 1, 1, none⟩ = some (.slice A2 n2 c2) := CQ1.out.cell (show 1 < 2 by omega)
  go_wp2_with fail
  refine (szPins_from _ _ _ _ ls _ _ (by omega) hr2 hr1 (H2.out.below X1.out)).mono ?_
  rintro e w2 ⟨⟨r', rfl, hr1', hr'⟩, hb2⟩
  clear q0_1 q1_1
  have CP2 := Lib.hid (CP1.out.call hb2)
  have CQ2 := Lib.hid (CQ1.out.call hb2)
  have X2 := Lib.hid (bel_call X1.out hb2)
  clear hb2 CP1 CQ1 X1
  by_cases hr0 : r' < 0
  · go_wp2_with fail
    go_ret
    exact ⟨rfl, X2.out⟩
  have hm2 : n2 + lensAt ls n2 ≤ 1048576 := by have := hr' (by omega); omega
  have hr3 : 0 ≤ r' := by omega
  clear hr' hr0 hr1' hr1 hr2
  have HL1 : Hid (lensAt ks n1 ≤ 1048576) := Lib.hid (by omega)
  have HQ1 : Hid (∀ (W : World) (g h : Nat), KnobsA W (some ⟨g, 0, none⟩) n1 ks → KnobsA W (some ⟨h, 0, none⟩) n2 ls → Calls Try.prog 40 #[.agg #[.int .i64 a1, .slice (some ⟨g, 0, none⟩) n1 n1], .agg #[.int .i64 a2, .slice (some ⟨h, 0, none⟩) n2 n2]] W (KPOut W (cbD [(a1, ks), (a2, ls)]) (cbK (fun x y => x || y) [(a1, ks), (a2, ls)]) (listB [(a1, ks), (a2, ls)]))) := Lib.hid (fun W g h k1 k2 => (specMasterPins_any a1 a2 _ _ _ _ _ _ ks ls W hm1 hm2 k1 k2).mono fun _ _ h => h.kd cbK_ne)
  have HQ2 : Hid (∀ (W : World) (g h : Nat), KnobsA W (some ⟨g, 0, none⟩) n1 ks → KnobsA W (some ⟨h, 0, none⟩) n2 ls → Calls Try.prog 41 #[.agg #[.int .i64 a1, .slice (some ⟨g, 0, none⟩) n1 n1], .agg #[.int .i64 a2, .slice (some ⟨h, 0, none⟩) n2 n2]] W (KPOut W (cbD [(a1, ks), (a2, ls)]) (cbK (fun x y => x || y) [(a1, ks), (a2, ls)]) (listB [(a1, ks), (a2, ls)]))) := Lib.hid (fun W g h k1 k2 => (masterPins_any a1 a2 _ _ _ _ _ _ ks ls W hm1 hm2 k1 k2).mono fun _ _ h => h.kd cbK_ne)
  have HM : Hid ((cbK (fun x y => x || y) [(a1, ks), (a2, ls)]).length + lensAt (cbK (fun x y => x || y) [(a1, ks), (a2, ls)]) (cbK (fun x y => x || y) [(a1, ks), (a2, ls)]).length ≤ 1048576) := Lib.hid cbK_size
  generalize cbD [(a1, ks), (a2, ls)] = zd at HQ1 HQ2
  generalize cbK (fun x y => x || y) [(a1, ks), (a2, ls)] = zk at HQ1 HQ2 HM
  generalize listB [(a1, ks), (a2, ls)] = zo at HQ1 HQ2
  go_wp2_with fail
  go_cut [6, 7] from 27 to 34 (fun s6 s7 wx => CutX w a1 a2 (.slice A1 n1 c1) (.slice A2 n2 c2) zd zk zo s6 s7 wx ∧ Below w2.heap.size w2 wx)
  case first =>
    have X2b := Lib.hid (bel_drew (X2.out.alloc X2.out.size (.cells #[.int .i64 0, .slice none 0 0] 27)))
    have CP2b := Lib.hid ((CP2.out.alloc (.cells #[.int .i64 0, .slice none 0 0] 27)).drew)
    have CQ2b := Lib.hid ((CQ2.out.alloc (.cells #[.int .i64 0, .slice none 0 0] 27)).drew)
    have CA2b := Lib.hid (show Cells (w2.alloc (.cells #[.int .i64 0, .slice none 0 0] 27)).drew w2.heap.size 2 (pF 0 (.slice none 0 0)) from (Cells.new (n := 2) rfl rfl).drew)
    have sz2 : w.heap.size + 1 < w2.heap.size := CQ2.out.lt
    have X2a := Lib.hid (bel_drew X2.out)
    have CP2a := Lib.hid CP2.out.drew
    have CQ2a := Lib.hid CQ2.out.drew
    have p0_2a : w2.drew.cell? ⟨w.heap.size, 0, none⟩ = some (.int .i64 a1) := CP2a.out.cell (show 0 < 2 by omega)
    have p1_2a : w2.drew.cell? ⟨w.heap.size, 1, none⟩ = some (.slice A1 n1 c1) := CP2a.out.cell (show 1 < 2 by omega)
    have q0_2a : w2.drew.cell? ⟨w.heap.size + 1, 0, none⟩ = some (.int .i64 a2) := CQ2a.out.cell (show 0 < 2 by omega)
    have q1_2a : w2.drew.cell? ⟨w.heap.size + 1, 1, none⟩ = some (.slice A2 n2 c2) := CQ2a.out.cell (show 1 < 2 by omega)
    have p0_2b : (w2.alloc (.cells #[.int .i64 0, .slice none 0 0] 27)).drew.cell? ⟨w.heap.size, 0, none⟩ = some (.int .i64 a1) := CP2b.out.cell (show 0 < 2 by omega)
    have p1_2b : (w2.alloc (.cells #[.int .i64 0, .slice none 0 0] 27)).drew.cell? ⟨w.heap.size, 1, none⟩ = some (.slice A1 n1 c1) := CP2b.out.cell (show 1 < 2 by omega)
    have q0_2b : (w2.alloc (.cells #[.int .i64 0, .slice none 0 0] 27)).drew.cell? ⟨w.heap.size + 1, 0, none⟩ = some (.int .i64 a2) := CQ2b.out.cell (show 0 < 2 by omega)
    have q1_2b : (w2.alloc (.cells #[.int .i64 0, .slice none 0 0] 27)).drew.cell? ⟨w.heap.size + 1, 1, none⟩ = some (.slice A2 n2 c2) := CQ2b.out.cell (show 1 < 2 by omega)
    have BZ2a := Lib.hid (bel_drew (Below.refl w2.heap.size w2))
    have BZ2b := Lib.hid (bel_drew ((Below.refl w2.heap.size w2).alloc (Nat.le_refl _) (.cells #[.int .i64 0, .slice none 0 0] 27)))
    go_region_with (first
      | (go_at_call 40
         refine (HQ1.out _ _ _ ((GP4.out).knobs N1.out hm1) ((GR4.out).knobs N2.out hm2)).mono ?_
         rintro e w5 ⟨A0', c0', rfl, k0, hb5⟩
         have CP5a := Lib.hid (CP4a.out.call hb5)
         have CQ5a := Lib.hid (CQ4a.out.call hb5)
         have X5a := Lib.hid (bel_call X4a.out hb5)
         have BZ5a := Lib.hid (bel_call BZ4a.out hb5)
         have K05a := Lib.hid k0
         clear k0)
      | (go_at_call 40
         refine (HQ1.out _ _ _ (((GP4.out.call ((Below.refl _ _).alloc (Nat.le_refl _) (.cells #[.int .i64 0, .slice none 0 0] 27)))).knobs N1.out hm1) (((GR4.out.call ((Below.refl _ _).alloc (Nat.le_refl _) (.cells #[.int .i64 0, .slice none 0 0] 27)))).knobs N2.out hm2)).mono ?_
         rintro e w5 ⟨A0', c0', rfl, k0, hb5⟩
         have CP5b := Lib.hid (CP4b.out.call hb5)
         have CQ5b := Lib.hid (CQ4b.out.call hb5)
         have X5b := Lib.hid (bel_call X4b.out hb5)
         have BZ5b := Lib.hid (bel_call BZ4b.out hb5)
         have K05b := Lib.hid k0
         clear k0
         have CA5b := Lib.hid (CA4b.out.call hb5)
         have v0 := CA5b.out.cell (show 0 < 2 by omega)
         have v1 := CA5b.out.cell (show 1 < 2 by omega)
         have u0 := CA5b.out.frozen (show 0 < 2 by omega)
         have u1 := CA5b.out.frozen (show 1 < 2 by omega))
      | (go_at_call 40
         refine (HQ1.out _ _ _ ((GP4.out).knobs N1.out hm1) ((GR4.out).knobs N2.out hm2)).mono ?_
         rintro e w5 ⟨A0', c0', rfl, k0, hb5⟩
         have CP5c := Lib.hid (CP4c.out.call hb5)
         have CQ5c := Lib.hid (CQ4c.out.call hb5)
         have X5c := Lib.hid (bel_call X4c.out hb5)
         have BZ5c := Lib.hid (bel_call BZ4c.out hb5)
         have K05c := Lib.hid k0
         clear k0
         have CA5c := Lib.hid (CA4c.out.call hb5)
         have v0 := CA5c.out.cell (show 0 < 2 by omega)
         have v1 := CA5c.out.cell (show 1 < 2 by omega)
         have u0 := CA5c.out.frozen (show 0 < 2 by omega)
         have u1 := CA5c.out.frozen (show 1 < 2 by omega))
      | (go_at_call 22
         refine (toPins_any _ _ _ _ ls _ hm2 (H2.out.below X3a.out)).mono ?_
         rintro e w4 ⟨g4, rfl, _, ⟨G4, hG4⟩, hb4⟩
         have GR4 := Lib.hid hG4
         clear hG4
         have GP4 := Lib.hid (GR3.out.call hb4)
         have CP4a := Lib.hid (CP3a.out.call hb4)
         have CQ4a := Lib.hid (CQ3a.out.call hb4)
         have X4a := Lib.hid (bel_call X3a.out hb4)
         have BZ4a := Lib.hid (bel_call BZ3a.out hb4)
         have X4b := Lib.hid (X4a.out.alloc X4a.out.size (.cells #[.int .i64 0, .slice none 0 0] 27))
         have CP4b := Lib.hid ((CP4a.out.alloc (.cells #[.int .i64 0, .slice none 0 0] 27)))
         have CQ4b := Lib.hid ((CQ4a.out.alloc (.cells #[.int .i64 0, .slice none 0 0] 27)))
         have CA4b := Lib.hid (show Cells (w4.alloc (.cells #[.int .i64 0, .slice none 0 0] 27)) w4.heap.size 2 (pF 0 (.slice none 0 0)) from Cells.new (n := 2) rfl rfl)
         have BZ4b := Lib.hid (BZ4a.out.alloc BZ4a.out.size (.cells #[.int .i64 0, .slice none 0 0] 27))
         clear hb4
         have sz4 : w.heap.size + 1 < w4.heap.size := CQ4a.out.lt
         have sy4 : w2.heap.size ≤ w4.heap.size := BZ4a.out.size
         have p0_4a : w4.cell? ⟨w.heap.size, 0, none⟩ = some (.int .i64 a1) := CP4a.out.cell (show 0 < 2 by omega)
         have p1_4a : w4.cell? ⟨w.heap.size, 1, none⟩ = some (.slice A1 n1 c1) := CP4a.out.cell (show 1 < 2 by omega)
         have q0_4a : w4.cell? ⟨w.heap.size + 1, 0, none⟩ = some (.int .i64 a2) := CQ4a.out.cell (show 0 < 2 by omega)
         have q1_4a : w4.cell? ⟨w.heap.size + 1, 1, none⟩ = some (.slice A2 n2 c2) := CQ4a.out.cell (show 1 < 2 by omega)
         have p0_4b : (w4.alloc (.cells #[.int .i64 0, .slice none 0 0] 27)).cell? ⟨w.heap.size, 0, none⟩ = some (.int .i64 a1) := CP4b.out.cell (show 0 < 2 by omega)
         have p1_4b : (w4.alloc (.cells #[.int .i64 0, .slice none 0 0] 27)).cell? ⟨w.heap.size, 1, none⟩ = some (.slice A1 n1 c1) := CP4b.out.cell (show 1 < 2 by omega)
         have q0_4b : (w4.alloc (.cells #[.int .i64 0, .slice none 0 0] 27)).cell? ⟨w.heap.size + 1, 0, none⟩ = some (.int .i64 a2) := CQ4b.out.cell (show 0 < 2 by omega)
         have q1_4b : (w4.alloc (.cells #[.int .i64 0, .slice none 0 0] 27)).cell? ⟨w.heap.size + 1, 1, none⟩ = some (.slice A2 n2 c2) := CQ4b.out.cell (show 1 < 2 by omega))
      | (go_at_call 22
         refine (toPins_any _ _ _ _ ls _ hm2 (H2.out.below X3b.out)).mono ?_
         rintro e w4 ⟨g4, rfl, _, ⟨G4, hG4⟩, hb4⟩
         have GR4 := Lib.hid hG4
         clear hG4
         have GP4 := Lib.hid ((GR3.out.call ((Below.refl _ _).alloc (Nat.le_refl _) (.cells #[.int .i64 0, .slice none 0 0] 27))).call hb4)
         have CP4c := Lib.hid (CP3b.out.call hb4)
         have CQ4c := Lib.hid (CQ3b.out.call hb4)
         have X4c := Lib.hid (bel_call X3b.out hb4)
         have BZ4c := Lib.hid (bel_call BZ3b.out hb4)
         have CA4c := Lib.hid (CA3b.out.call hb4)
         clear hb4
         have sz4 : w.heap.size + 1 < w4.heap.size := CQ4c.out.lt
         have sy4 : w2.heap.size ≤ w4.heap.size := BZ4c.out.size
         have p0_4c : w4.cell? ⟨w.heap.size, 0, none⟩ = some (.int .i64 a1) := CP4c.out.cell (show 0 < 2 by omega)
         have p1_4c : w4.cell? ⟨w.heap.size, 1, none⟩ = some (.slice A1 n1 c1) := CP4c.out.cell (show 1 < 2 by omega)
         have q0_4c : w4.cell? ⟨w.heap.size + 1, 0, none⟩ = some (.int .i64 a2) := CQ4c.out.cell (show 0 < 2 by omega)
         have q1_4c : w4.cell? ⟨w.heap.size + 1, 1, none⟩ = some (.slice A2 n2 c2) := CQ4c.out.cell (show 1 < 2 by omega))
      | (go_at_call 22
         refine (toPins_any _ _ _ _ ls _ hm2 (H2.out.below X3c.out)).mono ?_
         rintro e w4 ⟨g4, rfl, _, ⟨G4, hG4⟩, hb4⟩
         have GR4 := Lib.hid hG4
         clear hG4
         have GP4 := Lib.hid (GR3.out.call hb4)
         have CP4c := Lib.hid (CP3c.out.call hb4)
         have CQ4c := Lib.hid (CQ3c.out.call hb4)
         have X4c := Lib.hid (bel_call X3c.out hb4)
         have BZ4c := Lib.hid (bel_call BZ3c.out hb4)
         have CA4c := Lib.hid (CA3c.out.call hb4)
         clear hb4
         have sz4 : w.heap.size + 1 < w4.heap.size := CQ4c.out.lt
         have sy4 : w2.heap.size ≤ w4.heap.size := BZ4c.out.size
         have p0_4c : w4.cell? ⟨w.heap.size, 0, none⟩ = some (.int .i64 a1) := CP4c.out.cell (show 0 < 2 by omega)
         have p1_4c : w4.cell? ⟨w.heap.size, 1, none⟩ = some (.slice A1 n1 c1) := CP4c.out.cell (show 1 < 2 by omega)
         have q0_4c : w4.cell? ⟨w.heap.size + 1, 0, none⟩ = some (.int .i64 a2) := CQ4c.out.cell (show 0 < 2 by omega)
         have q1_4c : w4.cell? ⟨w.heap.size + 1, 1, none⟩ = some (.slice A2 n2 c2) := CQ4c.out.cell (show 1 < 2 by omega))
      | (go_at_call 22
         refine (toPins_any _ _ _ _ ks _ hm1 (H1.out.below X2a.out)).mono ?_
         rintro e w3 ⟨g3, rfl, _, ⟨G3, hG3⟩, hb3⟩
         have GR3 := Lib.hid hG3
         clear hG3
         have CP3a := Lib.hid (CP2a.out.call hb3)
         have CQ3a := Lib.hid (CQ2a.out.call hb3)
         have X3a := Lib.hid (bel_call X2a.out hb3)
         have BZ3a := Lib.hid (bel_call BZ2a.out hb3)
         have X3b := Lib.hid (X3a.out.alloc X3a.out.size (.cells #[.int .i64 0, .slice none 0 0] 27))
         have CP3b := Lib.hid ((CP3a.out.alloc (.cells #[.int .i64 0, .slice none 0 0] 27)))
         have CQ3b := Lib.hid ((CQ3a.out.alloc (.cells #[.int .i64 0, .slice none 0 0] 27)))
         have CA3b := Lib.hid (show Cells (w3.alloc (.cells #[.int .i64 0, .slice none 0 0] 27)) w3.heap.size 2 (pF 0 (.slice none 0 0)) from Cells.new (n := 2) rfl rfl)
         have BZ3b := Lib.hid (BZ3a.out.alloc BZ3a.out.size (.cells #[.int .i64 0, .slice none 0 0] 27))
         clear hb3
         have sz3 : w.heap.size + 1 < w3.heap.size := CQ3a.out.lt
         have sy3 : w2.heap.size ≤ w3.heap.size := BZ3a.out.size
         have p0_3a : w3.cell? ⟨w.heap.size, 0, none⟩ = some (.int .i64 a1) := CP3a.out.cell (show 0 < 2 by omega)
         have p1_3a : w3.cell? ⟨w.heap.size, 1, none⟩ = some (.slice A1 n1 c1) := CP3a.out.cell (show 1 < 2 by omega)
         have q0_3a : w3.cell? ⟨w.heap.size + 1, 0, none⟩ = some (.int .i64 a2) := CQ3a.out.cell (show 0 < 2 by omega)
         have q1_3a : w3.cell? ⟨w.heap.size + 1, 1, none⟩ = some (.slice A2 n2 c2) := CQ3a.out.cell (show 1 < 2 by omega)
         have p0_3b : (w3.alloc (.cells #[.int .i64 0, .slice none 0 0] 27)).cell? ⟨w.heap.size, 0, none⟩ = some (.int .i64 a1) := CP3b.out.cell (show 0 < 2 by omega)
         have p1_3b : (w3.alloc (.cells #[.int .i64 0, .slice none 0 0] 27)).cell? ⟨w.heap.size, 1, none⟩ = some (.slice A1 n1 c1) := CP3b.out.cell (show 1 < 2 by omega)
         have q0_3b : (w3.alloc (.cells #[.int .i64 0, .slice none 0 0] 27)).cell? ⟨w.heap.size + 1, 0, none⟩ = some (.int .i64 a2) := CQ3b.out.cell (show 0 < 2 by omega)
         have q1_3b : (w3.alloc (.cells #[.int .i64 0, .slice none 0 0] 27)).cell? ⟨w.heap.size + 1, 1, none⟩ = some (.slice A2 n2 c2) := CQ3b.out.cell (show 1 < 2 by omega))
      | (go_at_call 22
         refine (toPins_any _ _ _ _ ks _ hm1 (H1.out.below X2b.out)).mono ?_
         rintro e w3 ⟨g3, rfl, _, ⟨G3, hG3⟩, hb3⟩
         have GR3 := Lib.hid hG3
         clear hG3
         have CP3c := Lib.hid (CP2b.out.call hb3)
         have CQ3c := Lib.hid (CQ2b.out.call hb3)
         have X3c := Lib.hid (bel_call X2b.out hb3)
         have BZ3c := Lib.hid (bel_call BZ2b.out hb3)
         have CA3c := Lib.hid (CA2b.out.call hb3)
         clear hb3
         have sz3 : w.heap.size + 1 < w3.heap.size := CQ3c.out.lt
         have sy3 : w2.heap.size ≤ w3.heap.size := BZ3c.out.size
         have p0_3c : w3.cell? ⟨w.heap.size, 0, none⟩ = some (.int .i64 a1) := CP3c.out.cell (show 0 < 2 by omega)
         have p1_3c : w3.cell? ⟨w.heap.size, 1, none⟩ = some (.slice A1 n1 c1) := CP3c.out.cell (show 1 < 2 by omega)
         have q0_3c : w3.cell? ⟨w.heap.size + 1, 0, none⟩ = some (.int .i64 a2) := CQ3c.out.cell (show 0 < 2 by omega)
         have q1_3c : w3.cell? ⟨w.heap.size + 1, 1, none⟩ = some (.slice A2 n2 c2) := CQ3c.out.cell (show 1 < 2 by omega)))
    all_goals (go_wp2_with fail; go_meet)
    all_goals first
      | exact ⟨cutX_new K05a.out CP5a.out CQ5a.out X5a.out, BZ5a.out.alloc BZ5a.out.size _⟩
      | exact ⟨cutX_set K05b.out CP5b.out CQ5b.out X5b.out CA5b.out (by have := CQ4a.out.lt; omega) (by rw [World.size_alloc]; omega), ((BZ5b.out.setCell (p := ⟨_, 0, none⟩) BZ4a.out.size _).setCell (p := ⟨_, 1, none⟩) BZ4a.out.size _)⟩
      | exact ⟨cutX_set K05c.out CP5c.out CQ5c.out X5c.out CA5c.out (by omega) (by have := CA4c.out.lt; omega), ((BZ5c.out.setCell (p := ⟨_, 0, none⟩) (by first | exact sy3 | exact Nat.le_refl _) _).setCell (p := ⟨_, 1, none⟩) (by first | exact sy3 | exact Nat.le_refl _) _)⟩
  case rest =>
    clear X2 CP2 CQ2
    obtain ⟨W6, hWc⟩ : ∃ W, W = wc := ⟨_, rfl⟩
    subst hWc
    obtain ⟨⟨U1, lo0, hi0, c0, A0, rfl, rfl, hx1, hx2, hx3, hx4, hx5, hx6⟩, _⟩ := hcut
    have DX6 := Lib.hid hx1
    have K06 := Lib.hid hx2
    have CP6 := Lib.hid hx4
    have CQ6 := Lib.hid hx5
    have X6 := Lib.hid hx6
    have d6 := hx1.lt
    have d7 := hx5.lt
    have b5 := hx6.size
    clear hx1 hx2 hx4 hx5 hx6
    obtain ⟨S6, hS6⟩ : ∃ U, W6.heap.size = U := ⟨_, rfl⟩
    rw [hS6] at hx3 d6 d7 b5
    have HS6 := Lib.hid hS6
    clear hS6
    have p0_6 : W6.cell? ⟨w.heap.size, 0, none⟩ = some (.int .i64 a1) := CP6.out.cell (show 0 < 2 by omega)
    have p1_6 : W6.cell? ⟨w.heap.size, 1, none⟩ = some (.slice A1 n1 c1) := CP6.out.cell (show 1 < 2 by omega)
    have q0_6 : W6.cell? ⟨w.heap.size + 1, 0, none⟩ = some (.int .i64 a2) := CQ6.out.cell (show 0 < 2 by omega)
    have q1_6 : W6.cell? ⟨w.heap.size + 1, 1, none⟩ = some (.slice A2 n2 c2) := CQ6.out.cell (show 1 < 2 by omega)
    go_wp2_with fail
    refine (toPins_any _ _ _ _ ks _ hm1 (H1.out.below X6.out)).mono ?_
    rintro e w7 ⟨g7, rfl, hg7, ⟨G7, hG7⟩, hb7⟩
    have GR7 := Lib.hid hG7
    clear hG7
    clear p0_6 p1_6 q0_6 q1_6
    rw [HS6.out] at hg7
    have CP7 := Lib.hid (CP6.out.call hb7)
    have CQ7 := Lib.hid (CQ6.out.call hb7)
    have K07 := Lib.hid (K06.out.call hb7)
    have DX7 := Lib.hid (DX6.out.call hb7)
    have X7 := Lib.hid (bel_call X6.out hb7)
    clear hb7 CP6 CQ6 K06 DX6 X6
    have h7 := (show g7 < w7.heap.size from GR7.out.top.lt)
    have HH7 := Lib.hid (show ∀ k, k < n1 → g7 < G7 k ∧ G7 k < w7.heap.size from fun k hk => ⟨(GR7.out.row k hk).1, (GR7.out.row k hk).2.lt⟩)
    obtain ⟨W8, hW8⟩ : ∃ W, w7.alloc (.cells #[.int .i64 a1, .slice (some ⟨g7, 0, none⟩) n1 n1] 27) = W := ⟨_, rfl⟩
    have hb8 : Below w7.heap.size w7 W8 := by rw [← hW8]; exact (Below.refl _ _).alloc (Nat.le_refl _) _
    have E08 := Lib.hid (show Cells W8 w7.heap.size 2 (pF a1 (.slice (some ⟨g7, 0, none⟩) n1 n1)) from by rw [← hW8]; exact Cells.new (n := 2) rfl rfl)
    have s8 : W8.heap.size = w7.heap.size + 1 := by rw [← hW8, World.size_alloc]
    have HW8 := Lib.hid hW8
    clear hW8
    have GX7 := Lib.hid GR7.out
    clear GR7
    have CP8 := Lib.hid (CP7.out.call hb8)
    have CQ8 := Lib.hid (CQ7.out.call hb8)
    have K08 := Lib.hid (K07.out.call hb8)
    have DX8 := Lib.hid (DX7.out.call hb8)
    have GX8 := Lib.hid (GX7.out.call hb8)
    have X8 := Lib.hid (bel_call X7.out hb8)
    clear hb8 CP7 CQ7 K07 DX7 GX7 X7
    obtain ⟨UX, hUX⟩ : ∃ U, w7.heap.size = U := ⟨_, rfl⟩
    rw [hUX] at E08 s8 h7 HH7
    have HUX := Lib.hid hUX
    clear hUX
    obtain ⟨gx, hgx⟩ : ∃ g, g7 = g := ⟨_, rfl⟩
    subst hgx
    have p0_8 : W8.cell? ⟨w.heap.size, 0, none⟩ = some (.int .i64 a1) := CP8.out.cell (show 0 < 2 by omega)
    have p1_8 : W8.cell? ⟨w.heap.size, 1, none⟩ = some (.slice A1 n1 c1) := CP8.out.cell (show 1 < 2 by omega)
    have q0_8 : W8.cell? ⟨w.heap.size + 1, 0, none⟩ = some (.int .i64 a2) := CQ8.out.cell (show 0 < 2 by omega)
    have q1_8 : W8.cell? ⟨w.heap.size + 1, 1, none⟩ = some (.slice A2 n2 c2) := CQ8.out.cell (show 1 < 2 by omega)
    rw [← HW8.out] at q0_8 q1_8
    go_wp2_with fail
    try rw [HUX.out]
    rw [HW8.out]
    refine (toPins_any _ _ _ _ ls _ hm2 (H2.out.below X8.out)).mono ?_
    rintro e w9 ⟨g9, rfl, hg9, ⟨G9, hG9⟩, hb9⟩
    have GR9 := Lib.hid hG9
    clear hG9
    rw [s8] at hg9
    clear p0_8 p1_8 q0_8 q1_8
    have CP9 := Lib.hid (CP8.out.call hb9)
    have CQ9 := Lib.hid (CQ8.out.call hb9)
    have K09 := Lib.hid (K08.out.call hb9)
    have DX9 := Lib.hid (DX8.out.call hb9)
    have GX9 := Lib.hid (GX8.out.call hb9)
    have E09 := Lib.hid (E08.out.call hb9)
    have X9 := Lib.hid (bel_call X8.out hb9)
    clear hb9 CP8 CQ8 K08 DX8 GX8 E08 X8
    have h9 := (show g9 < w9.heap.size from GR9.out.top.lt)
    have HH9 := Lib.hid (show ∀ k, k < n2 → g9 < G9 k ∧ G9 k < w9.heap.size from fun k hk => ⟨(GR9.out.row k hk).1, (GR9.out.row k hk).2.lt⟩)
    obtain ⟨W10, hW10⟩ : ∃ W, w9.alloc (.cells #[.int .i64 a2, .slice (some ⟨g9, 0, none⟩) n2 n2] 27) = W := ⟨_, rfl⟩
    have hb10 : Below w9.heap.size w9 W10 := by rw [← hW10]; exact (Below.refl _ _).alloc (Nat.le_refl _) _
    have E110 := Lib.hid (show Cells W10 w9.heap.size 2 (pF a2 (.slice (some ⟨g9, 0, none⟩) n2 n2)) from by rw [← hW10]; exact Cells.new (n := 2) rfl rfl)
    have s10 : W10.heap.size = w9.heap.size + 1 := by rw [← hW10, World.size_alloc]
    have HW10 := Lib.hid hW10
    clear hW10
    have GY9 := Lib.hid GR9.out
    clear GR9
    have CP10 := Lib.hid (CP9.out.call hb10)
    have CQ10 := Lib.hid (CQ9.out.call hb10)
    have K010 := Lib.hid (K09.out.call hb10)
    have DX10 := Lib.hid (DX9.out.call hb10)
    have GX10 := Lib.hid (GX9.out.call hb10)
    have E010 := Lib.hid (E09.out.call hb10)
    have GY10 := Lib.hid (GY9.out.call hb10)
    have X10 := Lib.hid (bel_call X9.out hb10)
    clear hb10 CP9 CQ9 K09 DX9 GX9 E09 GY9 X9
    obtain ⟨UY, hUY⟩ : ∃ U, w9.heap.size = U := ⟨_, rfl⟩
    rw [hUY] at E110 s10 h9 HH9
    have HUY := Lib.hid hUY
    clear hUY
    have e0_10 : W10.cell? ⟨UX, 0, none⟩ = some (.int .i64 a1) := E010.out.cell (show 0 < 2 by omega)
    have e1_10 : W10.cell? ⟨UX, 1, none⟩ = some (.slice (some ⟨g7, 0, none⟩) n1 n1) := E010.out.cell (show 1 < 2 by omega)
    rw [← HW10.out] at e0_10 e1_10
    go_wp2_with fail
    try rw [HUY.out]
    rw [HW10.out]
    refine (HQ2.out _ _ _ (GX10.out.knobs N1.out hm1) (GY10.out.knobs N2.out hm2)).mono ?_
    rintro e w11 ⟨A9, c9, rfl, k9, hb11⟩
    clear e0_10 e1_10
    rw [s10] at k9
    have CP11 := Lib.hid (CP10.out.call hb11)
    have CQ11 := Lib.hid (CQ10.out.call hb11)
    have K011 := Lib.hid (K010.out.call hb11)
    have DX11 := Lib.hid (DX10.out.call hb11)
    have GX11 := Lib.hid (GX10.out.call hb11)
    have E011 := Lib.hid (E010.out.call hb11)
    have GY11 := Lib.hid (GY10.out.call hb11)
    have E111 := Lib.hid (E110.out.call hb11)
    have X11 := Lib.hid (bel_call X10.out hb11)
    clear hb11 CP10 CQ10 K010 DX10 GX10 E010 GY10 E110 X10
    have K111 := Lib.hid k9
    have b11 : UY + 1 ≤ w11.heap.size := E111.out.lt
    clear k9
    obtain ⟨W12, hW12⟩ : ∃ W, w11.alloc (.cells #[.int .i64 zd, .slice A9 zk.length c9] 27) = W := ⟨_, rfl⟩
    have hb12 : Below w11.heap.size w11 W12 := by rw [← hW12]; exact (Below.refl _ _).alloc (Nat.le_refl _) _
    have DY12 := Lib.hid (show Cells W12 w11.heap.size 2 (pF zd (.slice A9 zk.length c9)) from by rw [← hW12]; exact Cells.new (n := 2) rfl rfl)
    have s12 : W12.heap.size = w11.heap.size + 1 := by rw [← hW12, World.size_alloc]
    have HW12 := Lib.hid hW12
    clear hW12
    have CP12 := Lib.hid (CP11.out.call hb12)
    have CQ12 := Lib.hid (CQ11.out.call hb12)
    have K012 := Lib.hid (K011.out.call hb12)
    have DX12 := Lib.hid (DX11.out.call hb12)
    have GX12 := Lib.hid (GX11.out.call hb12)
    have E012 := Lib.hid (E011.out.call hb12)
    have GY12 := Lib.hid (GY11.out.call hb12)
    have E112 := Lib.hid (E111.out.call hb12)
    have K112 := Lib.hid (K111.out.call hb12)
    have X12 := Lib.hid (bel_call X11.out hb12)
    clear hb12 CP11 CQ11 K011 DX11 GX11 E011 GY11 E111 K111 X11
    obtain ⟨U3, hU3⟩ : ∃ U, w11.heap.size = U := ⟨_, rfl⟩
    rw [hU3] at DY12 K112 s12 b11
    have HU3 := Lib.hid hU3
    clear hU3
    have x0_12 : W12.cell? ⟨U1, 0, none⟩ = some (.int .i64 zd) := DX12.out.cell (show 0 < 2 by omega)
    have x1_12 : W12.cell? ⟨U1, 1, none⟩ = some (.slice A0 zk.length c0) := DX12.out.cell (show 1 < 2 by omega)
    rw [← HW12.out] at x0_12 x1_12
    go_wp2_with fail
    try rw [HU3.out]
    rw [HW12.out]
    refine (eqKD_any _ _ _ _ _ _ _ _ _ _ _ HM.out K112.out K012.out).mono ?_
    rintro e w13 ⟨rfl, hb13⟩
    have CP13 := Lib.hid (CP12.out.call hb13)
    have CQ13 := Lib.hid (CQ12.out.call hb13)
    have K013 := Lib.hid (K012.out.call hb13)
    have DX13 := Lib.hid (DX12.out.call hb13)
    have GX13 := Lib.hid (GX12.out.call hb13)
    have E013 := Lib.hid (E012.out.call hb13)
    have GY13 := Lib.hid (GY12.out.call hb13)
    have E113 := Lib.hid (E112.out.call hb13)
    have K113 := Lib.hid (K112.out.call hb13)
    have DY13 := Lib.hid (DY12.out.call hb13)
    have X13 := Lib.hid (bel_call X12.out hb13)
    clear hb13 CP12 CQ12 K012 DX12 GX12 E012 GY12 E112 K112 DY12 X12
    clear x0_12 x1_12
    go_wp2_with fail
    go_cut [58] from 54 to 57 (fun v wx => v = .bool false ∧ Below w13.heap.size w13 wx)
    case first =>
      have BD := Lib.hid (bel_drew (Below.refl w13.heap.size w13))
      have XD := Lib.hid (bel_drew X13.out)
      have CZ := Lib.hid CP13.out.drew
      have EZ := Lib.hid E013.out.drew
      have GZ := Lib.hid (GX13.out.call (bel_drew (Below.refl w13.heap.size w13)))
      have z0 : w13.drew.cell? ⟨w.heap.size, 0, none⟩ = some (.int .i64 a1) := CZ.out.cell (show 0 < 2 by omega)
      have z1 : w13.drew.cell? ⟨w.heap.size, 1, none⟩ = some (.slice A1 n1 c1) := CZ.out.cell (show 1 < 2 by omega)
      have e0 : w13.drew.cell? ⟨UX, 0, none⟩ = some (.int .i64 a1) := EZ.out.cell (show 0 < 2 by omega)
      have e1 : w13.drew.cell? ⟨UX, 1, none⟩ = some (.slice (some ⟨g7, 0, none⟩) n1 n1) := EZ.out.cell (show 1 < 2 by omega)
      go_region_with (first
        | (go_at_call 24
           refine (eqPins_any _ _ _ _ _ _ ks _ hm1 (GW.out.knobs N1.out hm1) (GV.out.knobs N1.out hm1)).mono ?_
           rintro e wE ⟨rfl, hbE⟩
           have BE := Lib.hid (bel_call BW.out hbE))
        | (go_at_call 22
           refine (toPins_any _ _ _ _ ks _ hm1 (H1.out.below XD.out)).mono ?_
           rintro e wV ⟨gV, rfl, _, ⟨GGV, hGV⟩, hbV⟩
           have GV := Lib.hid hGV
           have GW := Lib.hid (GZ.out.call hbV)
           have BW := Lib.hid (bel_call BD.out hbV)
           have EV := Lib.hid (EZ.out.call hbV)
           clear hGV hbV
           have i0 : wV.cell? ⟨UX, 0, none⟩ = some (.int .i64 a1) := EV.out.cell (show 0 < 2 by omega)
           have i1 : wV.cell? ⟨UX, 1, none⟩ = some (.slice (some ⟨g7, 0, none⟩) n1 n1) := EV.out.cell (show 1 < 2 by omega)))
      all_goals (go_wp2_with fail; go_meet)
      all_goals exact ⟨rfl, BE.out⟩
    obtain ⟨w15, hWc⟩ : ∃ W, W = wc := ⟨_, rfl⟩
    subst hWc
    obtain ⟨rfl, hb15⟩ := hcut
    have CP15 := Lib.hid (CP13.out.call hb15)
    have CQ15 := Lib.hid (CQ13.out.call hb15)
    have K015 := Lib.hid (K013.out.call hb15)
    have DX15 := Lib.hid (DX13.out.call hb15)
    have GX15 := Lib.hid (GX13.out.call hb15)
    have E015 := Lib.hid (E013.out.call hb15)
    have GY15 := Lib.hid (GY13.out.call hb15)
    have E115 := Lib.hid (E113.out.call hb15)
    have K115 := Lib.hid (K113.out.call hb15)
    have DY15 := Lib.hid (DY13.out.call hb15)
    have X15 := Lib.hid (bel_call X13.out hb15)
    clear hb15 CP13 CQ13 K013 DX13 GX13 E013 GY13 E113 K113 DY13 X13
    go_wp2_with fail
    go_cut [63] from 59 to 62 (fun v wx => v = .bool false ∧ Below w15.heap.size w15 wx)
    case first =>
      have BD := Lib.hid (bel_drew (Below.refl w15.heap.size w15))
      have XD := Lib.hid (bel_drew X15.out)
      have CZ := Lib.hid CQ15.out.drew
      have EZ := Lib.hid E115.out.drew
      have GZ := Lib.hid (GY15.out.call (bel_drew (Below.refl w15.heap.size w15)))
      have z0 : w15.drew.cell? ⟨w.heap.size + 1, 0, none⟩ = some (.int .i64 a2) := CZ.out.cell (show 0 < 2 by omega)
      have z1 : w15.drew.cell? ⟨w.heap.size + 1, 1, none⟩ = some (.slice A2 n2 c2) := CZ.out.cell (show 1 < 2 by omega)
      have e0 : w15.drew.cell? ⟨UY, 0, none⟩ = some (.int .i64 a2) := EZ.out.cell (show 0 < 2 by omega)
      have e1 : w15.drew.cell? ⟨UY, 1, none⟩ = some (.slice (some ⟨g9, 0, none⟩) n2 n2) := EZ.out.cell (show 1 < 2 by omega)
      go_region_with (first
        | (go_at_call 24
           refine (eqPins_any _ _ _ _ _ _ ls _ hm2 (GW.out.knobs N2.out hm2) (GV.out.knobs N2.out hm2)).mono ?_
           rintro e wE ⟨rfl, hbE⟩
           have BE := Lib.hid (bel_call BW.out hbE))
        | (go_at_call 22
           refine (toPins_any _ _ _ _ ls _ hm2 (H2.out.below XD.out)).mono ?_
           rintro e wV ⟨gV, rfl, _, ⟨GGV, hGV⟩, hbV⟩
           have GV := Lib.hid hGV
           have GW := Lib.hid (GZ.out.call hbV)
           have BW := Lib.hid (bel_call BD.out hbV)
           have EV := Lib.hid (EZ.out.call hbV)
           clear hGV hbV
           have i0 : wV.cell? ⟨UY, 0, none⟩ = some (.int .i64 a2) := EV.out.cell (show 0 < 2 by omega)
           have i1 : wV.cell? ⟨UY, 1, none⟩ = some (.slice (some ⟨g9, 0, none⟩) n2 n2) := EV.out.cell (show 1 < 2 by omega)))
      all_goals (go_wp2_with fail; go_meet)
      all_goals exact ⟨rfl, BE.out⟩
    obtain ⟨w17, hWc⟩ : ∃ W, W = wc := ⟨_, rfl⟩
    subst hWc
    obtain ⟨rfl, hb17⟩ := hcut
    have CP17 := Lib.hid (CP15.out.call hb17)
    have CQ17 := Lib.hid (CQ15.out.call hb17)
    have K017 := Lib.hid (K015.out.call hb17)
    have DX17 := Lib.hid (DX15.out.call hb17)
    have GX17 := Lib.hid (GX15.out.call hb17)
    have E017 := Lib.hid (E015.out.call hb17)
    have GY17 := Lib.hid (GY15.out.call hb17)
    have E117 := Lib.hid (E115.out.call hb17)
    have K117 := Lib.hid (K115.out.call hb17)
    have DY17 := Lib.hid (DY15.out.call hb17)
    have X17 := Lib.hid (bel_call X15.out hb17)
    clear hb17 CP15 CQ15 K015 DX15 GX15 E015 GY15 E115 K115 DY15 X15
    have e0_17 : w17.cell? ⟨UX, 0, none⟩ = some (.int .i64 a1) := E017.out.cell (show 0 < 2 by omega)
    have e1_17 : w17.cell? ⟨UX, 1, none⟩ = some (.slice (some ⟨g7, 0, none⟩) n1 n1) := E017.out.cell (show 1 < 2 by omega)
    go_wp2_with fail
    refine (markGrid_any a1 g7 n1 n1 (S6) UX 1 ks G7 _ N1.out hm1 (by omega) GX17.out (fun k hk => by have := HH7.out k hk; omega)).mono ?_
    rintro e w18 ⟨rfl, z18, m2, m3⟩
    clear e0_17 e1_17
    have X18 := Lib.hid (X17.out.trans (m2 w.heap.size X17.out.size (by omega)))
    have CP18 := Lib.hid (m3 _ _ _ (by omega) CP17.out)
    have CQ18 := Lib.hid (m3 _ _ _ (by omega) CQ17.out)
    have DX18 := Lib.hid (m3 _ _ _ (by omega) DX17.out)
    have DY18 := Lib.hid (m3 _ _ _ (by omega) DY17.out)
    have E018 := Lib.hid (m3 _ _ _ (by omega) E017.out)
    have E118 := Lib.hid (m3 _ _ _ (by omega) E117.out)
    have K018 := Lib.hid (K017.out.keep (lo2 := S6) (hi2 := UX) (by omega) m3)
    have K118 := Lib.hid (K117.out.keep (lo2 := S6) (hi2 := UX) (by omega) m3)
    have GY18 := Lib.hid (show GridT w18 g9 n2 ls G9 from ⟨m3 _ _ _ (by omega) GY17.out.top, fun k hk => ⟨(GY17.out.row k hk).1, m3 _ _ _ (by have := HH9.out k hk; omega) (GY17.out.row k hk).2⟩, GY17.out.up⟩)
    clear m2 m3 GX17 CP17 CQ17 K017 DX17 E017 GY17 E117 K117 DY17 X17
    have hk18 : 1 + lensAt ks n1 ≤ 1048577 := by have := HL1.out; omega
    generalize 1 + lensAt ks n1 = kk at hk18 ⊢
    have f0_18 : w18.cell? ⟨UY, 0, none⟩ = some (.int .i64 a2) := E118.out.cell (show 0 < 2 by omega)
    have f1_18 : w18.cell? ⟨UY, 1, none⟩ = some (.slice (some ⟨g9, 0, none⟩) n2 n2) := E118.out.cell (show 1 < 2 by omega)
    go_wp2_with fail
    refine (markGrid_any a2 g9 n2 n2 (UX + 1) UY kk ls G9 _ N2.out hm2 hk18 GY18.out (fun k hk => by have := HH9.out k hk; omega)).mono ?_
    rintro e w19 ⟨rfl, z19, m2, m3⟩
    clear f0_18 f1_18
    have X19 := Lib.hid (X18.out.trans (m2 w.heap.size X18.out.size (by omega)))
    have CP19 := Lib.hid (m3 _ _ _ (by omega) CP18.out)
    have CQ19 := Lib.hid (m3 _ _ _ (by omega) CQ18.out)
    have DX19 := Lib.hid (m3 _ _ _ (by omega) DX18.out)
    have DY19 := Lib.hid (m3 _ _ _ (by omega) DY18.out)
    have E019 := Lib.hid (m3 _ _ _ (by omega) E018.out)
    have E119 := Lib.hid (m3 _ _ _ (by omega) E118.out)
    have K019 := Lib.hid (K018.out.keep (lo2 := UX + 1) (hi2 := UY) (by omega) m3)
    have K119 := Lib.hid (K118.out.keep (lo2 := UX + 1) (hi2 := UY) (by omega) m3)
    clear m2 m3 GY18 CP18 CQ18 K018 DX18 E018 E118 K118 DY18 X18
    generalize kk + lensAt ls n2 = kk2
    clear E019 E119
    have x0_19 : w19.cell? ⟨U1, 0, none⟩ = some (.int .i64 zd) := DX19.out.cell (show 0 < 2 by omega)
    have x1_19 : w19.cell? ⟨U1, 1, none⟩ = some (.slice A0 zk.length c0) := DX19.out.cell (show 1 < 2 by omega)
    have y0_19 : w19.cell? ⟨U3, 0, none⟩ = some (.int .i64 zd) := DY19.out.cell (show 0 < 2 by omega)
    have y1_19 : w19.cell? ⟨U3, 1, none⟩ = some (.slice A9 zk.length c9) := DY19.out.cell (show 1 < 2 by omega)
    go_wp2_with fail
    refine (eqKD_any _ _ _ _ _ _ _ _ _ _ _ HM.out K119.out K019.out).mono ?_
    rintro e w20 ⟨rfl, hb20⟩
    have CP20 := Lib.hid (CP19.out.call hb20)
    have CQ20 := Lib.hid (CQ19.out.call hb20)
    have K020 := Lib.hid (K019.out.call hb20)
    have DX20 := Lib.hid (DX19.out.call hb20)
    have K120 := Lib.hid (K119.out.call hb20)
    have DY20 := Lib.hid (DY19.out.call hb20)
    have X20 := Lib.hid (bel_call X19.out hb20)
    clear hb20 CP19 CQ19 K019 DX19 K119 DY19 X19
    clear x0_19 x1_19 y0_19 y1_19
    have y0_20 : w20.cell? ⟨U3, 0, none⟩ = some (.int .i64 zd) := DY20.out.cell (show 0 < 2 by omega)
    have y1_20 : w20.cell? ⟨U3, 1, none⟩ = some (.slice A9 zk.length c9) := DY20.out.cell (show 1 < 2 by omega)
    go_wp2_with fail
    refine (markKD_any _ _ _ _ _ _ _ _ HM.out K120.out).mono ?_
    rintro e w21 ⟨rfl, m1, m2, m3⟩
    have KM21 := Lib.hid m1
    clear y0_20 y1_20
    have X21 := Lib.hid (X20.out.trans (m2 w.heap.size X20.out.size (by omega)))
    have CP21 := Lib.hid (m3 _ _ _ (by omega) CP20.out)
    have CQ21 := Lib.hid (m3 _ _ _ (by omega) CQ20.out)
    have DX21 := Lib.hid (m3 _ _ _ (by omega) DX20.out)
    have DY21 := Lib.hid (m3 _ _ _ (by omega) DY20.out)
    have K021 := Lib.hid (K020.out.keep (lo2 := UY + 1) (hi2 := U3) (by omega) m3)
    clear m1 m2 m3 K120 CP20 CQ20 K020 DX20 DY20 X20
    have y0_21 : w21.cell? ⟨U3, 0, none⟩ = some (.int .i64 zd) := DY21.out.cell (show 0 < 2 by omega)
    have y1_21 : w21.cell? ⟨U3, 1, none⟩ = some (.slice A9 zk.length c9) := DY21.out.cell (show 1 < 2 by omega)
    go_wp2_with fail
    refine (heldKD_any _ _ _ _ _ _ _ HM.out KM21.out).mono ?_
    rintro e w22 ⟨rfl, hb22⟩
    clear y0_21 y1_21
    have CP22 := Lib.hid (CP21.out.call hb22)
    have CQ22 := Lib.hid (CQ21.out.call hb22)
    have K022 := Lib.hid (K021.out.call hb22)
    have DX22 := Lib.hid (DX21.out.call hb22)
    have DY22 := Lib.hid (DY21.out.call hb22)
    have KM22 := Lib.hid (KM21.out.call hb22)
    have X22 := Lib.hid (bel_call X21.out hb22)
    clear hb22 CP21 CQ21 K021 DX21 DY21 KM21 X21
    go_wp2_with fail
    go_cut [15, 16] from 94 to 101 (fun s6 s7 wx => CutX w a1 a2 (.slice A1 n1 c1) (.slice A2 n2 c2) zd zk zo s6 s7 wx ∧ Below w22.heap.size w22 wx)
    case first =>
      have X22b := Lib.hid (bel_drew (X22.out.alloc X22.out.size (.cells #[.int .i64 0, .slice none 0 0] 27)))
      have CP22b := Lib.hid ((CP22.out.alloc (.cells #[.int .i64 0, .slice none 0 0] 27)).drew)
      have CQ22b := Lib.hid ((CQ22.out.alloc (.cells #[.int .i64 0, .slice none 0 0] 27)).drew)
      have CA22b := Lib.hid (show Cells (w22.alloc (.cells #[.int .i64 0, .slice none 0 0] 27)).drew w22.heap.size 2 (pF 0 (.slice none 0 0)) from (Cells.new (n := 2) rfl rfl).drew)
      have sz22 : w.heap.size + 1 < w22.heap.size := CQ22.out.lt
      have X22a := Lib.hid (bel_drew X22.out)
      have CP22a := Lib.hid CP22.out.drew
      have CQ22a := Lib.hid CQ22.out.drew
      have p0_22a : w22.drew.cell? ⟨w.heap.size, 0, none⟩ = some (.int .i64 a1) := CP22a.out.cell (show 0 < 2 by omega)
      have p1_22a : w22.drew.cell? ⟨w.heap.size, 1, none⟩ = some (.slice A1 n1 c1) := CP22a.out.cell (show 1 < 2 by omega)
      have q0_22a : w22.drew.cell? ⟨w.heap.size + 1, 0, none⟩ = some (.int .i64 a2) := CQ22a.out.cell (show 0 < 2 by omega)
      have q1_22a : w22.drew.cell? ⟨w.heap.size + 1, 1, none⟩ = some (.slice A2 n2 c2) := CQ22a.out.cell (show 1 < 2 by omega)
      have p0_22b : (w22.alloc (.cells #[.int .i64 0, .slice none 0 0] 27)).drew.cell? ⟨w.heap.size, 0, none⟩ = some (.int .i64 a1) := CP22b.out.cell (show 0 < 2 by omega)
      have p1_22b : (w22.alloc (.cells #[.int .i64 0, .slice none 0 0] 27)).drew.cell? ⟨w.heap.size, 1, none⟩ = some (.slice A1 n1 c1) := CP22b.out.cell (show 1 < 2 by omega)
      have q0_22b : (w22.alloc (.cells #[.int .i64 0, .slice none 0 0] 27)).drew.cell? ⟨w.heap.size + 1, 0, none⟩ = some (.int .i64 a2) := CQ22b.out.cell (show 0 < 2 by omega)
      have q1_22b : (w22.alloc (.cells #[.int .i64 0, .slice none 0 0] 27)).drew.cell? ⟨w.heap.size + 1, 1, none⟩ = some (.slice A2 n2 c2) := CQ22b.out.cell (show 1 < 2 by omega)
      have BZ22a := Lib.hid (bel_drew (Below.refl w22.heap.size w22))
      have BZ22b := Lib.hid (bel_drew ((Below.refl w22.heap.size w22).alloc (Nat.le_refl _) (.cells #[.int .i64 0, .slice none 0 0] 27)))
      go_region_with (first
        | (go_at_call 41
           refine (HQ2.out _ _ _ ((GP24.out).knobs N1.out hm1) ((GR24.out).knobs N2.out hm2)).mono ?_
           rintro e w25 ⟨A0', c0', rfl, k0, hb25⟩
           have CP25a := Lib.hid (CP24a.out.call hb25)
           have CQ25a := Lib.hid (CQ24a.out.call hb25)
           have X25a := Lib.hid (bel_call X24a.out hb25)
           have BZ25a := Lib.hid (bel_call BZ24a.out hb25)
           have K025a := Lib.hid k0
           clear k0)
        | (go_at_call 41
           refine (HQ2.out _ _ _ (((GP24.out.call ((Below.refl _ _).alloc (Nat.le_refl _) (.cells #[.int .i64 0, .slice none 0 0] 27)))).knobs N1.out hm1) (((GR24.out.call ((Below.refl _ _).alloc (Nat.le_refl _) (.cells #[.int .i64 0, .slice none 0 0] 27)))).knobs N2.out hm2)).mono ?_
           rintro e w25 ⟨A0', c0', rfl, k0, hb25⟩
           have CP25b := Lib.hid (CP24b.out.call hb25)
           have CQ25b := Lib.hid (CQ24b.out.call hb25)
           have X25b := Lib.hid (bel_call X24b.out hb25)
           have BZ25b := Lib.hid (bel_call BZ24b.out hb25)
           have K025b := Lib.hid k0
           clear k0
           have CA25b := Lib.hid (CA24b.out.call hb25)
           have v0 := CA25b.out.cell (show 0 < 2 by omega)
           have v1 := CA25b.out.cell (show 1 < 2 by omega)
           have u0 := CA25b.out.frozen (show 0 < 2 by omega)
           have u1 := CA25b.out.frozen (show 1 < 2 by omega))
        | (go_at_call 41
           refine (HQ2.out _ _ _ ((GP24.out).knobs N1.out hm1) ((GR24.out).knobs N2.out hm2)).mono ?_
           rintro e w25 ⟨A0', c0', rfl, k0, hb25⟩
           have CP25c := Lib.hid (CP24c.out.call hb25)
           have CQ25c := Lib.hid (CQ24c.out.call hb25)
           have X25c := Lib.hid (bel_call X24c.out hb25)
           have BZ25c := Lib.hid (bel_call BZ24c.out hb25)
           have K025c := Lib.hid k0
           clear k0
           have CA25c := Lib.hid (CA24c.out.call hb25)
           have v0 := CA25c.out.cell (show 0 < 2 by omega)
           have v1 := CA25c.out.cell (show 1 < 2 by omega)
           have u0 := CA25c.out.frozen (show 0 < 2 by omega)
           have u1 := CA25c.out.frozen (show 1 < 2 by omega))
        | (go_at_call 22
           refine (toPins_any _ _ _ _ ls _ hm2 (H2.out.below X23a.out)).mono ?_
           rintro e w24 ⟨g24, rfl, _, ⟨G24, hG24⟩, hb24⟩
           have GR24 := Lib.hid hG24
           clear hG24
           have GP24 := Lib.hid (GR23.out.call hb24)
           have CP24a := Lib.hid (CP23a.out.call hb24)
           have CQ24a := Lib.hid (CQ23a.out.call hb24)
           have X24a := Lib.hid (bel_call X23a.out hb24)
           have BZ24a := Lib.hid (bel_call BZ23a.out hb24)
           have X24b := Lib.hid (X24a.out.alloc X24a.out.size (.cells #[.int .i64 0, .slice none 0 0] 27))
           have CP24b := Lib.hid ((CP24a.out.alloc (.cells #[.int .i64 0, .slice none 0 0] 27)))
           have CQ24b := Lib.hid ((CQ24a.out.alloc (.cells #[.int .i64 0, .slice none 0 0] 27)))
           have CA24b := Lib.hid (show Cells (w24.alloc (.cells #[.int .i64 0, .slice none 0 0] 27)) w24.heap.size 2 (pF 0 (.slice none 0 0)) from Cells.new (n := 2) rfl rfl)
           have BZ24b := Lib.hid (BZ24a.out.alloc BZ24a.out.size (.cells #[.int .i64 0, .slice none 0 0] 27))
           clear hb24
           have sz24 : w.heap.size + 1 < w24.heap.size := CQ24a.out.lt
           have sy24 : w22.heap.size ≤ w24.heap.size := BZ24a.out.size
           have p0_24a : w24.cell? ⟨w.heap.size, 0, none⟩ = some (.int .i64 a1) := CP24a.out.cell (show 0 < 2 by omega)
           have p1_24a : w24.cell? ⟨w.heap.size, 1, none⟩ = some (.slice A1 n1 c1) := CP24a.out.cell (show 1 < 2 by omega)
           have q0_24a : w24.cell? ⟨w.heap.size + 1, 0, none⟩ = some (.int .i64 a2) := CQ24a.out.cell (show 0 < 2 by omega)
           have q1_24a : w24.cell? ⟨w.heap.size + 1, 1, none⟩ = some (.slice A2 n2 c2) := CQ24a.out.cell (show 1 < 2 by omega)
           have p0_24b : (w24.alloc (.cells #[.int .i64 0, .slice none 0 0] 27)).cell? ⟨w.heap.size, 0, none⟩ = some (.int .i64 a1) := CP24b.out.cell (show 0 < 2 by omega)
           have p1_24b : (w24.alloc (.cells #[.int .i64 0, .slice none 0 0] 27)).cell? ⟨w.heap.size, 1, none⟩ = some (.slice A1 n1 c1) := CP24b.out.cell (show 1 < 2 by omega)
           have q0_24b : (w24.alloc (.cells #[.int .i64 0, .slice none 0 0] 27)).cell? ⟨w.heap.size + 1, 0, none⟩ = some (.int .i64 a2) := CQ24b.out.cell (show 0 < 2 by omega)
           have q1_24b : (w24.alloc (.cells #[.int .i64 0, .slice none 0 0] 27)).cell? ⟨w.heap.size + 1, 1, none⟩ = some (.slice A2 n2 c2) := CQ24b.out.cell (show 1 < 2 by omega))
        | (go_at_call 22
           refine (toPins_any _ _ _ _ ls _ hm2 (H2.out.below X23b.out)).mono ?_
           rintro e w24 ⟨g24, rfl, _, ⟨G24, hG24⟩, hb24⟩
           have GR24 := Lib.hid hG24
           clear hG24
           have GP24 := Lib.hid ((GR23.out.call ((Below.refl _ _).alloc (Nat.le_refl _) (.cells #[.int .i64 0, .slice none 0 0] 27))).call hb24)
           have CP24c := Lib.hid (CP23b.out.call hb24)
           have CQ24c := Lib.hid (CQ23b.out.call hb24)
           have X24c := Lib.hid (bel_call X23b.out hb24)
           have BZ24c := Lib.hid (bel_call BZ23b.out hb24)
           have CA24c := Lib.hid (CA23b.out.call hb24)
           clear hb24
           have sz24 : w.heap.size + 1 < w24.heap.size := CQ24c.out.lt
           have sy24 : w22.heap.size ≤ w24.heap.size := BZ24c.out.size
           have p0_24c : w24.cell? ⟨w.heap.size, 0, none⟩ = some (.int .i64 a1) := CP24c.out.cell (show 0 < 2 by omega)
           have p1_24c : w24.cell? ⟨w.heap.size, 1, none⟩ = some (.slice A1 n1 c1) := CP24c.out.cell (show 1 < 2 by omega)
           have q0_24c : w24.cell? ⟨w.heap.size + 1, 0, none⟩ = some (.int .i64 a2) := CQ24c.out.cell (show 0 < 2 by omega)
           have q1_24c : w24.cell? ⟨w.heap.size + 1, 1, none⟩ = some (.slice A2 n2 c2) := CQ24c.out.cell (show 1 < 2 by omega))
        | (go_at_call 22
           refine (toPins_any _ _ _ _ ls _ hm2 (H2.out.below X23c.out)).mono ?_
           rintro e w24 ⟨g24, rfl, _, ⟨G24, hG24⟩, hb24⟩
           have GR24 := Lib.hid hG24
           clear hG24
           have GP24 := Lib.hid (GR23.out.call hb24)
           have CP24c := Lib.hid (CP23c.out.call hb24)
           have CQ24c := Lib.hid (CQ23c.out.call hb24)
           have X24c := Lib.hid (bel_call X23c.out hb24)
           have BZ24c := Lib.hid (bel_call BZ23c.out hb24)
           have CA24c := Lib.hid (CA23c.out.call hb24)
           clear hb24
           have sz24 : w.heap.size + 1 < w24.heap.size := CQ24c.out.lt
           have sy24 : w22.heap.size ≤ w24.heap.size := BZ24c.out.size
           have p0_24c : w24.cell? ⟨w.heap.size, 0, none⟩ = some (.int .i64 a1) := CP24c.out.cell (show 0 < 2 by omega)
           have p1_24c : w24.cell? ⟨w.heap.size, 1, none⟩ = some (.slice A1 n1 c1) := CP24c.out.cell (show 1 < 2 by omega)
           have q0_24c : w24.cell? ⟨w.heap.size + 1, 0, none⟩ = some (.int .i64 a2) := CQ24c.out.cell (show 0 < 2 by omega)
           have q1_24c : w24.cell? ⟨w.heap.size + 1, 1, none⟩ = some (.slice A2 n2 c2) := CQ24c.out.cell (show 1 < 2 by omega))
        | (go_at_call 22
           refine (toPins_any _ _ _ _ ks _ hm1 (H1.out.below X22a.out)).mono ?_
           rintro e w23 ⟨g23, rfl, _, ⟨G23, hG23⟩, hb23⟩
           have GR23 := Lib.hid hG23
           clear hG23
           have CP23a := Lib.hid (CP22a.out.call hb23)
           have CQ23a := Lib.hid (CQ22a.out.call hb23)
           have X23a := Lib.hid (bel_call X22a.out hb23)
           have BZ23a := Lib.hid (bel_call BZ22a.out hb23)
           have X23b := Lib.hid (X23a.out.alloc X23a.out.size (.cells #[.int .i64 0, .slice none 0 0] 27))
           have CP23b := Lib.hid ((CP23a.out.alloc (.cells #[.int .i64 0, .slice none 0 0] 27)))
           have CQ23b := Lib.hid ((CQ23a.out.alloc (.cells #[.int .i64 0, .slice none 0 0] 27)))
           have CA23b := Lib.hid (show Cells (w23.alloc (.cells #[.int .i64 0, .slice none 0 0] 27)) w23.heap.size 2 (pF 0 (.slice none 0 0)) from Cells.new (n := 2) rfl rfl)
           have BZ23b := Lib.hid (BZ23a.out.alloc BZ23a.out.size (.cells #[.int .i64 0, .slice none 0 0] 27))
           clear hb23
           have sz23 : w.heap.size + 1 < w23.heap.size := CQ23a.out.lt
           have sy23 : w22.heap.size ≤ w23.heap.size := BZ23a.out.size
           have p0_23a : w23.cell? ⟨w.heap.size, 0, none⟩ = some (.int .i64 a1) := CP23a.out.cell (show 0 < 2 by omega)
           have p1_23a : w23.cell? ⟨w.heap.size, 1, none⟩ = some (.slice A1 n1 c1) := CP23a.out.cell (show 1 < 2 by omega)
           have q0_23a : w23.cell? ⟨w.heap.size + 1, 0, none⟩ = some (.int .i64 a2) := CQ23a.out.cell (show 0 < 2 by omega)
           have q1_23a : w23.cell? ⟨w.heap.size + 1, 1, none⟩ = some (.slice A2 n2 c2) := CQ23a.out.cell (show 1 < 2 by omega)
           have p0_23b : (w23.alloc (.cells #[.int .i64 0, .slice none 0 0] 27)).cell? ⟨w.heap.size, 0, none⟩ = some (.int .i64 a1) := CP23b.out.cell (show 0 < 2 by omega)
           have p1_23b : (w23.alloc (.cells #[.int .i64 0, .slice none 0 0] 27)).cell? ⟨w.heap.size, 1, none⟩ = some (.slice A1 n1 c1) := CP23b.out.cell (show 1 < 2 by omega)
           have q0_23b : (w23.alloc (.cells #[.int .i64 0, .slice none 0 0] 27)).cell? ⟨w.heap.size + 1, 0, none⟩ = some (.int .i64 a2) := CQ23b.out.cell (show 0 < 2 by omega)
           have q1_23b : (w23.alloc (.cells #[.int .i64 0, .slice none 0 0] 27)).cell? ⟨w.heap.size + 1, 1, none⟩ = some (.slice A2 n2 c2) := CQ23b.out.cell (show 1 < 2 by omega))
        | (go_at_call 22
           refine (toPins_any _ _ _ _ ks _ hm1 (H1.out.below X22b.out)).mono ?_
           rintro e w23 ⟨g23, rfl, _, ⟨G23, hG23⟩, hb23⟩
           have GR23 := Lib.hid hG23
           clear hG23
           have CP23c := Lib.hid (CP22b.out.call hb23)
           have CQ23c := Lib.hid (CQ22b.out.call hb23)
           have X23c := Lib.hid (bel_call X22b.out hb23)
           have BZ23c := Lib.hid (bel_call BZ22b.out hb23)
           have CA23c := Lib.hid (CA22b.out.call hb23)
           clear hb23
           have sz23 : w.heap.size + 1 < w23.heap.size := CQ23c.out.lt
           have sy23 : w22.heap.size ≤ w23.heap.size := BZ23c.out.size
           have p0_23c : w23.cell? ⟨w.heap.size, 0, none⟩ = some (.int .i64 a1) := CP23c.out.cell (show 0 < 2 by omega)
           have p1_23c : w23.cell? ⟨w.heap.size, 1, none⟩ = some (.slice A1 n1 c1) := CP23c.out.cell (show 1 < 2 by omega)
           have q0_23c : w23.cell? ⟨w.heap.size + 1, 0, none⟩ = some (.int .i64 a2) := CQ23c.out.cell (show 0 < 2 by omega)
           have q1_23c : w23.cell? ⟨w.heap.size + 1, 1, none⟩ = some (.slice A2 n2 c2) := CQ23c.out.cell (show 1 < 2 by omega)))
      all_goals (go_wp2_with fail; go_meet)
      all_goals first
        | exact ⟨cutX_new K025a.out CP25a.out CQ25a.out X25a.out, BZ25a.out.alloc BZ25a.out.size _⟩
        | exact ⟨cutX_set K025b.out CP25b.out CQ25b.out X25b.out CA25b.out (by have := CQ24a.out.lt; omega) (by rw [World.size_alloc]; omega), ((BZ25b.out.setCell (p := ⟨_, 0, none⟩) BZ24a.out.size _).setCell (p := ⟨_, 1, none⟩) BZ24a.out.size _)⟩
        | exact ⟨cutX_set K025c.out CP25c.out CQ25c.out X25c.out CA25c.out (by omega) (by have := CA24c.out.lt; omega), ((BZ25c.out.setCell (p := ⟨_, 0, none⟩) (by first | exact sy23 | exact Nat.le_refl _) _).setCell (p := ⟨_, 1, none⟩) (by first | exact sy23 | exact Nat.le_refl _) _)⟩
    obtain ⟨W26, hWc⟩ : ∃ W, W = wc := ⟨_, rfl⟩
    subst hWc
    obtain ⟨⟨U4, lo4, hi4, c4, A4, rfl, rfl, hx1, hx2, _, _, _, _⟩, hb26⟩ := hcut
    have DZ26 := Lib.hid hx1
    have K426 := Lib.hid hx2
    clear hx1 hx2
    have CP26 := Lib.hid (CP22.out.call hb26)
    have CQ26 := Lib.hid (CQ22.out.call hb26)
    have K026 := Lib.hid (K022.out.call hb26)
    have DX26 := Lib.hid (DX22.out.call hb26)
    have DY26 := Lib.hid (DY22.out.call hb26)
    have KM26 := Lib.hid (KM22.out.call hb26)
    have X26 := Lib.hid (bel_call X22.out hb26)
    clear hb26 CP22 CQ22 K022 DX22 DY22 KM22 X22
    have x0_26 : W26.cell? ⟨U1, 0, none⟩ = some (.int .i64 zd) := DX26.out.cell (show 0 < 2 by omega)
    have x1_26 : W26.cell? ⟨U1, 1, none⟩ = some (.slice A0 zk.length c0) := DX26.out.cell (show 1 < 2 by omega)
    have h0_26 : W26.cell? ⟨U4, 0, none⟩ = some (.int .i64 zd) := DZ26.out.cell (show 0 < 2 by omega)
    have h1_26 : W26.cell? ⟨U4, 1, none⟩ = some (.slice A4 zk.length c4) := DZ26.out.cell (show 1 < 2 by omega)
    go_wp2_with fail
    refine (eqKD_any _ _ _ _ _ _ _ _ _ _ _ HM.out K426.out K026.out).mono ?_
    rintro e w27 ⟨rfl, hb27⟩
    clear x0_26 x1_26 h0_26 h1_26 K426 DZ26
    have CP27 := Lib.hid (CP26.out.call hb27)
    have CQ27 := Lib.hid (CQ26.out.call hb27)
    have K027 := Lib.hid (K026.out.call hb27)
    have DX27 := Lib.hid (DX26.out.call hb27)
    have DY27 := Lib.hid (DY26.out.call hb27)
    have KM27 := Lib.hid (KM26.out.call hb27)
    have X27 := Lib.hid (bel_call X26.out hb27)
    clear hb27 CP26 CQ26 K026 DX26 DY26 KM26 X26
    have y0_27 : w27.cell? ⟨U3, 0, none⟩ = some (.int .i64 zd) := DY27.out.cell (show 0 < 2 by omega)
    have y1_27 : w27.cell? ⟨U3, 1, none⟩ = some (.slice A9 zk.length c9) := DY27.out.cell (show 1 < 2 by omega)
    go_wp2_with fail
    refine (heldKD_any _ _ _ _ _ _ _ HM.out KM27.out).mono ?_
    rintro e w28 ⟨rfl, hb28⟩
    clear y0_27 y1_27
    have CP28 := Lib.hid (CP27.out.call hb28)
    have CQ28 := Lib.hid (CQ27.out.call hb28)
    have K028 := Lib.hid (K027.out.call hb28)
    have DX28 := Lib.hid (DX27.out.call hb28)
    have DY28 := Lib.hid (DY27.out.call hb28)
    have KM28 := Lib.hid (KM27.out.call hb28)
    have X28 := Lib.hid (bel_call X27.out hb28)
    clear hb28 CP27 CQ27 K027 DX27 DY27 KM27 X27
    go_wp2_with fail
    go_ret
    exact ⟨rfl, X28.out⟩

set_option maxRecDepth 100000 in
theorem lifted (os : Os) (started : os.Started) (H : Type) (enc : TypeId × Value → H) :
    ReturnsInHanded {} Try.checked os 9 .any (Rows.fnExactMasterPinsSpec.pre6 enc Try.prog Try.f9 Rows.fnExactMasterPinsRow.domain false) (Rows.fnExactMasterPinsSpec.post enc Try.prog Try.f9 false true false false) := by
  refine returnsInHanded_of_change (C := Try.checked) Try.own started (by kernel_rfl) Try.func9
    (ChangeSpec.witness6 (enc := enc) (C := Try.checked) false ⟨#[], #[.agg #[.int .i64 0, .slice none 0 0], .agg #[.int .i64 0, .slice none 0 0]], []⟩ 8 (by kernel_rfl) (by kernel_rfl) (by kernel_rfl) (by kernel_rfl)) ?_
  intro W base args ds gs before hval0 hW _ _
  have hval : ∀ (j : Nat) t v, Try.f9.params[j]? = some t → args[j]? = some v → Value.okWide Try.prog W .any base t v := hval0
  have hW' := hW
  obtain ⟨p, q, hA0, hV, rfl, _, _⟩ := hW
  have hA : DataW.TrodAll enc Try.prog W 0 (fun _ => true) true Try.f9.params.toList args.toList ds p := hA0
  rw [Try.params9] at hA hval
  obtain ⟨v0, vs0, d0, ds0, p0, q0, hargs, rfl, rfl, h0, r0⟩ := trodAll_cons hA
  obtain ⟨v1, vs1, d1, ds1, p1, q1, rfl, rfl, rfl, h1, r1⟩ := trodAll_cons r0
  obtain ⟨rfl, rfl, rfl⟩ := trodAll_nil r1
  obtain rfl : args = #[v0, v1] := by cases args; simp_all
  obtain ⟨rfl, rfl⟩ := trodVars_none hV
  have t0 := h0
  have lt0 : ∀ x ∈ p0, x.block < W.heap.size := by obtain ⟨m, hm⟩ := t0; exact DataW.trod_lt m _ _ _ hm
  have t0' := h0
  have t1 := h1
  have lt1 : ∀ x ∈ p1, x.block < W.heap.size := by obtain ⟨m, hm⟩ := t1; exact DataW.trod_lt m _ _ _ hm
  have t1' := h1
  obtain ⟨x0, x0A, x0n, x0c, x0k, rfl, k0, l0, m0⟩ := open_pins (hval 0 24 v0 rfl rfl) t0'
  obtain ⟨x1, x1A, x1n, x1c, x1k, rfl, k1, l1, m1⟩ := open_pins (hval 1 24 v1 rfl rfl) t1'
  clear hA0 hval0
  refine (lawMasterPins_true x0 x0A x0n x0c x0k k0 l0 m0 x1 x1A x1n x1c x1k k1 l1 m1 W).mono fun e W' ⟨he, bel⟩ => ?_
  subst he
  exact ⟨_, rfl, _, _, _, [], _, [], hW', trodAll_mk1 (shut_bool Try.underlying4 _), (trodAll_cons_mk (Below.trod Try.laidOut (by kernel_rfl) (of_decide_eq_true (by kernel_rfl)) h0 bel lt0) (trodAll_cons_mk (Below.trod Try.laidOut (by kernel_rfl) (of_decide_eq_true (by kernel_rfl)) h1 bel lt1) trodAll_mk0)), rfl, bel.frame _, fun h => by cases h⟩

set_option maxRecDepth 100000 in
theorem jf : joinedFacts Try.pinned.checked.prog 9 Try.f9 Rows.fnExactMasterPinsSpec Rows.fnExactMasterPinsRow = true := by
  unfold joinedFacts
  rw [whole_all.1, whole_all.2.1, whole_all.2.2]
  kernel_rfl

theorem over : Rows.fnExactMasterPinsRow.holds Try.pinned (OpenSpec.ofChange Rows.fnExactMasterPinsSpec) :=
  OpenClaim.holds_of_wide_leaving 9 Try.f9 rfl rfl rfl rfl rfl rfl rfl ⟨rfl, rfl, rfl, rfl, rfl⟩ rfl rfl rfl rfl rfl (by kernel_rfl) Try.func9 jf
    (of_decide_eq_true (by kernel_rfl)) (by unfold Func.isWrapper; rw [if_neg (of_decide_eq_false (by kernel_rfl))]; exact ⟨rfl, rfl⟩)
    (fun os started H enc _ => leave_of_handed (lifted os started H enc))

theorem proved : Rows.FnExactMasterPinsSaid := over
end Go.Proofs.Ytgcadcekkojidaa.fnExactMasterPins
