/- The pin of one depth, as the program makes it; a depth taken out, as both programs do it. For at most 9 depths and 7 places. -/
import Derived.Test.YtbfildegnbbinaaZb
namespace Go.Proofs.Ytbfildegnbbinaa
set_option maxRecDepth 100000
open Go.ChangeShapes Go.WideShapes Go.ChangeAt Go.RowKit Go.Joins

theorem rows_nine {d : Int} {ks : List (List Int)} (h : pinsB d ks = true) : Nine ks := fun i => by
  obtain ⟨h1, h2, _, _, h5⟩ := pinsB_yes h
  by_cases hi : i < ks.length
  · have := rise_len (h5 i hi).2 (by omega); omega
  · simp [List.getD, List.getElem?_eq_none (Nat.not_lt.1 hi)]

theorem row_knobs {w : World} {B n c : Nat} {A : Option Addr} {ks : List (List Int)} (h : RowP w B (.slice A n c) ks) (h9 : Nine ks) : KnobsA w A n ks := h.knobs (fun i _ => by have := h9 i; unfold maxLen; omega)

set_option maxHeartbeats 4000000 in
theorem pin_any (d : Int) (A : Option Addr) (n c : Nat) (ks : List (List Int)) (p q : Int) (w : World) (hm : n + lensAt ks n ≤ 1048576) (hA : KnobsA w A n ks) :
    Calls Try.prog 37 #[.agg #[.int .i64 d, .slice A n c], .int .i64 p, .int .i64 q] w (PinsOut w (pnD d ks p q) (pnK d ks p q) (pnB d ks p q)) := by
  obtain ⟨W0, hW0⟩ : ∃ W0, (w.alloc (.cells #[.int .i64 d, .slice A n c] 34)).alloc (.cells #[.int .i64 0, .slice none 0 0] 34) = W0 := ⟨_, rfl⟩
  have CP := Lib.hid (show Cells W0 w.heap.size 2 (pF d (.slice A n c)) from hW0 ▸ (Cells.new (W := w) (n := 2) rfl rfl).alloc _)
  have CQ := Lib.hid (show Cells W0 (w.heap.size + 1) 2 (pF 0 (.slice none 0 0)) from hW0 ▸ Cells.new (n := 2) (by simp) rfl)
  have HB0 := Lib.hid (show Below w.heap.size w W0 from hW0 ▸ (by (repeat (first | assumption | exact Below.refl _ _ | (refine Below.alloc ?_ (by first | omega | (simp; done) | (simp; omega)) _) | (refine Below.setCell ?_ (by first | omega | (simp; done) | (simp; omega)) _) | refine bel_drewN ?_ _ | refine bel_drew ?_ | (refine bel_call ?_ (by assumption))))))
  have z0 : w.heap.size + 2 ≤ W0.heap.size := by rw [← hW0]; simp
  have l0 : W0.cell? ⟨w.heap.size, 0, none⟩ = some (.int .i64 d) := CP.out.cell (show 0 < 2 by omega)
  have l1 : W0.cell? ⟨w.heap.size, 1, none⟩ = some (.slice A n c) := CP.out.cell (show 1 < 2 by omega)
  have HA := Lib.hid (hA.below HB0.out)
  have HL := Lib.hid hA.len
  clear hA
  obtain ⟨x, hx⟩ : ∃ x, pinsB d ks = x := ⟨_, rfl⟩
  have HX := Lib.hid hx
  clear hx
  rcases x with _ | _
  · have HD : Hid (pnB d ks p q = false) := Lib.hid (pn_no (.inl HX.out))
    go_enter Try.func37, Try.ntmps37
    go_wp2_with (first
      | (go_at_call 44; refine (arePins_any _ _ _ _ ks _ hm HA.out).mono ?_; rw [HX.out]; rintro e w1 ⟨rfl, hb1⟩
         have CP1 := Lib.hid (CP.out.call hb1)
         have CQ1 := Lib.hid (CQ.out.call hb1)
         have HB1 := Lib.hid (bel_call HB0.out hb1)
         have z1 : w.heap.size + 2 ≤ w1.heap.size := Nat.le_trans z0 hb1.size
         have HA1 := Lib.hid (HA.out.below hb1)
         have p0 : w1.cell? ⟨w.heap.size, 0, none⟩ = some (.int .i64 d) := CP1.out.cell (show 0 < 2 by omega)
         have p1 : w1.cell? ⟨w.heap.size, 1, none⟩ = some (.slice A n c) := CP1.out.cell (show 1 < 2 by omega)
         have s0 : w1.cell? ⟨w.heap.size + 1, 0, none⟩ = some (.int .i64 0) := CQ1.out.cell (show 0 < 2 by omega)
         have s1 : w1.cell? ⟨w.heap.size + 1, 1, none⟩ = some (.slice none 0 0) := CQ1.out.cell (show 1 < 2 by omega)
         have f0 := CQ1.out.frozen (show 0 < 2 by omega)
         have f1 := CQ1.out.frozen (show 1 < 2 by omega)
         clear hb1))
    refine bodyPost_ret (v := .tuple #[.agg #[.int .i64 0, .slice none 0 0], .bool false]) (by simp [results, Try.results37, go_sem, s0, s1]) rfl ?_
    unfold pnD pnK
    rw [HD.out]
    exact pinsOut_no rfl ((HB1.out.setCell (p := ⟨w.heap.size + 1, 0, none⟩) (by show w.heap.size ≤ w.heap.size + 1; omega) _).setCell (p := ⟨w.heap.size + 1, 1, none⟩) (by show w.heap.size ≤ w.heap.size + 1; omega) _)
  by_cases hp0 : p < 0
  · have HD : Hid (pnB d ks p q = false) := Lib.hid (pn_no (.inr (.inl (decide_eq_false (by omega)))))
    go_enter Try.func37, Try.ntmps37
    go_wp2_with (first
      | (go_at_call 44; refine (arePins_any _ _ _ _ ks _ hm HA.out).mono ?_; rw [HX.out]; rintro e w1 ⟨rfl, hb1⟩
         have CP1 := Lib.hid (CP.out.call hb1)
         have CQ1 := Lib.hid (CQ.out.call hb1)
         have HB1 := Lib.hid (bel_call HB0.out hb1)
         have z1 : w.heap.size + 2 ≤ w1.heap.size := Nat.le_trans z0 hb1.size
         have HA1 := Lib.hid (HA.out.below hb1)
         have p0 : w1.cell? ⟨w.heap.size, 0, none⟩ = some (.int .i64 d) := CP1.out.cell (show 0 < 2 by omega)
         have p1 : w1.cell? ⟨w.heap.size, 1, none⟩ = some (.slice A n c) := CP1.out.cell (show 1 < 2 by omega)
         have s0 : w1.cell? ⟨w.heap.size + 1, 0, none⟩ = some (.int .i64 0) := CQ1.out.cell (show 0 < 2 by omega)
         have s1 : w1.cell? ⟨w.heap.size + 1, 1, none⟩ = some (.slice none 0 0) := CQ1.out.cell (show 1 < 2 by omega)
         have f0 := CQ1.out.frozen (show 0 < 2 by omega)
         have f1 := CQ1.out.frozen (show 1 < 2 by omega)
         clear hb1))
    refine bodyPost_ret (v := .tuple #[.agg #[.int .i64 0, .slice none 0 0], .bool false]) (by simp [results, Try.results37, go_sem, s0, s1]) rfl ?_
    unfold pnD pnK
    rw [HD.out]
    exact pinsOut_no rfl ((HB1.out.setCell (p := ⟨w.heap.size + 1, 0, none⟩) (by show w.heap.size ≤ w.heap.size + 1; omega) _).setCell (p := ⟨w.heap.size + 1, 1, none⟩) (by show w.heap.size ≤ w.heap.size + 1; omega) _)
  by_cases hpn : (n : Int) ≤ p
  · have HD : Hid (pnB d ks p q = false) := Lib.hid (pn_no (.inr (.inl (decide_eq_false (by rw [HL.out]; omega)))))
    go_enter Try.func37, Try.ntmps37
    go_wp2_with (first
      | (go_at_call 44; refine (arePins_any _ _ _ _ ks _ hm HA.out).mono ?_; rw [HX.out]; rintro e w1 ⟨rfl, hb1⟩
         have CP1 := Lib.hid (CP.out.call hb1)
         have CQ1 := Lib.hid (CQ.out.call hb1)
         have HB1 := Lib.hid (bel_call HB0.out hb1)
         have z1 : w.heap.size + 2 ≤ w1.heap.size := Nat.le_trans z0 hb1.size
         have HA1 := Lib.hid (HA.out.below hb1)
         have p0 : w1.cell? ⟨w.heap.size, 0, none⟩ = some (.int .i64 d) := CP1.out.cell (show 0 < 2 by omega)
         have p1 : w1.cell? ⟨w.heap.size, 1, none⟩ = some (.slice A n c) := CP1.out.cell (show 1 < 2 by omega)
         have s0 : w1.cell? ⟨w.heap.size + 1, 0, none⟩ = some (.int .i64 0) := CQ1.out.cell (show 0 < 2 by omega)
         have s1 : w1.cell? ⟨w.heap.size + 1, 1, none⟩ = some (.slice none 0 0) := CQ1.out.cell (show 1 < 2 by omega)
         have f0 := CQ1.out.frozen (show 0 < 2 by omega)
         have f1 := CQ1.out.frozen (show 1 < 2 by omega)
         clear hb1))
    refine bodyPost_ret (v := .tuple #[.agg #[.int .i64 0, .slice none 0 0], .bool false]) (by simp [results, Try.results37, go_sem, s0, s1]) rfl ?_
    unfold pnD pnK
    rw [HD.out]
    exact pinsOut_no rfl ((HB1.out.setCell (p := ⟨w.heap.size + 1, 0, none⟩) (by show w.heap.size ≤ w.heap.size + 1; omega) _).setCell (p := ⟨w.heap.size + 1, 1, none⟩) (by show w.heap.size ≤ w.heap.size + 1; omega) _)
  by_cases hq0 : q < 0
  · have HD : Hid (pnB d ks p q = false) := Lib.hid (pn_no (.inr (.inr (decide_eq_false (by omega)))))
    go_enter Try.func37, Try.ntmps37
    go_wp2_with (first
      | (go_at_call 44; refine (arePins_any _ _ _ _ ks _ hm HA.out).mono ?_; rw [HX.out]; rintro e w1 ⟨rfl, hb1⟩
         have CP1 := Lib.hid (CP.out.call hb1)
         have CQ1 := Lib.hid (CQ.out.call hb1)
         have HB1 := Lib.hid (bel_call HB0.out hb1)
         have z1 : w.heap.size + 2 ≤ w1.heap.size := Nat.le_trans z0 hb1.size
         have HA1 := Lib.hid (HA.out.below hb1)
         have p0 : w1.cell? ⟨w.heap.size, 0, none⟩ = some (.int .i64 d) := CP1.out.cell (show 0 < 2 by omega)
         have p1 : w1.cell? ⟨w.heap.size, 1, none⟩ = some (.slice A n c) := CP1.out.cell (show 1 < 2 by omega)
         have s0 : w1.cell? ⟨w.heap.size + 1, 0, none⟩ = some (.int .i64 0) := CQ1.out.cell (show 0 < 2 by omega)
         have s1 : w1.cell? ⟨w.heap.size + 1, 1, none⟩ = some (.slice none 0 0) := CQ1.out.cell (show 1 < 2 by omega)
         have f0 := CQ1.out.frozen (show 0 < 2 by omega)
         have f1 := CQ1.out.frozen (show 1 < 2 by omega)
         clear hb1))
    refine bodyPost_ret (v := .tuple #[.agg #[.int .i64 0, .slice none 0 0], .bool false]) (by simp [results, Try.results37, go_sem, s0, s1]) rfl ?_
    unfold pnD pnK
    rw [HD.out]
    exact pinsOut_no rfl ((HB1.out.setCell (p := ⟨w.heap.size + 1, 0, none⟩) (by show w.heap.size ≤ w.heap.size + 1; omega) _).setCell (p := ⟨w.heap.size + 1, 1, none⟩) (by show w.heap.size ≤ w.heap.size + 1; omega) _)
  by_cases hqd : d ≤ q
  · have HD : Hid (pnB d ks p q = false) := Lib.hid (pn_no (.inr (.inr (decide_eq_false (by omega)))))
    go_enter Try.func37, Try.ntmps37
    go_wp2_with (first
      | (go_at_call 44; refine (arePins_any _ _ _ _ ks _ hm HA.out).mono ?_; rw [HX.out]; rintro e w1 ⟨rfl, hb1⟩
         have CP1 := Lib.hid (CP.out.call hb1)
         have CQ1 := Lib.hid (CQ.out.call hb1)
         have HB1 := Lib.hid (bel_call HB0.out hb1)
         have z1 : w.heap.size + 2 ≤ w1.heap.size := Nat.le_trans z0 hb1.size
         have HA1 := Lib.hid (HA.out.below hb1)
         have p0 : w1.cell? ⟨w.heap.size, 0, none⟩ = some (.int .i64 d) := CP1.out.cell (show 0 < 2 by omega)
         have p1 : w1.cell? ⟨w.heap.size, 1, none⟩ = some (.slice A n c) := CP1.out.cell (show 1 < 2 by omega)
         have s0 : w1.cell? ⟨w.heap.size + 1, 0, none⟩ = some (.int .i64 0) := CQ1.out.cell (show 0 < 2 by omega)
         have s1 : w1.cell? ⟨w.heap.size + 1, 1, none⟩ = some (.slice none 0 0) := CQ1.out.cell (show 1 < 2 by omega)
         have f0 := CQ1.out.frozen (show 0 < 2 by omega)
         have f1 := CQ1.out.frozen (show 1 < 2 by omega)
         clear hb1))
    refine bodyPost_ret (v := .tuple #[.agg #[.int .i64 0, .slice none 0 0], .bool false]) (by simp [results, Try.results37, go_sem, s0, s1]) rfl ?_
    unfold pnD pnK
    rw [HD.out]
    exact pinsOut_no rfl ((HB1.out.setCell (p := ⟨w.heap.size + 1, 0, none⟩) (by show w.heap.size ≤ w.heap.size + 1; omega) _).setCell (p := ⟨w.heap.size + 1, 1, none⟩) (by show w.heap.size ≤ w.heap.size + 1; omega) _)
  have HD : Hid (pnB d ks p q = true) := Lib.hid (by unfold pnB; rw [HX.out, show inB p 0 ((ks.length : Int) - 1) = true from decide_eq_true ⟨by omega, by rw [HL.out]; omega⟩, show inB q 0 (d - 1) = true from decide_eq_true ⟨by omega, by omega⟩]; rfl)
  obtain ⟨h1, h2, h3, h4, h5⟩ := pinsB_yes HX.out
  rw [HL.out] at h3 h4
  clear h5
  obtain ⟨dn, rfl⟩ : ∃ dn : Nat, d = dn := ⟨d.toNat, by omega⟩
  obtain ⟨pn, rfl⟩ : ∃ pn : Nat, p = pn := ⟨p.toNat, by omega⟩
  obtain ⟨qn, rfl⟩ : ∃ qn : Nat, q = qn := ⟨q.toNat, by omega⟩
  have HK : Hid (pnK (dn : Int) ks (pn : Int) (qn : Int) = onL pn qn n) := Lib.hid (by unfold pnK; rw [HD.out, HL.out]; rfl)
  have hsh := shl_small (e := qn) (by omega)
  have hq63 : ¬ (qn : Int) < 0 := by omega
  go_enter Try.func37, Try.ntmps37
  go_wp2_with (first
    | (go_at_call 44; refine (arePins_any _ _ _ _ ks _ hm HA.out).mono ?_; rw [HX.out]; rintro e w1 ⟨rfl, hb1⟩
       have CP1 := Lib.hid (CP.out.call hb1)
       have CQ1 := Lib.hid (CQ.out.call hb1)
       have HB1 := Lib.hid (bel_call HB0.out hb1)
       have z1 : w.heap.size + 2 ≤ w1.heap.size := Nat.le_trans z0 hb1.size
       have HA1 := Lib.hid (HA.out.below hb1)
       have p0 : w1.cell? ⟨w.heap.size, 0, none⟩ = some (.int .i64 (dn : Int)) := CP1.out.cell (show 0 < 2 by omega)
       have p1 : w1.cell? ⟨w.heap.size, 1, none⟩ = some (.slice A n c) := CP1.out.cell (show 1 < 2 by omega)
       have s0 : w1.cell? ⟨w.heap.size + 1, 0, none⟩ = some (.int .i64 0) := CQ1.out.cell (show 0 < 2 by omega)
       have s1 : w1.cell? ⟨w.heap.size + 1, 1, none⟩ = some (.slice none 0 0) := CQ1.out.cell (show 1 < 2 by omega)
       have f0 := CQ1.out.frozen (show 0 < 2 by omega)
       have f1 := CQ1.out.frozen (show 1 < 2 by omega)
       obtain ⟨WZ, hWZ⟩ : ∃ W, w1.alloc (.cells #[.int .i64 0, .int .i64 0, .int .i64 0, .int .i64 0, .int .i64 0, .int .i64 0, .int .i64 0] 80) = W := ⟨_, rfl⟩
       have hbz : Below w1.heap.size w1 WZ := by rw [← hWZ]; exact (Below.refl _ _).alloc (Nat.le_refl _) _
       have CZ1 : Hid (Cells WZ w1.heap.size 7 zF) := Lib.hid (by rw [← hWZ]; exact cells_zero7 w1 _ rfl)
       have hb2 : Below w1.heap.size w1 (WZ.setCell ⟨w1.heap.size, pn, none⟩ (.int .i64 (2 ^ qn))) := hbz.setCell (Nat.le_refl _) _
       have CZ2 : Hid (Cells (WZ.setCell ⟨w1.heap.size, pn, none⟩ (.int .i64 (2 ^ qn))) w1.heap.size 7 (fun j => .int .i64 ((onF pn qn j : Nat) : Int))) := Lib.hid (by
         refine (CZ1.out.set_ (show pn < 7 by omega) _).congr fun j hj => ?_
         unfold onF zF
         by_cases e : j = pn
         · rw [if_pos e, if_pos e]
           simp
         · rw [if_neg e, if_neg e]
           rfl)
       have y0 : WZ.cell? ⟨w1.heap.size, pn, none⟩ = some (.int .i64 0) := CZ1.out.cell (show pn < 7 by omega)
       have y1 := CZ1.out.frozen (show pn < 7 by omega)
       have hpi : (pn : Int) < 7 := by omega
       have CP2 := Lib.hid (CP1.out.call hb2)
       have CQ2 := Lib.hid (CQ1.out.call hb2)
       have HB2 := Lib.hid (bel_call HB1.out hb2)
       have z2 := Nat.le_trans z1 hb2.size
       have r0 : (WZ.setCell ⟨w1.heap.size, pn, none⟩ (.int .i64 (2 ^ qn))).cell? ⟨w.heap.size, 0, none⟩ = some (.int .i64 (dn : Int)) := CP2.out.cell (show 0 < 2 by omega)
       have r1 : (WZ.setCell ⟨w1.heap.size, pn, none⟩ (.int .i64 (2 ^ qn))).cell? ⟨w.heap.size, 1, none⟩ = some (.slice A n c) := CP2.out.cell (show 1 < 2 by omega)
       have a0 : (WZ.setCell ⟨w1.heap.size, pn, none⟩ (.int .i64 (2 ^ qn))).cell? ⟨w1.heap.size, 0, none⟩ = some (.int .i64 ((onF pn qn 0 : Nat) : Int)) := CZ2.out.cell (show 0 < 7 by omega)
       have a1 : (WZ.setCell ⟨w1.heap.size, pn, none⟩ (.int .i64 (2 ^ qn))).cell? ⟨w1.heap.size, 1, none⟩ = some (.int .i64 ((onF pn qn 1 : Nat) : Int)) := CZ2.out.cell (show 1 < 7 by omega)
       have a2 : (WZ.setCell ⟨w1.heap.size, pn, none⟩ (.int .i64 (2 ^ qn))).cell? ⟨w1.heap.size, 2, none⟩ = some (.int .i64 ((onF pn qn 2 : Nat) : Int)) := CZ2.out.cell (show 2 < 7 by omega)
       have a3 : (WZ.setCell ⟨w1.heap.size, pn, none⟩ (.int .i64 (2 ^ qn))).cell? ⟨w1.heap.size, 3, none⟩ = some (.int .i64 ((onF pn qn 3 : Nat) : Int)) := CZ2.out.cell (show 3 < 7 by omega)
       have a4 : (WZ.setCell ⟨w1.heap.size, pn, none⟩ (.int .i64 (2 ^ qn))).cell? ⟨w1.heap.size, 4, none⟩ = some (.int .i64 ((onF pn qn 4 : Nat) : Int)) := CZ2.out.cell (show 4 < 7 by omega)
       have a5 : (WZ.setCell ⟨w1.heap.size, pn, none⟩ (.int .i64 (2 ^ qn))).cell? ⟨w1.heap.size, 5, none⟩ = some (.int .i64 ((onF pn qn 5 : Nat) : Int)) := CZ2.out.cell (show 5 < 7 by omega)
       have a6 : (WZ.setCell ⟨w1.heap.size, pn, none⟩ (.int .i64 (2 ^ qn))).cell? ⟨w1.heap.size, 6, none⟩ = some (.int .i64 ((onF pn qn 6 : Nat) : Int)) := CZ2.out.cell (show 6 < 7 by omega)
       clear hbz
       clear hb1 hb2))
  refine (withCuts_any dn A n c (onF pn qn) _ (by omega) (by omega) (onF_lt (by omega))).mono ?_
  rw [mk_on (show qn < dn by omega)]
  rintro e w4 ⟨v, rfl, hR, hb4⟩
  obtain ⟨A', c', rfl⟩ := hR.slice
  have HR := Lib.hid hR
  have CQ4 := Lib.hid (CQ2.out.call hb4)
  have HB4 := Lib.hid (bel_call HB2.out hb4)
  have hz4 := hb4.size
  have s0 : w4.cell? ⟨w.heap.size + 1, 0, none⟩ = some (.int .i64 0) := CQ4.out.cell (show 0 < 2 by omega)
  have s1 : w4.cell? ⟨w.heap.size + 1, 1, none⟩ = some (.slice none 0 0) := CQ4.out.cell (show 1 < 2 by omega)
  have f0 := CQ4.out.frozen (show 0 < 2 by omega)
  have f1 := CQ4.out.frozen (show 1 < 2 by omega)
  have HOL : Hid ((onL pn qn n).length = n) := Lib.hid (rwL_length _ _)
  clear hR hb4
  go_wp2_with fail
  refine bodyPost_ret (v := .tuple #[.agg #[.int .i64 (dn : Int), .slice A' (onL pn qn n).length c'], .bool true]) (by simp [results, Try.results37, go_sem, s0, s1]) rfl ?_
  rw [HK.out, HD.out]
  unfold pnD
  rw [HD.out]
  refine ⟨_, rfl, ((HR.out.under (by show w.heap.size + 1 < _; omega) _).under (by show w.heap.size + 1 < _; omega) _).weak (by omega), (HB4.out.setCell (p := ⟨w.heap.size + 1, 0, none⟩) (by show w.heap.size ≤ w.heap.size + 1; omega) _).setCell (p := ⟨w.heap.size + 1, 1, none⟩) (by show w.heap.size ≤ w.heap.size + 1; omega) _⟩

theorem inB_yesP {n lo hi : Int} (h : inB n lo hi = true) : lo ≤ n ∧ n ≤ hi := of_decide_eq_true h

theorem tp_pn {d p q : Int} {ks : List (List Int)} (h : pnB d ks p q = false) : tpB d ks p q = false := by
  unfold tpB
  unfold pnB at h
  rw [h]; simp

theorem tp_has {d p q : Int} {ks : List (List Int)} (h : hasB (ks.getD p.toNat []) q.toNat = false) : tpB d ks p q = false := tp_no (.inr (.inr (.inr (.inl h))))

theorem tp_one {d p q : Int} {ks : List (List Int)} (h : (ks.getD p.toNat []).length = 1) : tpB d ks p q = false := tp_no (.inr (.inr (.inr (.inr h))))

theorem set_nine {d : Int} {ks : List (List Int)} (h : pinsB d ks = true) {p q : Nat} : Nine (ks.set p (tkL q (ks.getD p []))) := fun i => by
  have h9 := rows_nine h
  by_cases hp : p < ks.length
  · by_cases e : i = p
    · subst e
      rw [getD_set_eq hp]
      exact Nat.le_trans (tk_length _ _) (h9 i)
    · rw [getD_set_ne e]
      exact h9 i
  · rw [List.set_eq_of_length_le (by omega)]
    exact h9 i

set_option maxHeartbeats 8000000 in
theorem takePin_any (d : Int) (A : Option Addr) (n c : Nat) (ks : List (List Int)) (p q : Int) (w : World) (hm : n + lensAt ks n ≤ 1048576) (hA : KnobsA w A n ks) :
    Calls Try.prog 21 #[.agg #[.int .i64 d, .slice A n c], .int .i64 p, .int .i64 q] w (PinsOut w (tpD d ks p q) (tpK d ks p q) (tpB d ks p q)) := by
  obtain ⟨W0, hW0⟩ : ∃ W0, (w.alloc (.cells #[.int .i64 d, .slice A n c] 34)).alloc (.cells #[.int .i64 0, .slice none 0 0] 34) = W0 := ⟨_, rfl⟩
  have CP := Lib.hid (show Cells W0 w.heap.size 2 (pF d (.slice A n c)) from hW0 ▸ (Cells.new (W := w) (n := 2) rfl rfl).alloc _)
  have CQ := Lib.hid (show Cells W0 (w.heap.size + 1) 2 (pF 0 (.slice none 0 0)) from hW0 ▸ Cells.new (n := 2) (by simp) rfl)
  have HB0 := Lib.hid (show Below w.heap.size w W0 from hW0 ▸ (by (repeat (first | assumption | exact Below.refl _ _ | (refine Below.alloc ?_ (by first | omega | (simp; done) | (simp; omega)) _) | (refine Below.setCell ?_ (by first | omega | (simp; done) | (simp; omega)) _) | refine bel_drewN ?_ _ | refine bel_drew ?_ | (refine bel_call ?_ (by assumption))))))
  have z0 : w.heap.size + 2 ≤ W0.heap.size := by rw [← hW0]; simp
  have l0 : W0.cell? ⟨w.heap.size, 0, none⟩ = some (.int .i64 d) := CP.out.cell (show 0 < 2 by omega)
  have l1 : W0.cell? ⟨w.heap.size, 1, none⟩ = some (.slice A n c) := CP.out.cell (show 1 < 2 by omega)
  have HA := Lib.hid (hA.below HB0.out)
  have HL := Lib.hid hA.len
  clear hA
  obtain ⟨x, hx⟩ : ∃ x, pnB d ks p q = x := ⟨_, rfl⟩
  have HX := Lib.hid hx
  clear hx
  rcases x with _ | _
  · have HD : Hid (tpB d ks p q = false) := Lib.hid (tp_pn HX.out)
    go_enter Try.func21, Try.ntmps21
    go_wp2_with (first
      | (go_at_call 37; refine (pin_any _ _ _ _ ks _ _ _ hm HA.out).mono ?_; rintro e w1 ⟨v1, rfl, hR1, hb1⟩
         obtain ⟨A1, c1, rfl⟩ := hR1.slice
         rw [HX.out]
         have CP1 := Lib.hid (CP.out.call hb1)
         have CQ1 := Lib.hid (CQ.out.call hb1)
         have HB1 := Lib.hid (bel_call HB0.out hb1)
         generalize pnD d ks p q = pd
         generalize (pnK d ks p q).length = pl
         obtain ⟨W2, hW2⟩ : ∃ W, w1.alloc (.cells #[.int .i64 pd, .slice A1 pl c1] 34) = W := ⟨_, rfl⟩
         have hb2 : Below w1.heap.size w1 W2 := by rw [← hW2]; exact (Below.refl _ _).alloc (Nat.le_refl _) _
         have CQ2 := Lib.hid (CQ1.out.call hb2)
         have HB2 := Lib.hid (bel_call HB1.out hb2)
         have s0 : W2.cell? ⟨w.heap.size + 1, 0, none⟩ = some (.int .i64 0) := CQ2.out.cell (show 0 < 2 by omega)
         have s1 : W2.cell? ⟨w.heap.size + 1, 1, none⟩ = some (.slice none 0 0) := CQ2.out.cell (show 1 < 2 by omega)
         have f0 := CQ2.out.frozen (show 0 < 2 by omega)
         have f1 := CQ2.out.frozen (show 1 < 2 by omega)
         clear hR1 hb1 hb2))
    refine bodyPost_ret (v := .tuple #[.agg #[.int .i64 0, .slice none 0 0], .bool false]) (by simp [results, Try.results21, go_sem, s0, s1]) rfl ?_
    unfold tpD tpK
    rw [HD.out]
    exact pinsOut_no rfl ((HB2.out.setCell (p := ⟨w.heap.size + 1, 0, none⟩) (by show w.heap.size ≤ w.heap.size + 1; omega) _).setCell (p := ⟨w.heap.size + 1, 1, none⟩) (by show w.heap.size ≤ w.heap.size + 1; omega) _)
  obtain ⟨hpp, hp, hq⟩ := pn_yes HX.out
  have HPP := Lib.hid hpp
  obtain ⟨h1, h2, h3, h4, h5⟩ := pinsB_yes hpp
  rw [HL.out] at h3 h4 hp
  have HRS := Lib.hid (show ∀ i, i < n → riseB d 0 (ks.getD i []) = true from fun i hi => (h5 i (by rw [HL.out]; exact hi)).2)
  clear h5 hpp
  obtain ⟨dn, rfl⟩ : ∃ dn : Nat, d = dn := ⟨d.toNat, by omega⟩
  obtain ⟨pn, rfl⟩ : ∃ pn : Nat, p = pn := ⟨p.toNat, by omega⟩
  obtain ⟨qn, rfl⟩ : ∃ qn : Nat, q = qn := ⟨q.toNat, by omega⟩
  have hpn : pn < n := by omega
  have hqn : qn < dn := by omega
  have HPD : Hid (pnD (dn : Int) ks (pn : Int) (qn : Int) = dn) := Lib.hid (by unfold pnD; rw [HX.out]; rfl)
  have HPK : Hid (pnK (dn : Int) ks (pn : Int) (qn : Int) = onL pn qn n) := Lib.hid (by unfold pnK; rw [HX.out, HL.out]; rfl)
  have HOL : Hid ((onL pn qn n).length = n) := Lib.hid (rwL_length _ _)
  have HO9 : Hid (Nine (onL pn qn n)) := Lib.hid (fun i => by
    by_cases hi : i < n
    · rw [onL_at hi]; split <;> simp
    · simp [List.getD, List.getElem?_eq_none (by have := HOL.out; omega : (onL pn qn n).length ≤ i)])
  have HHM := Lib.hid (hasM_on (dn := dn) (ks := ks) (show dn ≤ 9 by omega) (show n ≤ 7 by omega) hpn hqn)
  have HWO := Lib.hid (without_on (dn := dn) (d := qn) HL.out HRS.out hpn)
  have HS1 := Lib.hid (pins_small HPP.out)
  have HS2 : Hid (SmallP (onL pn qn n)) := Lib.hid (on_small (by omega))
  have HN9 := Lib.hid (set_nine (p := pn) (q := qn) HPP.out)
  have HSL : Hid ((ks.set pn (tkL qn (ks.getD pn []))).length = n) := Lib.hid (by rw [List.length_set, HL.out])
  have HTP := Lib.hid (fun h => tk_pins (q := qn) HPP.out (show pn < ks.length by rw [HL.out]; exact hpn) h)
  obtain ⟨h, hh⟩ : ∃ h, hasB (ks.getD pn []) qn = h := ⟨_, rfl⟩
  have HH := Lib.hid hh
  rw [hh] at HHM HTP
  obtain ⟨t, ht⟩ : ∃ t, pinsB (dn : Int) (ks.set pn (tkL qn (ks.getD pn []))) = t := ⟨_, rfl⟩
  have HT := Lib.hid ht
  have HTK : Hid (h = true → t = true → tpK (dn : Int) ks (pn : Int) (qn : Int) = ks.set pn (tkL qn (ks.getD pn [])) ∧ tpB (dn : Int) ks (pn : Int) (qn : Int) = true) := Lib.hid (fun e1 e2 => by
    have e3 : tpB (dn : Int) ks (pn : Int) (qn : Int) = true := by
      have e4 := HX.out
      unfold pnB at e4
      have e5 := HTP.out e1
      rw [HT.out, e2] at e5
      unfold tpB
      rw [e4, Int.toNat_natCast, Int.toNat_natCast, HH.out, e1, ← e5]; rfl
    exact ⟨by unfold tpK; rw [e3]; rfl, e3⟩)
  have HDF : Hid (h = false ∨ t = false → tpB (dn : Int) ks (pn : Int) (qn : Int) = false) := Lib.hid (by
    rintro (e | e)
    · exact tp_has (by rw [Int.toNat_natCast, Int.toNat_natCast, HH.out, e])
    · cases h
      · exact tp_has (by rw [Int.toNat_natCast, Int.toNat_natCast, HH.out])
      · have e5 := HTP.out rfl
        rw [HT.out, e] at e5
        have e6 : (!decide ((ks.getD pn []).length = 1)) = false := e5.symm
        exact tp_one (by rw [Int.toNat_natCast]; simpa using e6))
  clear hh ht
  generalize ks.set pn (tkL qn (ks.getD pn [])) = Z at HWO HN9 HSL HT HTK
  have HZL : Hid (n + lensAt Z n ≤ 1048576) := Lib.hid (by have := lens_nine HN9.out n; omega)
  rcases h with _ | _
  · have HD := Lib.hid (HDF.out (.inl rfl))
    go_enter Try.func21, Try.ntmps21
    go_wp2_with (first
      | (go_at_call 37; refine (pin_any _ _ _ _ ks _ _ _ hm HA.out).mono ?_; rw [HPD.out, HPK.out, HX.out]; rintro e w1 ⟨v1, rfl, hR1, hb1⟩
         obtain ⟨A1, c1, rfl⟩ := hR1.slice
         rw [HOL.out] at hR1 ⊢
         obtain ⟨W2, hW2⟩ : ∃ W, w1.alloc (.cells #[.int .i64 (dn : Int), .slice A1 n c1] 34) = W := ⟨_, rfl⟩
         have hb2 : Below w1.heap.size w1 W2 := by rw [← hW2]; exact (Below.refl _ _).alloc (Nat.le_refl _) _
         have CX2 := Lib.hid (show Cells W2 w1.heap.size 2 (pF (dn : Int) (.slice A1 n c1)) from hW2 ▸ Cells.new (n := 2) rfl rfl)
         have HR2 := Lib.hid (hR1.call hb2)
         have CP2 := Lib.hid ((CP.out.call hb1).call hb2)
         have CQ2 := Lib.hid ((CQ.out.call hb1).call hb2)
         have HB2 := Lib.hid (bel_call (bel_call HB0.out hb1) hb2)
         have HA2 := Lib.hid ((HA.out.below hb1).below hb2)
         have zU : w.heap.size + 2 ≤ w1.heap.size := Nat.le_trans z0 hb1.size
         have p0 : W2.cell? ⟨w.heap.size, 0, none⟩ = some (.int .i64 (dn : Int)) := CP2.out.cell (show 0 < 2 by omega)
         have p1 : W2.cell? ⟨w.heap.size, 1, none⟩ = some (.slice A n c) := CP2.out.cell (show 1 < 2 by omega)
         have s0 : W2.cell? ⟨w.heap.size + 1, 0, none⟩ = some (.int .i64 0) := CQ2.out.cell (show 0 < 2 by omega)
         have s1 : W2.cell? ⟨w.heap.size + 1, 1, none⟩ = some (.slice none 0 0) := CQ2.out.cell (show 1 < 2 by omega)
         have f0 := CQ2.out.frozen (show 0 < 2 by omega)
         have f1 := CQ2.out.frozen (show 1 < 2 by omega)
         have x0 : W2.cell? ⟨w1.heap.size, 0, none⟩ = some (.int .i64 (dn : Int)) := CX2.out.cell (show 0 < 2 by omega)
         have x1 : W2.cell? ⟨w1.heap.size, 1, none⟩ = some (.slice A1 n c1) := CX2.out.cell (show 1 < 2 by omega)
         clear hR1 hb1 hb2)
      | (go_at_call 38; refine (has_any dn (dn : Int) A A1 n n c c1 ks (onL pn qn n) _ (by omega) (by omega) (by omega) HA2.out (row_knobs HR2.out HO9.out) HS1.out HS2.out).mono ?_; rw [HHM.out]; rintro e w3 ⟨rfl, hb3⟩
         have CX3 := Lib.hid (CX2.out.call hb3)
         have HR3 := Lib.hid (HR2.out.call hb3)
         have CP3 := Lib.hid (CP2.out.call hb3)
         have CQ3 := Lib.hid (CQ2.out.call hb3)
         have HB3 := Lib.hid (bel_call HB2.out hb3)
         have HA3 := Lib.hid (HA2.out.below hb3)
         have p0 : w3.cell? ⟨w.heap.size, 0, none⟩ = some (.int .i64 (dn : Int)) := CP3.out.cell (show 0 < 2 by omega)
         have p1 : w3.cell? ⟨w.heap.size, 1, none⟩ = some (.slice A n c) := CP3.out.cell (show 1 < 2 by omega)
         have s0 : w3.cell? ⟨w.heap.size + 1, 0, none⟩ = some (.int .i64 0) := CQ3.out.cell (show 0 < 2 by omega)
         have s1 : w3.cell? ⟨w.heap.size + 1, 1, none⟩ = some (.slice none 0 0) := CQ3.out.cell (show 1 < 2 by omega)
         have f0 := CQ3.out.frozen (show 0 < 2 by omega)
         have f1 := CQ3.out.frozen (show 1 < 2 by omega)
         have x0 : w3.cell? ⟨w1.heap.size, 0, none⟩ = some (.int .i64 (dn : Int)) := CX3.out.cell (show 0 < 2 by omega)
         have x1 : w3.cell? ⟨w1.heap.size, 1, none⟩ = some (.slice A1 n c1) := CX3.out.cell (show 1 < 2 by omega)
         clear hb3))
    refine bodyPost_ret (v := .tuple #[.agg #[.int .i64 0, .slice none 0 0], .bool false]) (by simp [results, Try.results21, go_sem, s0, s1]) rfl ?_
    unfold tpD tpK
    rw [HD.out]
    exact pinsOut_no rfl ((HB3.out.setCell (p := ⟨w.heap.size + 1, 0, none⟩) (by show w.heap.size ≤ w.heap.size + 1; omega) _).setCell (p := ⟨w.heap.size + 1, 1, none⟩) (by show w.heap.size ≤ w.heap.size + 1; omega) _)
  rcases t with _ | _
  · have HD := Lib.hid (HDF.out (.inr rfl))
    go_enter Try.func21, Try.ntmps21
    go_wp2_with (first
      | (go_at_call 37; refine (pin_any _ _ _ _ ks _ _ _ hm HA.out).mono ?_; rw [HPD.out, HPK.out, HX.out]; rintro e w1 ⟨v1, rfl, hR1, hb1⟩
         obtain ⟨A1, c1, rfl⟩ := hR1.slice
         rw [HOL.out] at hR1 ⊢
         obtain ⟨W2, hW2⟩ : ∃ W, w1.alloc (.cells #[.int .i64 (dn : Int), .slice A1 n c1] 34) = W := ⟨_, rfl⟩
         have hb2 : Below w1.heap.size w1 W2 := by rw [← hW2]; exact (Below.refl _ _).alloc (Nat.le_refl _) _
         have CX2 := Lib.hid (show Cells W2 w1.heap.size 2 (pF (dn : Int) (.slice A1 n c1)) from hW2 ▸ Cells.new (n := 2) rfl rfl)
         have HR2 := Lib.hid (hR1.call hb2)
         have CP2 := Lib.hid ((CP.out.call hb1).call hb2)
         have CQ2 := Lib.hid ((CQ.out.call hb1).call hb2)
         have HB2 := Lib.hid (bel_call (bel_call HB0.out hb1) hb2)
         have HA2 := Lib.hid ((HA.out.below hb1).below hb2)
         have zU : w.heap.size + 2 ≤ w1.heap.size := Nat.le_trans z0 hb1.size
         have p0 : W2.cell? ⟨w.heap.size, 0, none⟩ = some (.int .i64 (dn : Int)) := CP2.out.cell (show 0 < 2 by omega)
         have p1 : W2.cell? ⟨w.heap.size, 1, none⟩ = some (.slice A n c) := CP2.out.cell (show 1 < 2 by omega)
         have s0 : W2.cell? ⟨w.heap.size + 1, 0, none⟩ = some (.int .i64 0) := CQ2.out.cell (show 0 < 2 by omega)
         have s1 : W2.cell? ⟨w.heap.size + 1, 1, none⟩ = some (.slice none 0 0) := CQ2.out.cell (show 1 < 2 by omega)
         have f0 := CQ2.out.frozen (show 0 < 2 by omega)
         have f1 := CQ2.out.frozen (show 1 < 2 by omega)
         have x0 : W2.cell? ⟨w1.heap.size, 0, none⟩ = some (.int .i64 (dn : Int)) := CX2.out.cell (show 0 < 2 by omega)
         have x1 : W2.cell? ⟨w1.heap.size, 1, none⟩ = some (.slice A1 n c1) := CX2.out.cell (show 1 < 2 by omega)
         clear hR1 hb1 hb2)
      | (go_at_call 38; refine (has_any dn (dn : Int) A A1 n n c c1 ks (onL pn qn n) _ (by omega) (by omega) (by omega) HA2.out (row_knobs HR2.out HO9.out) HS1.out HS2.out).mono ?_; rw [HHM.out]; rintro e w3 ⟨rfl, hb3⟩
         have CX3 := Lib.hid (CX2.out.call hb3)
         have HR3 := Lib.hid (HR2.out.call hb3)
         have CP3 := Lib.hid (CP2.out.call hb3)
         have CQ3 := Lib.hid (CQ2.out.call hb3)
         have HB3 := Lib.hid (bel_call HB2.out hb3)
         have HA3 := Lib.hid (HA2.out.below hb3)
         have p0 : w3.cell? ⟨w.heap.size, 0, none⟩ = some (.int .i64 (dn : Int)) := CP3.out.cell (show 0 < 2 by omega)
         have p1 : w3.cell? ⟨w.heap.size, 1, none⟩ = some (.slice A n c) := CP3.out.cell (show 1 < 2 by omega)
         have s0 : w3.cell? ⟨w.heap.size + 1, 0, none⟩ = some (.int .i64 0) := CQ3.out.cell (show 0 < 2 by omega)
         have s1 : w3.cell? ⟨w.heap.size + 1, 1, none⟩ = some (.slice none 0 0) := CQ3.out.cell (show 1 < 2 by omega)
         have f0 := CQ3.out.frozen (show 0 < 2 by omega)
         have f1 := CQ3.out.frozen (show 1 < 2 by omega)
         have x0 : w3.cell? ⟨w1.heap.size, 0, none⟩ = some (.int .i64 (dn : Int)) := CX3.out.cell (show 0 < 2 by omega)
         have x1 : w3.cell? ⟨w1.heap.size, 1, none⟩ = some (.slice A1 n c1) := CX3.out.cell (show 1 < 2 by omega)
         clear hb3)
      | (go_at_call 43; refine (without_any dn (dn : Int) A A1 n n c c1 ks (onL pn qn n) _ (by omega) (by omega) (by omega) HA3.out (row_knobs HR3.out HO9.out) HS1.out HS2.out).mono ?_; rw [HWO.out]; rintro e w4 ⟨v4, rfl, hR4, hb4⟩
         obtain ⟨A4, c4, rfl⟩ := hR4.slice
         rw [HSL.out] at hR4 ⊢
         obtain ⟨W5, hW5⟩ : ∃ W, w4.alloc (.cells #[.int .i64 (dn : Int), .slice A4 n c4] 34) = W := ⟨_, rfl⟩
         have hb5 : Below w4.heap.size w4 W5 := by rw [← hW5]; exact (Below.refl _ _).alloc (Nat.le_refl _) _
         have CY5 := Lib.hid (show Cells W5 w4.heap.size 2 (pF (dn : Int) (.slice A4 n c4)) from hW5 ▸ Cells.new (n := 2) rfl rfl)
         have HR5 := Lib.hid (hR4.call hb5)
         have z3 := CP3.out.lt
         have CP5 := Lib.hid ((CP3.out.call hb4).call hb5)
         have CQ5 := Lib.hid ((CQ3.out.call hb4).call hb5)
         have HB5 := Lib.hid (bel_call (bel_call HB3.out hb4) hb5)
         have hz4 := hb4.size
         have hq3 := CQ3.out.lt
         have p0 : W5.cell? ⟨w.heap.size, 0, none⟩ = some (.int .i64 (dn : Int)) := CP5.out.cell (show 0 < 2 by omega)
         have p1 : W5.cell? ⟨w.heap.size, 1, none⟩ = some (.slice A n c) := CP5.out.cell (show 1 < 2 by omega)
         have s0 : W5.cell? ⟨w.heap.size + 1, 0, none⟩ = some (.int .i64 0) := CQ5.out.cell (show 0 < 2 by omega)
         have s1 : W5.cell? ⟨w.heap.size + 1, 1, none⟩ = some (.slice none 0 0) := CQ5.out.cell (show 1 < 2 by omega)
         have f0 := CQ5.out.frozen (show 0 < 2 by omega)
         have f1 := CQ5.out.frozen (show 1 < 2 by omega)
         have y0 : W5.cell? ⟨w4.heap.size, 0, none⟩ = some (.int .i64 (dn : Int)) := CY5.out.cell (show 0 < 2 by omega)
         have y1 : W5.cell? ⟨w4.heap.size, 1, none⟩ = some (.slice A4 n c4) := CY5.out.cell (show 1 < 2 by omega)
         clear hR4 hb4 hb5)
      | (go_at_call 44; refine (arePins_any _ _ _ _ Z _ HZL.out (row_knobs HR5.out HN9.out)).mono ?_; rw [HT.out]; rintro e w6 ⟨rfl, hb6⟩
         have CY6 := Lib.hid (CY5.out.call hb6)
         have HR6 := Lib.hid (HR5.out.call hb6)
         have CP6 := Lib.hid (CP5.out.call hb6)
         have CQ6 := Lib.hid (CQ5.out.call hb6)
         have HB6 := Lib.hid (bel_call HB5.out hb6)
         have p0 : w6.cell? ⟨w.heap.size, 0, none⟩ = some (.int .i64 (dn : Int)) := CP6.out.cell (show 0 < 2 by omega)
         have p1 : w6.cell? ⟨w.heap.size, 1, none⟩ = some (.slice A n c) := CP6.out.cell (show 1 < 2 by omega)
         have s0 : w6.cell? ⟨w.heap.size + 1, 0, none⟩ = some (.int .i64 0) := CQ6.out.cell (show 0 < 2 by omega)
         have s1 : w6.cell? ⟨w.heap.size + 1, 1, none⟩ = some (.slice none 0 0) := CQ6.out.cell (show 1 < 2 by omega)
         have f0 := CQ6.out.frozen (show 0 < 2 by omega)
         have f1 := CQ6.out.frozen (show 1 < 2 by omega)
         have y0 : w6.cell? ⟨w4.heap.size, 0, none⟩ = some (.int .i64 (dn : Int)) := CY6.out.cell (show 0 < 2 by omega)
         have y1 : w6.cell? ⟨w4.heap.size, 1, none⟩ = some (.slice A4 n c4) := CY6.out.cell (show 1 < 2 by omega)
         clear hb6))
    refine bodyPost_ret (v := .tuple #[.agg #[.int .i64 0, .slice none 0 0], .bool false]) (by simp [results, Try.results21, go_sem, s0, s1]) rfl ?_
    unfold tpD tpK
    rw [HD.out]
    exact pinsOut_no rfl ((HB6.out.setCell (p := ⟨w.heap.size + 1, 0, none⟩) (by show w.heap.size ≤ w.heap.size + 1; omega) _).setCell (p := ⟨w.heap.size + 1, 1, none⟩) (by show w.heap.size ≤ w.heap.size + 1; omega) _)
  · obtain ⟨hk1, hk2⟩ := HTK.out rfl rfl
    have HK := Lib.hid hk1
    have HD := Lib.hid hk2
    clear hk1 hk2
    go_enter Try.func21, Try.ntmps21
    go_wp2_with (first
      | (go_at_call 37; refine (pin_any _ _ _ _ ks _ _ _ hm HA.out).mono ?_; rw [HPD.out, HPK.out, HX.out]; rintro e w1 ⟨v1, rfl, hR1, hb1⟩
         obtain ⟨A1, c1, rfl⟩ := hR1.slice
         rw [HOL.out] at hR1 ⊢
         obtain ⟨W2, hW2⟩ : ∃ W, w1.alloc (.cells #[.int .i64 (dn : Int), .slice A1 n c1] 34) = W := ⟨_, rfl⟩
         have hb2 : Below w1.heap.size w1 W2 := by rw [← hW2]; exact (Below.refl _ _).alloc (Nat.le_refl _) _
         have CX2 := Lib.hid (show Cells W2 w1.heap.size 2 (pF (dn : Int) (.slice A1 n c1)) from hW2 ▸ Cells.new (n := 2) rfl rfl)
         have HR2 := Lib.hid (hR1.call hb2)
         have CP2 := Lib.hid ((CP.out.call hb1).call hb2)
         have CQ2 := Lib.hid ((CQ.out.call hb1).call hb2)
         have HB2 := Lib.hid (bel_call (bel_call HB0.out hb1) hb2)
         have HA2 := Lib.hid ((HA.out.below hb1).below hb2)
         have zU : w.heap.size + 2 ≤ w1.heap.size := Nat.le_trans z0 hb1.size
         have p0 : W2.cell? ⟨w.heap.size, 0, none⟩ = some (.int .i64 (dn : Int)) := CP2.out.cell (show 0 < 2 by omega)
         have p1 : W2.cell? ⟨w.heap.size, 1, none⟩ = some (.slice A n c) := CP2.out.cell (show 1 < 2 by omega)
         have s0 : W2.cell? ⟨w.heap.size + 1, 0, none⟩ = some (.int .i64 0) := CQ2.out.cell (show 0 < 2 by omega)
         have s1 : W2.cell? ⟨w.heap.size + 1, 1, none⟩ = some (.slice none 0 0) := CQ2.out.cell (show 1 < 2 by omega)
         have f0 := CQ2.out.frozen (show 0 < 2 by omega)
         have f1 := CQ2.out.frozen (show 1 < 2 by omega)
         have x0 : W2.cell? ⟨w1.heap.size, 0, none⟩ = some (.int .i64 (dn : Int)) := CX2.out.cell (show 0 < 2 by omega)
         have x1 : W2.cell? ⟨w1.heap.size, 1, none⟩ = some (.slice A1 n c1) := CX2.out.cell (show 1 < 2 by omega)
         clear hR1 hb1 hb2)
      | (go_at_call 38; refine (has_any dn (dn : Int) A A1 n n c c1 ks (onL pn qn n) _ (by omega) (by omega) (by omega) HA2.out (row_knobs HR2.out HO9.out) HS1.out HS2.out).mono ?_; rw [HHM.out]; rintro e w3 ⟨rfl, hb3⟩
         have CX3 := Lib.hid (CX2.out.call hb3)
         have HR3 := Lib.hid (HR2.out.call hb3)
         have CP3 := Lib.hid (CP2.out.call hb3)
         have CQ3 := Lib.hid (CQ2.out.call hb3)
         have HB3 := Lib.hid (bel_call HB2.out hb3)
         have HA3 := Lib.hid (HA2.out.below hb3)
         have p0 : w3.cell? ⟨w.heap.size, 0, none⟩ = some (.int .i64 (dn : Int)) := CP3.out.cell (show 0 < 2 by omega)
         have p1 : w3.cell? ⟨w.heap.size, 1, none⟩ = some (.slice A n c) := CP3.out.cell (show 1 < 2 by omega)
         have s0 : w3.cell? ⟨w.heap.size + 1, 0, none⟩ = some (.int .i64 0) := CQ3.out.cell (show 0 < 2 by omega)
         have s1 : w3.cell? ⟨w.heap.size + 1, 1, none⟩ = some (.slice none 0 0) := CQ3.out.cell (show 1 < 2 by omega)
         have f0 := CQ3.out.frozen (show 0 < 2 by omega)
         have f1 := CQ3.out.frozen (show 1 < 2 by omega)
         have x0 : w3.cell? ⟨w1.heap.size, 0, none⟩ = some (.int .i64 (dn : Int)) := CX3.out.cell (show 0 < 2 by omega)
         have x1 : w3.cell? ⟨w1.heap.size, 1, none⟩ = some (.slice A1 n c1) := CX3.out.cell (show 1 < 2 by omega)
         clear hb3)
      | (go_at_call 43; refine (without_any dn (dn : Int) A A1 n n c c1 ks (onL pn qn n) _ (by omega) (by omega) (by omega) HA3.out (row_knobs HR3.out HO9.out) HS1.out HS2.out).mono ?_; rw [HWO.out]; rintro e w4 ⟨v4, rfl, hR4, hb4⟩
         obtain ⟨A4, c4, rfl⟩ := hR4.slice
         rw [HSL.out] at hR4 ⊢
         obtain ⟨W5, hW5⟩ : ∃ W, w4.alloc (.cells #[.int .i64 (dn : Int), .slice A4 n c4] 34) = W := ⟨_, rfl⟩
         have hb5 : Below w4.heap.size w4 W5 := by rw [← hW5]; exact (Below.refl _ _).alloc (Nat.le_refl _) _
         have CY5 := Lib.hid (show Cells W5 w4.heap.size 2 (pF (dn : Int) (.slice A4 n c4)) from hW5 ▸ Cells.new (n := 2) rfl rfl)
         have HR5 := Lib.hid (hR4.call hb5)
         have z3 := CP3.out.lt
         have CP5 := Lib.hid ((CP3.out.call hb4).call hb5)
         have CQ5 := Lib.hid ((CQ3.out.call hb4).call hb5)
         have HB5 := Lib.hid (bel_call (bel_call HB3.out hb4) hb5)
         have hz4 := hb4.size
         have hq3 := CQ3.out.lt
         have p0 : W5.cell? ⟨w.heap.size, 0, none⟩ = some (.int .i64 (dn : Int)) := CP5.out.cell (show 0 < 2 by omega)
         have p1 : W5.cell? ⟨w.heap.size, 1, none⟩ = some (.slice A n c) := CP5.out.cell (show 1 < 2 by omega)
         have s0 : W5.cell? ⟨w.heap.size + 1, 0, none⟩ = some (.int .i64 0) := CQ5.out.cell (show 0 < 2 by omega)
         have s1 : W5.cell? ⟨w.heap.size + 1, 1, none⟩ = some (.slice none 0 0) := CQ5.out.cell (show 1 < 2 by omega)
         have f0 := CQ5.out.frozen (show 0 < 2 by omega)
         have f1 := CQ5.out.frozen (show 1 < 2 by omega)
         have y0 : W5.cell? ⟨w4.heap.size, 0, none⟩ = some (.int .i64 (dn : Int)) := CY5.out.cell (show 0 < 2 by omega)
         have y1 : W5.cell? ⟨w4.heap.size, 1, none⟩ = some (.slice A4 n c4) := CY5.out.cell (show 1 < 2 by omega)
         clear hR4 hb4 hb5)
      | (go_at_call 44; refine (arePins_any _ _ _ _ Z _ HZL.out (row_knobs HR5.out HN9.out)).mono ?_; rw [HT.out]; rintro e w6 ⟨rfl, hb6⟩
         have CY6 := Lib.hid (CY5.out.call hb6)
         have HR6 := Lib.hid (HR5.out.call hb6)
         have CP6 := Lib.hid (CP5.out.call hb6)
         have CQ6 := Lib.hid (CQ5.out.call hb6)
         have HB6 := Lib.hid (bel_call HB5.out hb6)
         have p0 : w6.cell? ⟨w.heap.size, 0, none⟩ = some (.int .i64 (dn : Int)) := CP6.out.cell (show 0 < 2 by omega)
         have p1 : w6.cell? ⟨w.heap.size, 1, none⟩ = some (.slice A n c) := CP6.out.cell (show 1 < 2 by omega)
         have s0 : w6.cell? ⟨w.heap.size + 1, 0, none⟩ = some (.int .i64 0) := CQ6.out.cell (show 0 < 2 by omega)
         have s1 : w6.cell? ⟨w.heap.size + 1, 1, none⟩ = some (.slice none 0 0) := CQ6.out.cell (show 1 < 2 by omega)
         have f0 := CQ6.out.frozen (show 0 < 2 by omega)
         have f1 := CQ6.out.frozen (show 1 < 2 by omega)
         have y0 : w6.cell? ⟨w4.heap.size, 0, none⟩ = some (.int .i64 (dn : Int)) := CY6.out.cell (show 0 < 2 by omega)
         have y1 : w6.cell? ⟨w4.heap.size, 1, none⟩ = some (.slice A4 n c4) := CY6.out.cell (show 1 < 2 by omega)
         clear hb6))
    refine bodyPost_ret (v := .tuple #[.agg #[.int .i64 (dn : Int), .slice A4 n c4], .bool true]) (by simp [results, Try.results21, go_sem, s0, s1]) rfl ?_
    rw [HK.out]
    unfold tpD
    rw [HD.out]
    exact ⟨_, rfl, ((HR6.out.under (by show w.heap.size + 1 < _; omega) _).under (by show w.heap.size + 1 < _; omega) _).weak (by omega), (HB6.out.setCell (p := ⟨w.heap.size + 1, 0, none⟩) (by show w.heap.size ≤ w.heap.size + 1; omega) _).setCell (p := ⟨w.heap.size + 1, 1, none⟩) (by show w.heap.size ≤ w.heap.size + 1; omega) _⟩

theorem GridT.kdP {w : World} {g n lo : Nat} {ks : List (List Int)} {G : Nat → Nat} (hn : ks.length = n) (hg : lo ≤ g) (h : GridT w g n ks G) : KD w lo w.heap.size (some ⟨g, 0, none⟩) ks (digK ks) := by
  subst hn
  exact .inr ⟨g, G, lenL ks, rfl, hg, h.top.lt, fun k hk => ⟨by have := (h.row k hk).1; omega, (h.row k hk).2.lt⟩, h.top, fun k hk => ⟨by have := (h.row k hk).1; omega, (h.row k hk).2⟩, fun i k hi hk hik => by
    rcases Nat.lt_or_ge i k with h1 | h1
    · have := h.up i k h1 hk; omega
    · have := h.up k i (by omega) hi; omega⟩

theorem tpK_nine {d p q : Int} {ks : List (List Int)} : Nine (tpK d ks p q) := fun i => by
  unfold tpK
  by_cases h : tpB d ks p q = true
  · rw [if_pos h]
    unfold tpB at h
    simp only [Bool.and_eq_true] at h
    exact set_nine h.1.1.1.1 i
  · rw [if_neg h]
    simp

theorem tpK_length {d p q : Int} {ks : List (List Int)} : (tpK d ks p q).length ≤ 7 := by
  unfold tpK
  by_cases h : tpB d ks p q = true
  · rw [if_pos h, List.length_set]
    unfold tpB at h
    simp only [Bool.and_eq_true] at h
    exact (pinsB_yes h.1.1.1.1).2.2.2.1
  · rw [if_neg h]
    simp

theorem tpK_size {d p q : Int} {ks : List (List Int)} : (tpK d ks p q).length + lensAt (tpK d ks p q) (tpK d ks p q).length ≤ 1048576 := by
  have h1 := lens_nine (tpK_nine (d := d) (ks := ks) (p := p) (q := q)) (tpK d ks p q).length
  have h2 := tpK_length (d := d) (ks := ks) (p := p) (q := q)
  omega

theorem tpK_ne {d p q : Int} {ks : List (List Int)} : ∀ i, i < (tpK d ks p q).length → ((tpK d ks p q).getD i []).length ≠ 0 := fun i hi => by
  unfold tpK at hi ⊢
  by_cases h : tpB d ks p q = true
  · rw [if_pos h] at hi ⊢
    rw [List.length_set] at hi
    unfold tpB at h
    simp only [Bool.and_eq_true] at h
    obtain ⟨⟨⟨⟨h1, h2⟩, h3⟩, h4⟩, h5⟩ := h
    have h6 := inB_yesP h2
    have hp : p.toNat < ks.length := by omega
    obtain ⟨_, _, _, _, h7⟩ := pinsB_yes h1
    by_cases e : i = p.toNat
    · subst e
      rw [getD_set_eq hp]
      refine (tk_left (h7 _ hp).2 h4).2 fun e => ?_
      rw [decide_eq_true e] at h5
      cases h5
    · rw [getD_set_ne e]
      exact (h7 i hi).1
  · rw [if_neg h] at hi
    cases hi

theorem tk_snoc {d : Nat} {xs : List Int} {k : Nat} (h : k < xs.length) : tkL d (xs.take (k + 1)) = if xs.getD k 0 = (d : Int) then tkL d (xs.take k) else tkL d (xs.take k) ++ [xs.getD k 0] := by
  have e : xs.take (k + 1) = xs.take k ++ [xs.getD k 0] := by
    rw [List.take_succ_eq_append_getElem h]
    simp [List.getD, List.getElem?_eq_getElem h]
  rw [e]
  unfold tkL
  rw [List.filter_append]
  generalize xs.getD k 0 = y
  by_cases h2 : y = (d : Int)
  · rw [if_pos h2, List.filter_cons_of_neg (by simp [h2]), List.filter_nil, List.append_nil]
  · rw [if_neg h2, List.filter_cons_of_pos (by simp [h2]), List.filter_nil]

set_option maxHeartbeats 8000000 in
theorem specTakePin_any (d : Int) (A : Option Addr) (n c : Nat) (ks : List (List Int)) (p q : Int) (w : World) (hm : n + lensAt ks n ≤ 1048576) (hA : KnobsA w A n ks) :
    Calls Try.prog 20 #[.agg #[.int .i64 d, .slice A n c], .int .i64 p, .int .i64 q] w (PinsOut w (tpD d ks p q) (tpK d ks p q) (tpB d ks p q)) := by
  obtain ⟨W0, hW0⟩ : ∃ W0, (w.alloc (.cells #[.int .i64 d, .slice A n c] 34)).alloc (.cells #[.int .i64 0, .slice none 0 0] 34) = W0 := ⟨_, rfl⟩
  have CP := Lib.hid (show Cells W0 w.heap.size 2 (pF d (.slice A n c)) from hW0 ▸ (Cells.new (W := w) (n := 2) rfl rfl).alloc _)
  have CQ := Lib.hid (show Cells W0 (w.heap.size + 1) 2 (pF 0 (.slice none 0 0)) from hW0 ▸ Cells.new (n := 2) (by simp) rfl)
  have HB0 := Lib.hid (show Below w.heap.size w W0 from hW0 ▸ (by (repeat (first | assumption | exact Below.refl _ _ | (refine Below.alloc ?_ (by first | omega | (simp; done) | (simp; omega)) _) | (refine Below.setCell ?_ (by first | omega | (simp; done) | (simp; omega)) _) | refine bel_drewN ?_ _ | refine bel_drew ?_ | (refine bel_call ?_ (by assumption))))))
  have z0 : w.heap.size + 2 ≤ W0.heap.size := by rw [← hW0]; simp
  have l0 : W0.cell? ⟨w.heap.size, 0, none⟩ = some (.int .i64 d) := CP.out.cell (show 0 < 2 by omega)
  have l1 : W0.cell? ⟨w.heap.size, 1, none⟩ = some (.slice A n c) := CP.out.cell (show 1 < 2 by omega)
  have HA := Lib.hid (hA.below HB0.out)
  have HL := Lib.hid hA.len
  clear hA
  obtain ⟨x, hx⟩ : ∃ x, pnB d ks p q = x := ⟨_, rfl⟩
  have HX := Lib.hid hx
  clear hx
  rcases x with _ | _
  · have HD : Hid (tpB d ks p q = false) := Lib.hid (tp_pn HX.out)
    go_enter Try.func20, Try.ntmps20
    go_wp2_with (first
      | (go_at_call 32; refine (kePlace_any _ _ _ _ ks _ _ _ hm HA.out).mono ?_; rw [HX.out]; rintro e w1 ⟨rfl, hb1⟩
         have CP1 := Lib.hid (CP.out.call hb1)
         have CQ1 := Lib.hid (CQ.out.call hb1)
         have HB1 := Lib.hid (bel_call HB0.out hb1)
         have z1 : w.heap.size + 2 ≤ w1.heap.size := Nat.le_trans z0 hb1.size
         have HA1 := Lib.hid (HA.out.below hb1)
         have p0 : w1.cell? ⟨w.heap.size, 0, none⟩ = some (.int .i64 d) := CP1.out.cell (show 0 < 2 by omega)
         have p1 : w1.cell? ⟨w.heap.size, 1, none⟩ = some (.slice A n c) := CP1.out.cell (show 1 < 2 by omega)
         have s0 : w1.cell? ⟨w.heap.size + 1, 0, none⟩ = some (.int .i64 0) := CQ1.out.cell (show 0 < 2 by omega)
         have s1 : w1.cell? ⟨w.heap.size + 1, 1, none⟩ = some (.slice none 0 0) := CQ1.out.cell (show 1 < 2 by omega)
         have f0 := CQ1.out.frozen (show 0 < 2 by omega)
         have f1 := CQ1.out.frozen (show 1 < 2 by omega)
         clear hb1))
    refine bodyPost_ret (v := .tuple #[.agg #[.int .i64 0, .slice none 0 0], .bool false]) (by simp [results, Try.results20, go_sem, s0, s1]) rfl ?_
    unfold tpD tpK
    rw [HD.out]
    exact pinsOut_no rfl ((HB1.out.setCell (p := ⟨w.heap.size + 1, 0, none⟩) (by show w.heap.size ≤ w.heap.size + 1; omega) _).setCell (p := ⟨w.heap.size + 1, 1, none⟩) (by show w.heap.size ≤ w.heap.size + 1; omega) _)
  obtain ⟨hpp, hp, hq⟩ := pn_yes HX.out
  have HPP := Lib.hid hpp
  obtain ⟨h1, h2, h3, h4, h5⟩ := pinsB_yes hpp
  rw [HL.out] at h3 h4 hp
  clear h5 hpp
  obtain ⟨dn, rfl⟩ : ∃ dn : Nat, d = dn := ⟨d.toNat, by omega⟩
  obtain ⟨pn, rfl⟩ : ∃ pn : Nat, p = pn := ⟨p.toNat, by omega⟩
  obtain ⟨qn, rfl⟩ : ∃ qn : Nat, q = qn := ⟨q.toNat, by omega⟩
  have hpn : pn < n := by omega
  have hpi : (pn : Int) < (n : Int) := by omega
  have H9 := Lib.hid (rows_nine HPP.out)
  have hm9 := H9.out pn
  obtain ⟨b, off, rfl, hb, hc⟩ := HA.out.at_.resolve_left (by omega)
  obtain ⟨Ak, ck, o1', _, hI⟩ := hc pn hpn
  have HI := Lib.hid hI
  have HO1 := Lib.hid o1'
  have HTB : Hid (∀ (h : Bool), hasB (ks.getD pn []) qn = h → tpB (dn : Int) ks (pn : Int) (qn : Int) = (h && !decide ((ks.getD pn []).length = 1))) := Lib.hid (fun h e => by
    have e4 := HX.out
    unfold pnB at e4
    unfold tpB
    rw [e4, Int.toNat_natCast, Int.toNat_natCast, e, Bool.true_and])
  have HTK : Hid (tpB (dn : Int) ks (pn : Int) (qn : Int) = true → tpK (dn : Int) ks (pn : Int) (qn : Int) = ks.set pn (tkL qn (ks.getD pn []))) := Lib.hid (fun e => by unfold tpK; rw [e]; rfl)
  obtain ⟨xs, hxs⟩ : ∃ xs, ks.getD pn [] = xs := ⟨_, rfl⟩
  rw [hxs] at HI HO1 HTB HTK hm9
  clear hxs hc hI o1'
  obtain ⟨m, hmx⟩ : ∃ m, xs.length = m := ⟨_, rfl⟩
  have HML := Lib.hid hmx
  rw [hmx] at HI HO1 HTB hm9
  clear hmx
  obtain ⟨h, hh⟩ : ∃ h, hasB xs qn = h := ⟨_, rfl⟩
  have HH := Lib.hid hh
  have HTB2 := Lib.hid (HTB.out h hh)
  clear hh
  rcases h with _ | _
  · have HD : Hid (tpB (dn : Int) ks (pn : Int) (qn : Int) = false) := Lib.hid (by rw [HTB2.out]; rfl)
    go_enter Try.func20, Try.ntmps20
    go_wp2_with (first
      | (go_at_call 32; refine (kePlace_any _ _ _ _ ks _ _ _ hm HA.out).mono ?_; rw [HX.out]; rintro e w1 ⟨rfl, hb1⟩
         have CP1 := Lib.hid (CP.out.call hb1)
         have CQ1 := Lib.hid (CQ.out.call hb1)
         have HB1 := Lib.hid (bel_call HB0.out hb1)
         have z1 : w.heap.size + 2 ≤ w1.heap.size := Nat.le_trans z0 hb1.size
         have HA1 := Lib.hid (HA.out.below hb1)
         have p0 : w1.cell? ⟨w.heap.size, 0, none⟩ = some (.int .i64 (dn : Int)) := CP1.out.cell (show 0 < 2 by omega)
         have p1 : w1.cell? ⟨w.heap.size, 1, none⟩ = some (.slice (some ⟨b, off, none⟩) n c) := CP1.out.cell (show 1 < 2 by omega)
         have s0 : w1.cell? ⟨w.heap.size + 1, 0, none⟩ = some (.int .i64 0) := CQ1.out.cell (show 0 < 2 by omega)
         have s1 : w1.cell? ⟨w.heap.size + 1, 1, none⟩ = some (.slice none 0 0) := CQ1.out.cell (show 1 < 2 by omega)
         have f0 := CQ1.out.frozen (show 0 < 2 by omega)
         have f1 := CQ1.out.frozen (show 1 < 2 by omega)
         have o1 : w1.cell? ⟨b, off + pn, none⟩ = some (.slice Ak m ck) := by rw [hb1.cell (p := ⟨b, off + pn, none⟩) hb]; exact HO1.out
         have hbz1 := hb1.size
         have HI1 := Lib.hid (HI.out.below hb1)
         clear hb1)
      | (go_at_call 33; refine (l1Has_any _ _ _ xs qn _ (by omega) HI1.out).mono ?_; rw [HH.out]; rintro e wq ⟨rfl, hwq⟩; have hwz := hwq.symm; clear hwq; subst hwz))
    refine bodyPost_ret (v := .tuple #[.agg #[.int .i64 0, .slice none 0 0], .bool false]) (by simp [results, Try.results20, go_sem, s0, s1]) rfl ?_
    unfold tpD tpK
    rw [HD.out]
    exact pinsOut_no rfl ((HB1.out.setCell (p := ⟨w.heap.size + 1, 0, none⟩) (by show w.heap.size ≤ w.heap.size + 1; omega) _).setCell (p := ⟨w.heap.size + 1, 1, none⟩) (by show w.heap.size ≤ w.heap.size + 1; omega) _)
  by_cases hm1 : m = 1
  · have HD : Hid (tpB (dn : Int) ks (pn : Int) (qn : Int) = false) := Lib.hid (by rw [HTB2.out, decide_eq_true hm1]; rfl)
    have hm1e : ((m : Int) == 1) = true := by rw [hm1]; rfl
    clear hm1
    go_enter Try.func20, Try.ntmps20
    go_wp2_with (first
      | (go_at_call 32; refine (kePlace_any _ _ _ _ ks _ _ _ hm HA.out).mono ?_; rw [HX.out]; rintro e w1 ⟨rfl, hb1⟩
         have CP1 := Lib.hid (CP.out.call hb1)
         have CQ1 := Lib.hid (CQ.out.call hb1)
         have HB1 := Lib.hid (bel_call HB0.out hb1)
         have z1 : w.heap.size + 2 ≤ w1.heap.size := Nat.le_trans z0 hb1.size
         have HA1 := Lib.hid (HA.out.below hb1)
         have p0 : w1.cell? ⟨w.heap.size, 0, none⟩ = some (.int .i64 (dn : Int)) := CP1.out.cell (show 0 < 2 by omega)
         have p1 : w1.cell? ⟨w.heap.size, 1, none⟩ = some (.slice (some ⟨b, off, none⟩) n c) := CP1.out.cell (show 1 < 2 by omega)
         have s0 : w1.cell? ⟨w.heap.size + 1, 0, none⟩ = some (.int .i64 0) := CQ1.out.cell (show 0 < 2 by omega)
         have s1 : w1.cell? ⟨w.heap.size + 1, 1, none⟩ = some (.slice none 0 0) := CQ1.out.cell (show 1 < 2 by omega)
         have f0 := CQ1.out.frozen (show 0 < 2 by omega)
         have f1 := CQ1.out.frozen (show 1 < 2 by omega)
         have o1 : w1.cell? ⟨b, off + pn, none⟩ = some (.slice Ak m ck) := by rw [hb1.cell (p := ⟨b, off + pn, none⟩) hb]; exact HO1.out
         have hbz1 := hb1.size
         have HI1 := Lib.hid (HI.out.below hb1)
         clear hb1)
      | (go_at_call 33; refine (l1Has_any _ _ _ xs qn _ (by omega) HI1.out).mono ?_; rw [HH.out]; rintro e wq ⟨rfl, hwq⟩; have hwz := hwq.symm; clear hwq; subst hwz))
    refine bodyPost_ret (v := .tuple #[.agg #[.int .i64 0, .slice none 0 0], .bool false]) (by simp [results, Try.results20, go_sem, s0, s1]) rfl ?_
    unfold tpD tpK
    rw [HD.out]
    exact pinsOut_no rfl ((HB1.out.setCell (p := ⟨w.heap.size + 1, 0, none⟩) (by show w.heap.size ≤ w.heap.size + 1; omega) _).setCell (p := ⟨w.heap.size + 1, 1, none⟩) (by show w.heap.size ≤ w.heap.size + 1; omega) _)
  have HD : Hid (tpB (dn : Int) ks (pn : Int) (qn : Int) = true) := Lib.hid (by rw [HTB2.out, decide_eq_false hm1]; rfl)
  have HK := Lib.hid (HTK.out HD.out)
  have hm1e : ((m : Int) == 1) = false := by rw [beq_eq_false_iff_ne]; omega
  obtain ⟨i0, hi, hy0, hy1, hy2⟩ := info_parts info_int
  clear hm1
  go_enter Try.func20, Try.ntmps20
  go_wp2_with (first
    | (go_at_call 32; refine (kePlace_any _ _ _ _ ks _ _ _ hm HA.out).mono ?_; rw [HX.out]; rintro e w1 ⟨rfl, hb1⟩
       have CP1 := Lib.hid (CP.out.call hb1)
       have CQ1 := Lib.hid (CQ.out.call hb1)
       have HB1 := Lib.hid (bel_call HB0.out hb1)
       have z1 : w.heap.size + 2 ≤ w1.heap.size := Nat.le_trans z0 hb1.size
       have HA1 := Lib.hid (HA.out.below hb1)
       have p0 : w1.cell? ⟨w.heap.size, 0, none⟩ = some (.int .i64 (dn : Int)) := CP1.out.cell (show 0 < 2 by omega)
       have p1 : w1.cell? ⟨w.heap.size, 1, none⟩ = some (.slice (some ⟨b, off, none⟩) n c) := CP1.out.cell (show 1 < 2 by omega)
       have s0 : w1.cell? ⟨w.heap.size + 1, 0, none⟩ = some (.int .i64 0) := CQ1.out.cell (show 0 < 2 by omega)
       have s1 : w1.cell? ⟨w.heap.size + 1, 1, none⟩ = some (.slice none 0 0) := CQ1.out.cell (show 1 < 2 by omega)
       have f0 := CQ1.out.frozen (show 0 < 2 by omega)
       have f1 := CQ1.out.frozen (show 1 < 2 by omega)
       have o1 : w1.cell? ⟨b, off + pn, none⟩ = some (.slice Ak m ck) := by rw [hb1.cell (p := ⟨b, off + pn, none⟩) hb]; exact HO1.out
       have hbz1 := hb1.size
       have HI1 := Lib.hid (HI.out.below hb1)
       clear hb1)
    | (go_at_call 33; refine (l1Has_any _ _ _ xs qn _ (by omega) HI1.out).mono ?_; rw [HH.out]; rintro e wq ⟨rfl, hwq⟩; have hwz := hwq.symm; clear hwq; subst hwz)
    | (go_at_call 34; refine (keOwn_any _ _ _ _ ks _ (by omega) HA1.out H9.out).mono ?_; rintro e w2 ⟨v2, rfl, hR2, hb2⟩
       obtain ⟨g0, c2, rfl⟩ : ∃ g0 c2, v2 = .slice (some ⟨g0, 0, none⟩) n c2 := by
         obtain ⟨G, vs, _, hv2, _, _⟩ := hR2.own
         rw [HL.out] at hv2
         obtain ⟨g0, c2, e, _⟩ := hv2.form (by omega)
         exact ⟨g0, c2, e⟩
       obtain ⟨W3, hW3⟩ : ∃ W, w2.alloc (.cells #[.int .i64 (dn : Int), .slice (some ⟨g0, 0, none⟩) n c2] 34) = W := ⟨_, rfl⟩
       have hb3 : Below w2.heap.size w2 W3 := by rw [← hW3]; exact (Below.refl _ _).alloc (Nat.le_refl _) _
       obtain ⟨U, hU⟩ : ∃ U, w2.heap.size = U := ⟨_, rfl⟩
       have CX3 : Hid (Cells W3 U 2 (pF (dn : Int) (.slice (some ⟨g0, 0, none⟩) n c2))) := Lib.hid (by rw [← hW3]; exact Cells.new (n := 2) hU.symm rfl)
       have HR3 := Lib.hid (hR2.call hb3)
       have CP3 := Lib.hid ((CP1.out.call hb2).call hb3)
       have CQ3 := Lib.hid ((CQ1.out.call hb2).call hb3)
       have HB3 := Lib.hid (bel_call (bel_call HB1.out hb2) hb3)
       have HI3 := Lib.hid ((HI1.out.below hb2).below hb3)
       have o1 : W3.cell? ⟨b, off + pn, none⟩ = some (.slice Ak m ck) := by rw [(hb2.trans (hb3.mono hb2.size)).cell (p := ⟨b, off + pn, none⟩) (Nat.lt_of_lt_of_le hb hbz1)]; exact o1
       have zB : w1.heap.size ≤ W3.heap.size := Nat.le_trans hb2.size hb3.size
       have zU : U < W3.heap.size := CX3.out.lt
       have zg : g0 < U := by
         obtain ⟨G, vs, _, hv2, _, _⟩ := hR2.own
         rw [← hU]
         exact (hv2.lt g0 rfl).2
       have p0 : W3.cell? ⟨w.heap.size, 0, none⟩ = some (.int .i64 (dn : Int)) := CP3.out.cell (show 0 < 2 by omega)
       have p1 : W3.cell? ⟨w.heap.size, 1, none⟩ = some (.slice (some ⟨b, off, none⟩) n c) := CP3.out.cell (show 1 < 2 by omega)
       have s0 : W3.cell? ⟨w.heap.size + 1, 0, none⟩ = some (.int .i64 0) := CQ3.out.cell (show 0 < 2 by omega)
       have s1 : W3.cell? ⟨w.heap.size + 1, 1, none⟩ = some (.slice none 0 0) := CQ3.out.cell (show 1 < 2 by omega)
       have f0 := CQ3.out.frozen (show 0 < 2 by omega)
       have f1 := CQ3.out.frozen (show 1 < 2 by omega)
       have x0 : W3.cell? ⟨U, 0, none⟩ = some (.int .i64 (dn : Int)) := CX3.out.cell (show 0 < 2 by omega)
       have x1 : W3.cell? ⟨U, 1, none⟩ = some (.slice (some ⟨g0, 0, none⟩) n c2) := CX3.out.cell (show 1 < 2 by omega)
       clear hR2 hb2 hb3))
  have hown := HR3.out
  go_loopw [9, 45] (fun u i wr => ∃ k : Nat, k ≤ m ∧ i = .int .i64 (k : Nat) ∧ wr.ownsRow W3.heap.size 3 1 u (tkL qn (xs.take k)).length (iv (tkL qn (xs.take k))) ∧ Below W3.heap.size W3 wr) (fun _ i _ => m - (intOf i).toNat)
  case atStart => exact ⟨0, by omega, rfl, World.ownsRow_nil _ _ _ _, Below.refl _ _⟩
  case round =>
    clear p0 p1 s0 s1 f0 f1 o1 x0 x1 hown
    obtain ⟨k, hk, rfl, hO, hB⟩ := hrel
    have HO := Lib.hid hO
    have HB := Lib.hid hB
    have hsz := hB.size
    clear hO hB
    by_cases hlt : k < m
    · have hki : (k : Int) < (m : Int) := by omega
      obtain ⟨b2, off2, rfl, hb2, hc2⟩ := (HI3.out.below HB.out).at_.resolve_left (by omega)
      have o2 := hc2 k hlt
      have HTS := Lib.hid (tk_snoc (d := qn) (xs := xs) (k := k) (by rw [HML.out]; exact hlt))
      have hll : (tkL qn (xs.take k)).length ≤ 9 := Nat.le_trans (tk_length _ _) (by rw [List.length_take]; omega)
      obtain ⟨y, hy⟩ : ∃ y, xs.getD k 0 = y := ⟨_, rfl⟩
      rw [hy] at o2 HTS
      clear hy hc2
      by_cases hyq : y = (qn : Int)
      · have HT : Hid (tkL qn (xs.take (k + 1)) = tkL qn (xs.take k)) := Lib.hid (by rw [HTS.out, if_pos hyq])
        have hye : (y == (qn : Int)) = true := by rw [hyq]; exact beq_self_eq_true _
        have hyn : (y != (qn : Int)) = false := by rw [bne, hye]; rfl
        clear hyq
        go_wp2_with fail
        go_roundw
        case rel => exact ⟨k + 1, by omega, by go_num, by rw [HT.out]; exact HO.out, HB.out⟩
        case measure => simp [intOf]; omega
      · have HT : Hid (tkL qn (xs.take (k + 1)) = tkL qn (xs.take k) ++ [y]) := Lib.hid (by rw [HTS.out, if_neg hyq])
        have hye : (y == (qn : Int)) = false := by rw [beq_eq_false_iff_ne]; exact hyq
        have hyn : (y != (qn : Int)) = true := by rw [bne, hye]; rfl
        clear hyq
        go_wp2_with (at_builtin; refine wpList_append_own _ rfl _ _ 54 rfl W3.heap.size 3 i0 (.int .i64 0) 1 8 Try.underlying54 hi hy0 hy1 hy2 rfl (by decide) _ _ _ rfl (HO.out.alloc _) ⟨wr.heap.size, 0, none⟩ 1 1 [.int .i64 y] rfl rfl (newv_one rfl) (by simp [Value.oneCell']) (by unfold maxLen; omega) (by omega) (by simp; omega) ?_; intro v9 w9 hown9 hgrow9 hiff9; clear hiff9)
        have HO9 : Hid (w9.ownsRow W3.heap.size 3 1 v9 (tkL qn (xs.take (k + 1))).length (iv (tkL qn (xs.take (k + 1))))) := Lib.hid (by rw [HT.out, List.length_append, iv, List.map_append]; exact hown9)
        have HB9 : Hid (Below W3.heap.size W3 w9) := Lib.hid ((HB.out.alloc hsz _).grown hgrow9 (by simp; omega) (fun j hj => (HO.out.lt j hj).1))
        clear hown9 hgrow9
        go_wp2_with fail
        go_roundw
        case rel => exact ⟨k + 1, by omega, by go_num, HO9.out, HB9.out⟩
        case measure => simp [intOf]; omega
    · obtain rfl : k = m := by omega
      have hki : ¬ ((k : Int) < (k : Int)) := by omega
      rw [List.take_of_length_le (by rw [HML.out]; exact Nat.le_refl _)] at HO
      obtain ⟨AL, cL, rfl, hLo⟩ := own_list rfl HO.out
      obtain ⟨gL, hCL⟩ := listOut_at hLo
      have CXr := Lib.hid (CX3.out.call HB.out)
      have CQr := Lib.hid (CQ3.out.call HB.out)
      have x0 : wr.cell? ⟨U, 0, none⟩ = some (.int .i64 (dn : Int)) := CXr.out.cell (show 0 < 2 by omega)
      have x1 : wr.cell? ⟨U, 1, none⟩ = some (.slice (some ⟨g0, 0, none⟩) n c2) := CXr.out.cell (show 1 < 2 by omega)
      have hks : ks.length = n := HL.out
      have HP := Lib.hid (RowP.put (k := pn) (c := cL) (A' := AL) HR3.out HB.out (by rw [hks]; exact hpn) rfl (hCL.imp id fun ⟨e, h1, h2⟩ => ⟨e, h1, Nat.le_trans zB h1, h2⟩))
      have hRr := HR3.out.call HB.out
      obtain ⟨G, vs, hv1, hv2, hv3, hv4⟩ := hRr.own
      rw [hks] at hv2
      have y0 : wr.cell? ⟨g0, pn, none⟩ = some (vs.getD pn undef) := by
        rw [hv2.cellAt pn (by omega)]
        simp [List.getD, List.getElem?_eq_getElem (show pn < vs.length by omega)]
      have yf : wr.frozen? ⟨g0, pn, none⟩ = false := hv2.frozenAt pn
      obtain ⟨_, _, hvp, _⟩ := hv3 pn (by rw [hks]; exact hpn)
      have hgB := (hv2.lt g0 rfl).1
      clear hLo hCL hv1 hv2 hv3 hv4 hRr
      obtain ⟨W6, hW6⟩ : ∃ W, wr.setCell ⟨g0, pn, none⟩ (.slice AL (tkL qn xs).length cL) = W := ⟨_, rfl⟩
      rw [hW6] at HP
      have CX6 := Lib.hid (show Cells W6 U 2 _ from hW6 ▸ CXr.out.far (by show g0 ≠ U; omega) _)
      have CQ6 := Lib.hid (show Cells W6 (w.heap.size + 1) 2 _ from hW6 ▸ CQr.out.far (by show g0 ≠ w.heap.size + 1; omega) _)
      have HB6 := Lib.hid (show Below w.heap.size w W6 from hW6 ▸ (bel_call HB3.out HB.out).setCell (by show w.heap.size ≤ g0; omega) _)
      have HSL : Hid ((ks.set pn (tkL qn xs)).length = n) := Lib.hid (by rw [List.length_set, hks])
      have e0 : W6.cell? ⟨U, 0, none⟩ = some (.int .i64 (dn : Int)) := CX6.out.cell (show 0 < 2 by omega)
      have e1 : W6.cell? ⟨U, 1, none⟩ = some (.slice (some ⟨g0, 0, none⟩) n c2) := CX6.out.cell (show 1 < 2 by omega)
      have s0 : W6.cell? ⟨w.heap.size + 1, 0, none⟩ = some (.int .i64 0) := CQ6.out.cell (show 0 < 2 by omega)
      have s1 : W6.cell? ⟨w.heap.size + 1, 1, none⟩ = some (.slice none 0 0) := CQ6.out.cell (show 1 < 2 by omega)
      have f0 := CQ6.out.frozen (show 0 < 2 by omega)
      have f1 := CQ6.out.frozen (show 1 < 2 by omega)
      go_wp2_with fail
      refine bodyPost_ret (v := .tuple #[.agg #[.int .i64 (dn : Int), .slice (some ⟨g0, 0, none⟩) n c2], .bool true]) (by simp [results, Try.results20, go_sem, s0, s1]) rfl ?_
      rw [HK.out, HD.out]
      unfold tpD
      rw [HD.out]
      exact ⟨_, rfl, ((HP.out.under (by show w.heap.size + 1 < _; omega) _).under (by show w.heap.size + 1 < _; omega) _).weak (by omega), (HB6.out.setCell (p := ⟨w.heap.size + 1, 0, none⟩) (by show w.heap.size ≤ w.heap.size + 1; omega) _).setCell (p := ⟨w.heap.size + 1, 1, none⟩) (by show w.heap.size ≤ w.heap.size + 1; omega) _⟩

end Go.Proofs.Ytbfildegnbbinaa
