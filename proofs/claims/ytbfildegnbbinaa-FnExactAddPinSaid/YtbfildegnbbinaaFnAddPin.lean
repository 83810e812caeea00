/- For every input at which the law FnExactAddPin can be called it answers true and leaves its arguments as they were. No conditions. -/
import Derived.Test.YtbfildegnbbinaaZd
import Derived.Test.YtbfildegnbbinaaFacts
namespace Go.Proofs.Ytbfildegnbbinaa.fnExactAddPin
open Go.ChangeShapes Go.WideShapes Go.ChangeAt Go.RowKit Go.Joins
open Go.ChangeMaps (open_string shut_string)

set_option maxHeartbeats 4000000 in
theorem lawAddPin_true (a : Int) (A : Option Addr) (n c : Nat) (ks : List (List Int)) (_ : (Lit.int .i64 a).wf = true) {w : World} (hA : KnobsA w A n ks) (hn : n ≤ maxLen) (p : Int) (_ : (Lit.int .i64 p).wf = true) (q : Int) (_ : (Lit.int .i64 q).wf = true) (_ : World) :
    Calls Try.prog 4 #[.agg #[.int .i64 a, .slice A n c], .int .i64 p, .int .i64 q] w fun e w' => e = .returned (.bool true) ∧ Below w.heap.size w w' := by
  obtain rfl := hA.len
  have HA := Lib.hid hA
  unfold maxLen at hn
  clear hA
  obtain ⟨za, hz0⟩ : ∃ x, apD a ks p q = x := ⟨_, rfl⟩
  obtain ⟨zk, hz2⟩ : ∃ x, apK a ks p q = x := ⟨_, rfl⟩
  obtain ⟨zo, hz3⟩ : ∃ x, apB a ks p q = x := ⟨_, rfl⟩
  have HZ0 := Lib.hid hz0
  have HZ2 := Lib.hid hz2
  have HZ3 := Lib.hid hz3
  have HNE := Lib.hid (show ∀ i, i < zk.length → (zk.getD i []).length ≠ 0 from by rw [← HZ2.out]; exact apK_ne)
  clear hz0 hz2 hz3
  go_enter Try.func4, Try.ntmps4
  go_wp2_with fail
  have CU : Cells (w.alloc (.cells #[.int .i64 a, .slice A ks.length c] 32)) w.heap.size 2 (pF (a) (.slice A ks.length c)) := Cells.new (n := 2) rfl rfl
  have hB0 : Below w.heap.size w (w.alloc (.cells #[.int .i64 a, .slice A ks.length c] 32)) := (Below.refl _ _).alloc (Nat.le_refl _) _
  refine (szPins_any _ _ _ _ ks _ (by omega) (HA.out.below hB0)).mono ?_
  rintro e w1 ⟨⟨r, rfl, hr⟩, hb1⟩
  have DG1 := Lib.hid (CU.call hb1)
  have X1 := Lib.hid (bel_call hB0 hb1)
  clear CU hB0 hb1
  by_cases hr0 : r < 0
  · go_wp2_with fail
    go_ret
    exact ⟨rfl, X1.out⟩
  · have hm := hr (by omega)
    have HM : Hid (zk.length + lensAt zk zk.length ≤ 1048576) := Lib.hid (by have := apK_size (d := a) (ks := ks) (p := p) (q := q); rw [HZ2.out] at this; omega)
    clear hr
    have l0_1 : w1.cell? ⟨w.heap.size, 0, none⟩ = some (.int .i64 a) := DG1.out.cell (show 0 < 2 by omega)
    have l1_1 : w1.cell? ⟨w.heap.size, 1, none⟩ = some (.slice A ks.length c) := DG1.out.cell (show 1 < 2 by omega)
    go_wp2_with fail
    refine (toPins_any _ _ _ _ ks _ hm (HA.out.below X1.out)).mono ?_
    rintro e w2 ⟨g1, rfl, hg1, ⟨G1, hG1⟩, hb2⟩
    go_wp2_with fail
    refine (specAddPin_any _ _ _ _ ks _ _ _ hm (hG1.knobs rfl hm)).mono ?_
    intro e w3 h3
    obtain ⟨A0, c0, rfl, k0, hb3⟩ := h3.kd (by rw [HZ2.out]; exact HNE.out)
    rw [HZ2.out] at k0
    rw [HZ0.out, HZ2.out, HZ3.out]
    have DG3 := Lib.hid ((DG1.out.call hb2).call hb3)
    have X3 := Lib.hid (bel_call (bel_call X1.out hb2) hb3)
    have K0 := Lib.hid k0
    have n3 : w.heap.size < w2.heap.size ∧ w2.heap.size ≤ w3.heap.size := ⟨Nat.lt_of_lt_of_le DG1.out.lt hb2.size, hb3.size⟩
    clear l0_1 l1_1
    clear hg1 hG1 hb2 hb3 h3 k0
    have l0_3 : w3.cell? ⟨w.heap.size, 0, none⟩ = some (.int .i64 a) := DG3.out.cell (show 0 < 2 by omega)
    have l1_3 : w3.cell? ⟨w.heap.size, 1, none⟩ = some (.slice A ks.length c) := DG3.out.cell (show 1 < 2 by omega)
    have l0_3n : (w3.alloc (.cells #[.int .i64 za, .slice A0 zk.length c0] 34)).cell? ⟨w.heap.size, 0, none⟩ = some (.int .i64 a) := (DG3.out.alloc _).cell (show 0 < 2 by omega)
    have l1_3n : (w3.alloc (.cells #[.int .i64 za, .slice A0 zk.length c0] 34)).cell? ⟨w.heap.size, 1, none⟩ = some (.slice A ks.length c) := (DG3.out.alloc _).cell (show 1 < 2 by omega)
    go_wp2_with fail
    have CX : Cells (w3.alloc (.cells #[.int .i64 za, .slice A0 zk.length c0] 34)) w3.heap.size 2 (pF (za) (.slice A0 zk.length c0)) := Cells.new (n := 2) rfl rfl
    have hbx : Below w3.heap.size w3 (w3.alloc (.cells #[.int .i64 za, .slice A0 zk.length c0] 34)) := (Below.refl _ _).alloc (Nat.le_refl _) _
    refine (toPins_any _ _ _ _ ks _ hm (HA.out.below (bel_call X3.out hbx))).mono ?_
    rintro e w4 ⟨g2, rfl, hg2, ⟨G2, hG2⟩, hb4⟩
    have DG4 := Lib.hid ((DG3.out.call hbx).call hb4)
    have X4 := Lib.hid (bel_call (bel_call X3.out hbx) hb4)
    have DX4 := Lib.hid (CX.call hb4)
    have K04 := Lib.hid ((K0.out.call hbx).call hb4)
    rw [World.size_alloc] at hg2
    have n4 : w3.heap.size + 1 ≤ w4.heap.size := by have := hb4.size; rw [World.size_alloc] at this; exact this
    have KH4 := Lib.hid (hG2.kdP rfl hg2)
    have HG2 := Lib.hid hG2
    clear CX hbx hb4 hG2 DG3 X3 DG1 X1 K0
    clear l0_3 l1_3
    clear l0_3n l1_3n
    obtain ⟨L0, hL0⟩ : ∃ U, w2.heap.size = U := ⟨_, rfl⟩
    obtain ⟨U1, hU1⟩ : ∃ U, w3.heap.size = U := ⟨_, rfl⟩
    rw [hU1] at DX4 KH4 hg2 n3 n4 ⊢
    rw [hL0] at n3
    rw [hL0, hU1] at K04
    clear hL0 hU1
    have l0_4 : w4.cell? ⟨w.heap.size, 0, none⟩ = some (.int .i64 a) := DG4.out.cell (show 0 < 2 by omega)
    have l1_4 : w4.cell? ⟨w.heap.size, 1, none⟩ = some (.slice A ks.length c) := DG4.out.cell (show 1 < 2 by omega)
    have x0_4 : w4.cell? ⟨U1, 0, none⟩ = some (.int .i64 za) := DX4.out.cell (show 0 < 2 by omega)
    have x1_4 : w4.cell? ⟨U1, 1, none⟩ = some (.slice A0 zk.length c0) := DX4.out.cell (show 1 < 2 by omega)
    go_wp2_with fail
    have CY : Cells (w4.alloc (.cells #[.int .i64 a, .slice (some ⟨g2, 0, none⟩) ks.length ks.length] 34)) w4.heap.size 2 (pF (a) (.slice (some ⟨g2, 0, none⟩) ks.length ks.length)) := Cells.new (n := 2) rfl rfl
    have hby : Below w4.heap.size w4 (w4.alloc (.cells #[.int .i64 a, .slice (some ⟨g2, 0, none⟩) ks.length ks.length] 34)) := (Below.refl _ _).alloc (Nat.le_refl _) _
    refine (addPin_any _ _ _ _ ks _ _ _ hm ((HG2.out.knobs rfl hm).below hby)).mono ?_
    intro e w5 h5
    obtain ⟨A1, c1, rfl, k1, hb5⟩ := h5.kd (by rw [HZ2.out]; exact HNE.out)
    rw [HZ2.out] at k1
    rw [HZ0.out, HZ2.out, HZ3.out]
    rw [World.size_alloc] at k1
    have DG5 := Lib.hid ((DG4.out.call hby).call hb5)
    have DX5 := Lib.hid ((DX4.out.call hby).call hb5)
    have DH5 := Lib.hid (CY.call hb5)
    have X5 := Lib.hid (bel_call (bel_call X4.out hby) hb5)
    have K05 := Lib.hid ((K04.out.call hby).call hb5)
    have KH5 := Lib.hid ((KH4.out.call hby).call hb5)
    have K15 := Lib.hid k1
    have n5 : w4.heap.size + 1 ≤ w5.heap.size := by have := hb5.size; rw [World.size_alloc] at this; exact this
    clear CY hby hb5 k1 HG2 DG4 X4 DX4 K04 KH4
    clear l0_4 l1_4 x0_4 x1_4
    obtain ⟨U2, hU2⟩ : ∃ U, w4.heap.size = U := ⟨_, rfl⟩
    rw [hU2] at DH5 KH5 K15 n4 n5 ⊢
    clear hU2
    have l0_5 : w5.cell? ⟨w.heap.size, 0, none⟩ = some (.int .i64 a) := DG5.out.cell (show 0 < 2 by omega)
    have l1_5 : w5.cell? ⟨w.heap.size, 1, none⟩ = some (.slice A ks.length c) := DG5.out.cell (show 1 < 2 by omega)
    have x0_5 : w5.cell? ⟨U1, 0, none⟩ = some (.int .i64 za) := DX5.out.cell (show 0 < 2 by omega)
    have x1_5 : w5.cell? ⟨U1, 1, none⟩ = some (.slice A0 zk.length c0) := DX5.out.cell (show 1 < 2 by omega)
    have h0_5 : w5.cell? ⟨U2, 0, none⟩ = some (.int .i64 a) := DH5.out.cell (show 0 < 2 by omega)
    have h1_5 : w5.cell? ⟨U2, 1, none⟩ = some (.slice (some ⟨g2, 0, none⟩) ks.length ks.length) := DH5.out.cell (show 1 < 2 by omega)
    have x0_5n : (w5.alloc (.cells #[.int .i64 za, .slice A1 zk.length c1] 34)).cell? ⟨U1, 0, none⟩ = some (.int .i64 za) := (DX5.out.alloc _).cell (show 0 < 2 by omega)
    have x1_5n : (w5.alloc (.cells #[.int .i64 za, .slice A1 zk.length c1] 34)).cell? ⟨U1, 1, none⟩ = some (.slice A0 zk.length c0) := (DX5.out.alloc _).cell (show 1 < 2 by omega)
    go_wp2_with fail
    have CZ : Cells (w5.alloc (.cells #[.int .i64 za, .slice A1 zk.length c1] 34)) w5.heap.size 2 (pF (za) (.slice A1 zk.length c1)) := Cells.new (n := 2) rfl rfl
    have hbz : Below w5.heap.size w5 (w5.alloc (.cells #[.int .i64 za, .slice A1 zk.length c1] 34)) := (Below.refl _ _).alloc (Nat.le_refl _) _
    refine (eqKD_any _ _ _ _ _ _ _ _ _ _ _ HM.out (K15.out.call hbz) (K05.out.call hbz)).mono ?_
    rintro e w6 ⟨rfl, hb6⟩
    have DG6 := Lib.hid ((DG5.out.call hbz).call hb6)
    have DX6 := Lib.hid ((DX5.out.call hbz).call hb6)
    have DH6 := Lib.hid ((DH5.out.call hbz).call hb6)
    have DY6 := Lib.hid (CZ.call hb6)
    have X6 := Lib.hid (bel_call (bel_call X5.out hbz) hb6)
    have K06 := Lib.hid ((K05.out.call hbz).call hb6)
    have KH6 := Lib.hid ((KH5.out.call hbz).call hb6)
    have K16 := Lib.hid ((K15.out.call hbz).call hb6)
    have n6 : w5.heap.size + 1 ≤ w6.heap.size := by have := hb6.size; rw [World.size_alloc] at this; exact this
    clear CZ hbz hb6 DG5 DX5 DH5 X5 K05 KH5 K15
    clear l0_5 l1_5 x0_5 x1_5 h0_5 h1_5
    clear x0_5n x1_5n
    obtain ⟨U3, hU3⟩ : ∃ U, w5.heap.size = U := ⟨_, rfl⟩
    rw [hU3] at DY6 K16 n5 n6 ⊢
    clear hU3
    have l0_6 : w6.cell? ⟨w.heap.size, 0, none⟩ = some (.int .i64 a) := DG6.out.cell (show 0 < 2 by omega)
    have l1_6 : w6.cell? ⟨w.heap.size, 1, none⟩ = some (.slice A ks.length c) := DG6.out.cell (show 1 < 2 by omega)
    have x0_6 : w6.cell? ⟨U1, 0, none⟩ = some (.int .i64 za) := DX6.out.cell (show 0 < 2 by omega)
    have x1_6 : w6.cell? ⟨U1, 1, none⟩ = some (.slice A0 zk.length c0) := DX6.out.cell (show 1 < 2 by omega)
    have h0_6 : w6.cell? ⟨U2, 0, none⟩ = some (.int .i64 a) := DH6.out.cell (show 0 < 2 by omega)
    have h1_6 : w6.cell? ⟨U2, 1, none⟩ = some (.slice (some ⟨g2, 0, none⟩) ks.length ks.length) := DH6.out.cell (show 1 < 2 by omega)
    have y0_6 : w6.cell? ⟨U3, 0, none⟩ = some (.int .i64 za) := DY6.out.cell (show 0 < 2 by omega)
    have y1_6 : w6.cell? ⟨U3, 1, none⟩ = some (.slice A1 zk.length c1) := DY6.out.cell (show 1 < 2 by omega)
    go_wp2_with fail
    go_region_with (first
      | (go_at_call 15; refine (toPins_any _ _ _ _ ks _ hm (HA.out.below (bel_drew X6.out))).mono ?_; rintro e w7 ⟨g3, rfl, hg3, ⟨G3, hG3⟩, hb7⟩
         have HB7 := Lib.hid (show Below w6.heap.size w6 w7 from below_undrew hb7)
         have DH7 := Lib.hid (DH6.out.call HB7.out)
         have KH7 := Lib.hid ((KH6.out.call HB7.out).knobsA hm)
         have KG7 := Lib.hid (hG3.knobs rfl hm)
         have h0_7 : w7.cell? ⟨U2, 0, none⟩ = some (.int .i64 a) := DH7.out.cell (show 0 < 2 by omega)
         have h1_7 : w7.cell? ⟨U2, 1, none⟩ = some (.slice (some ⟨g2, 0, none⟩) ks.length ks.length) := DH7.out.cell (show 1 < 2 by omega)
         clear hb7 hG3 hg3)
      | (go_at_call 17; refine (eqPins_any _ _ _ _ _ _ ks _ hm KH7.out KG7.out).mono ?_; rintro e w8 ⟨rfl, hb8⟩))
    all_goals
      have B8 := Lib.hid (bel_call HB7.out hb8)
      have X8 := Lib.hid (bel_call X6.out B8.out)
      have n8 := B8.out.size
      have DG8 := Lib.hid (DG6.out.call B8.out)
      have DX8 := Lib.hid (DX6.out.call B8.out)
      have DH8 := Lib.hid (DH6.out.call B8.out)
      have DY8 := Lib.hid (DY6.out.call B8.out)
      have K08 := Lib.hid (K06.out.call B8.out)
      have KH8 := Lib.hid (KH6.out.call B8.out)
      have K18 := Lib.hid (K16.out.call B8.out)
      clear hb8 h0_7 h1_7 HB7 DH7 KH7 KG7 B8 DG6 DX6 DH6 DY6 K06 KH6 K16 X6
      clear l0_6 l1_6 x0_6 x1_6 h0_6 h1_6 y0_6 y1_6
      have l0_8 : w8.cell? ⟨w.heap.size, 0, none⟩ = some (.int .i64 a) := DG8.out.cell (show 0 < 2 by omega)
      have l1_8 : w8.cell? ⟨w.heap.size, 1, none⟩ = some (.slice A ks.length c) := DG8.out.cell (show 1 < 2 by omega)
      have x0_8 : w8.cell? ⟨U1, 0, none⟩ = some (.int .i64 za) := DX8.out.cell (show 0 < 2 by omega)
      have x1_8 : w8.cell? ⟨U1, 1, none⟩ = some (.slice A0 zk.length c0) := DX8.out.cell (show 1 < 2 by omega)
      have h0_8 : w8.cell? ⟨U2, 0, none⟩ = some (.int .i64 a) := DH8.out.cell (show 0 < 2 by omega)
      have h1_8 : w8.cell? ⟨U2, 1, none⟩ = some (.slice (some ⟨g2, 0, none⟩) ks.length ks.length) := DH8.out.cell (show 1 < 2 by omega)
      have y0_8 : w8.cell? ⟨U3, 0, none⟩ = some (.int .i64 za) := DY8.out.cell (show 0 < 2 by omega)
      have y1_8 : w8.cell? ⟨U3, 1, none⟩ = some (.slice A1 zk.length c1) := DY8.out.cell (show 1 < 2 by omega)
      go_wp2_with fail
      refine (markKD_any _ _ _ _ _ _ _ _ hm KH8.out).mono ?_
      rintro e w9 ⟨rfl, m1, m2, m3⟩
      have KM9 := Lib.hid m1
      have b9 := m2 w.heap.size (by omega) (by omega)
      have s9 : w8.heap.size ≤ w9.heap.size := (m2 0 (Nat.zero_le _) (Nat.zero_le _)).size
      have X9 := Lib.hid (X8.out.trans b9)
      have DG9 := Lib.hid (m3 _ _ _ (by omega) DG8.out)
      have DX9 := Lib.hid (m3 _ _ _ (by omega) DX8.out)
      have DH9 := Lib.hid (m3 _ _ _ (by omega) DH8.out)
      have DY9 := Lib.hid (m3 _ _ _ (by omega) DY8.out)
      have K09 := Lib.hid (K08.out.keep (lo2 := U1 + 1) (hi2 := U2) (by omega) m3)
      have K19 := Lib.hid (K18.out.keep (lo2 := U1 + 1) (hi2 := U2) (by omega) m3)
      clear m1 m2 m3 b9 DG8 DX8 DH8 DY8 K08 KH8 K18 X8
      clear l0_8 l1_8 x0_8 x1_8 h0_8 h1_8 y0_8 y1_8
      have l0_9 : w9.cell? ⟨w.heap.size, 0, none⟩ = some (.int .i64 a) := DG9.out.cell (show 0 < 2 by omega)
      have l1_9 : w9.cell? ⟨w.heap.size, 1, none⟩ = some (.slice A ks.length c) := DG9.out.cell (show 1 < 2 by omega)
      have x0_9 : w9.cell? ⟨U1, 0, none⟩ = some (.int .i64 za) := DX9.out.cell (show 0 < 2 by omega)
      have x1_9 : w9.cell? ⟨U1, 1, none⟩ = some (.slice A0 zk.length c0) := DX9.out.cell (show 1 < 2 by omega)
      have h0_9 : w9.cell? ⟨U2, 0, none⟩ = some (.int .i64 a) := DH9.out.cell (show 0 < 2 by omega)
      have h1_9 : w9.cell? ⟨U2, 1, none⟩ = some (.slice (some ⟨g2, 0, none⟩) ks.length ks.length) := DH9.out.cell (show 1 < 2 by omega)
      have y0_9 : w9.cell? ⟨U3, 0, none⟩ = some (.int .i64 za) := DY9.out.cell (show 0 < 2 by omega)
      have y1_9 : w9.cell? ⟨U3, 1, none⟩ = some (.slice A1 zk.length c1) := DY9.out.cell (show 1 < 2 by omega)
      go_wp2_with fail
      refine (eqKD_any _ _ _ _ _ _ _ _ _ _ _ HM.out K19.out K09.out).mono ?_
      rintro e w10 ⟨rfl, hb10⟩
      have DG10 := Lib.hid (DG9.out.call hb10)
      have DX10 := Lib.hid (DX9.out.call hb10)
      have DH10 := Lib.hid (DH9.out.call hb10)
      have DY10 := Lib.hid (DY9.out.call hb10)
      have K010 := Lib.hid (K09.out.call hb10)
      have K110 := Lib.hid (K19.out.call hb10)
      have X10 := Lib.hid (bel_call X9.out hb10)
      have s10 := hb10.size
      clear hb10 DG9 DX9 DH9 DY9 K09 K19 X9
      clear l0_9 l1_9 x0_9 x1_9 h0_9 h1_9 y0_9 y1_9
      have l0_10 : w10.cell? ⟨w.heap.size, 0, none⟩ = some (.int .i64 a) := DG10.out.cell (show 0 < 2 by omega)
      have l1_10 : w10.cell? ⟨w.heap.size, 1, none⟩ = some (.slice A ks.length c) := DG10.out.cell (show 1 < 2 by omega)
      have x0_10 : w10.cell? ⟨U1, 0, none⟩ = some (.int .i64 za) := DX10.out.cell (show 0 < 2 by omega)
      have x1_10 : w10.cell? ⟨U1, 1, none⟩ = some (.slice A0 zk.length c0) := DX10.out.cell (show 1 < 2 by omega)
      have h0_10 : w10.cell? ⟨U2, 0, none⟩ = some (.int .i64 a) := DH10.out.cell (show 0 < 2 by omega)
      have h1_10 : w10.cell? ⟨U2, 1, none⟩ = some (.slice (some ⟨g2, 0, none⟩) ks.length ks.length) := DH10.out.cell (show 1 < 2 by omega)
      have y0_10 : w10.cell? ⟨U3, 0, none⟩ = some (.int .i64 za) := DY10.out.cell (show 0 < 2 by omega)
      have y1_10 : w10.cell? ⟨U3, 1, none⟩ = some (.slice A1 zk.length c1) := DY10.out.cell (show 1 < 2 by omega)
      go_wp2_with fail
      refine (markKD_any _ _ _ _ _ _ _ _ HM.out K110.out).mono ?_
      rintro e w11 ⟨rfl, m1, m2, m3⟩
      have KM11 := Lib.hid m1
      have b11 := m2 w.heap.size (by omega) (by omega)
      have s11 : w10.heap.size ≤ w11.heap.size := (m2 0 (Nat.zero_le _) (Nat.zero_le _)).size
      have X11 := Lib.hid (X10.out.trans b11)
      have DG11 := Lib.hid (m3 _ _ _ (by omega) DG10.out)
      have DX11 := Lib.hid (m3 _ _ _ (by omega) DX10.out)
      have DY11 := Lib.hid (m3 _ _ _ (by omega) DY10.out)
      have K011 := Lib.hid (K010.out.keep (lo2 := U2 + 1) (hi2 := U3) (by omega) m3)
      clear m1 m2 m3 b11 DG10 DX10 DH10 DY10 K010 K110 X10
      clear l0_10 l1_10 x0_10 x1_10 h0_10 h1_10 y0_10 y1_10
      have l0_11 : w11.cell? ⟨w.heap.size, 0, none⟩ = some (.int .i64 a) := DG11.out.cell (show 0 < 2 by omega)
      have l1_11 : w11.cell? ⟨w.heap.size, 1, none⟩ = some (.slice A ks.length c) := DG11.out.cell (show 1 < 2 by omega)
      have x0_11 : w11.cell? ⟨U1, 0, none⟩ = some (.int .i64 za) := DX11.out.cell (show 0 < 2 by omega)
      have x1_11 : w11.cell? ⟨U1, 1, none⟩ = some (.slice A0 zk.length c0) := DX11.out.cell (show 1 < 2 by omega)
      have y0_11 : w11.cell? ⟨U3, 0, none⟩ = some (.int .i64 za) := DY11.out.cell (show 0 < 2 by omega)
      have y1_11 : w11.cell? ⟨U3, 1, none⟩ = some (.slice A1 zk.length c1) := DY11.out.cell (show 1 < 2 by omega)
      go_wp2_with fail
      refine (heldKD_any _ _ _ _ _ _ _ HM.out KM11.out).mono ?_
      rintro e w12 ⟨rfl, hb12⟩
      have DG12 := Lib.hid (DG11.out.call hb12)
      have DX12 := Lib.hid (DX11.out.call hb12)
      have DY12 := Lib.hid (DY11.out.call hb12)
      have K012 := Lib.hid (K011.out.call hb12)
      have KM12 := Lib.hid (KM11.out.call hb12)
      have X12 := Lib.hid (bel_call X11.out hb12)
      have s12 := hb12.size
      clear hb12 DG11 DX11 DY11 K011 KM11 X11
      clear l0_11 l1_11 x0_11 x1_11 y0_11 y1_11
      have l0_12 : w12.cell? ⟨w.heap.size, 0, none⟩ = some (.int .i64 a) := DG12.out.cell (show 0 < 2 by omega)
      have l1_12 : w12.cell? ⟨w.heap.size, 1, none⟩ = some (.slice A ks.length c) := DG12.out.cell (show 1 < 2 by omega)
      have x0_12 : w12.cell? ⟨U1, 0, none⟩ = some (.int .i64 za) := DX12.out.cell (show 0 < 2 by omega)
      have x1_12 : w12.cell? ⟨U1, 1, none⟩ = some (.slice A0 zk.length c0) := DX12.out.cell (show 1 < 2 by omega)
      have y0_12 : w12.cell? ⟨U3, 0, none⟩ = some (.int .i64 za) := DY12.out.cell (show 0 < 2 by omega)
      have y1_12 : w12.cell? ⟨U3, 1, none⟩ = some (.slice A1 zk.length c1) := DY12.out.cell (show 1 < 2 by omega)
      go_wp2_with fail
      refine (toPins_any _ _ _ _ ks _ hm (HA.out.below X12.out)).mono ?_
      rintro e w13 ⟨g4, rfl, hg4, ⟨G4, hG4⟩, hb13⟩
      go_wp2_with fail
      refine (addPin_any _ _ _ _ ks _ _ _ hm (hG4.knobs rfl hm)).mono ?_
      intro e w14 h14
      obtain ⟨A4, c4, rfl, k4, hb14⟩ := h14.kd (by rw [HZ2.out]; exact HNE.out)
      rw [HZ2.out] at k4
      rw [HZ0.out, HZ2.out, HZ3.out]
      have DG14 := Lib.hid ((DG12.out.call hb13).call hb14)
      have DX14 := Lib.hid ((DX12.out.call hb13).call hb14)
      have DY14 := Lib.hid ((DY12.out.call hb13).call hb14)
      have K014 := Lib.hid ((K012.out.call hb13).call hb14)
      have KM14 := Lib.hid ((KM12.out.call hb13).call hb14)
      have X14 := Lib.hid (bel_call (bel_call X12.out hb13) hb14)
      have K414 := Lib.hid k4
      clear hg4 hG4 hb13 hb14 k4 DG12 DX12 DY12 K012 KM12 X12
      clear l0_12 l1_12 x0_12 x1_12 y0_12 y1_12
      have l0_14 : w14.cell? ⟨w.heap.size, 0, none⟩ = some (.int .i64 a) := DG14.out.cell (show 0 < 2 by omega)
      have l1_14 : w14.cell? ⟨w.heap.size, 1, none⟩ = some (.slice A ks.length c) := DG14.out.cell (show 1 < 2 by omega)
      have x0_14 : w14.cell? ⟨U1, 0, none⟩ = some (.int .i64 za) := DX14.out.cell (show 0 < 2 by omega)
      have x1_14 : w14.cell? ⟨U1, 1, none⟩ = some (.slice A0 zk.length c0) := DX14.out.cell (show 1 < 2 by omega)
      have y0_14 : w14.cell? ⟨U3, 0, none⟩ = some (.int .i64 za) := DY14.out.cell (show 0 < 2 by omega)
      have y1_14 : w14.cell? ⟨U3, 1, none⟩ = some (.slice A1 zk.length c1) := DY14.out.cell (show 1 < 2 by omega)
      have x0_14n : (w14.alloc (.cells #[.int .i64 za, .slice A4 zk.length c4] 34)).cell? ⟨U1, 0, none⟩ = some (.int .i64 za) := (DX14.out.alloc _).cell (show 0 < 2 by omega)
      have x1_14n : (w14.alloc (.cells #[.int .i64 za, .slice A4 zk.length c4] 34)).cell? ⟨U1, 1, none⟩ = some (.slice A0 zk.length c0) := (DX14.out.alloc _).cell (show 1 < 2 by omega)
      go_wp2_with fail
      have hbq : Below w14.heap.size w14 (w14.alloc (.cells #[.int .i64 za, .slice A4 zk.length c4] 34)) := (Below.refl _ _).alloc (Nat.le_refl _) _
      refine (eqKD_any _ _ _ _ _ _ _ _ _ _ _ HM.out (K414.out.call hbq) (K014.out.call hbq)).mono ?_
      rintro e w15 ⟨rfl, hb15⟩
      have DY15 := Lib.hid ((DY14.out.call hbq).call hb15)
      have KM15 := Lib.hid ((KM14.out.call hbq).call hb15)
      have X15 := Lib.hid (bel_call (bel_call X14.out hbq) hb15)
      clear hbq hb15 DG14 DX14 DY14 K014 KM14 X14 K414
      clear l0_14 l1_14 x0_14 x1_14 y0_14 y1_14
      clear x0_14n x1_14n
      have y0_15 : w15.cell? ⟨U3, 0, none⟩ = some (.int .i64 za) := DY15.out.cell (show 0 < 2 by omega)
      have y1_15 : w15.cell? ⟨U3, 1, none⟩ = some (.slice A1 zk.length c1) := DY15.out.cell (show 1 < 2 by omega)
      go_wp2_with fail
      refine (heldKD_any _ _ _ _ _ _ _ HM.out KM15.out).mono ?_
      rintro e w16 ⟨rfl, hb16⟩
      have X16 := Lib.hid (bel_call X15.out hb16)
      clear hb16 DY15
      go_wp2_with fail
      go_ret
      exact ⟨rfl, X16.out⟩

set_option maxRecDepth 100000 in
theorem lifted (os : Os) (started : os.Started) (H : Type) (enc : TypeId × Value → H) :
    ReturnsInHanded {} Try.checked os 4 .any (Rows.fnExactAddPinSpec.pre6 enc Try.prog Try.f4 Rows.fnExactAddPinRow.domain false) (Rows.fnExactAddPinSpec.post enc Try.prog Try.f4 false true false false) := by
  refine returnsInHanded_of_change (C := Try.checked) Try.own started (by kernel_rfl) Try.func4
    (ChangeSpec.witness6 (enc := enc) (C := Try.checked) false ⟨#[], #[.agg #[.int .i64 0, .slice none 0 0], .int .i64 0, .int .i64 0], []⟩ 8 (by kernel_rfl) (by kernel_rfl) (by kernel_rfl) (by kernel_rfl)) ?_
  intro W base args ds gs before hval0 hW _ _
  have hval : ∀ (j : Nat) t v, Try.f4.params[j]? = some t → args[j]? = some v → Value.okWide Try.prog W .any base t v := hval0
  have hW' := hW
  obtain ⟨p, q, hA0, hV, rfl, _, _⟩ := hW
  have hA : DataW.TrodAll enc Try.prog W 0 (fun _ => true) true Try.f4.params.toList args.toList ds p := hA0
  rw [Try.params4] at hA hval
  obtain ⟨v0, vs0, d0, ds0, p0, q0, hargs, rfl, rfl, h0, r0⟩ := trodAll_cons hA
  obtain ⟨v1, vs1, d1, ds1, p1, q1, rfl, rfl, rfl, h1, r1⟩ := trodAll_cons r0
  obtain ⟨v2, vs2, d2, ds2, p2, q2, rfl, rfl, rfl, h2, r2⟩ := trodAll_cons r1
  obtain ⟨rfl, rfl, rfl⟩ := trodAll_nil r2
  obtain rfl : args = #[v0, v1, v2] := by cases args; simp_all
  obtain ⟨rfl, rfl⟩ := trodVars_none hV
  have t0 := h0
  have lt0 : ∀ x ∈ p0, x.block < W.heap.size := by obtain ⟨m, hm⟩ := t0; exact DataW.trod_lt m _ _ _ hm
  have t0' := h0
  have t1 := h1
  have lt1 : ∀ x ∈ p1, x.block < W.heap.size := by obtain ⟨m, hm⟩ := t1; exact DataW.trod_lt m _ _ _ hm
  have t1' := h1
  have t2 := h2
  have lt2 : ∀ x ∈ p2, x.block < W.heap.size := by obtain ⟨m, hm⟩ := t2; exact DataW.trod_lt m _ _ _ hm
  have t2' := h2
  obtain ⟨x0, x0A, x0n, x0c, x0k, rfl, k0, l0, m0⟩ := open_pins (hval 0 32 v0 rfl rfl) t0'
  obtain ⟨x1, rfl, _, _, k1⟩ := open_int Try.underlying3 (hval 1 3 v1 rfl rfl) t1'
  obtain ⟨x2, rfl, _, _, k2⟩ := open_int Try.underlying3 (hval 2 3 v2 rfl rfl) t2'
  clear hA0 hval0
  refine (lawAddPin_true x0 x0A x0n x0c x0k k0 l0 m0 x1 k1 x2 k2 W).mono fun e W' ⟨he, bel⟩ => ?_
  subst he
  exact ⟨_, rfl, _, _, _, [], _, [], hW', trodAll_mk1 (shut_bool Try.underlying4 _), (trodAll_cons_mk (Below.trod Try.laidOut (by kernel_rfl) (of_decide_eq_true (by kernel_rfl)) h0 bel lt0) (trodAll_cons_mk (Below.trod Try.laidOut (by kernel_rfl) (of_decide_eq_true (by kernel_rfl)) h1 bel lt1) (trodAll_cons_mk (Below.trod Try.laidOut (by kernel_rfl) (of_decide_eq_true (by kernel_rfl)) h2 bel lt2) trodAll_mk0))), rfl, bel.frame _, fun h => by cases h⟩

set_option maxRecDepth 100000 in
theorem jf : joinedFacts Try.pinned.checked.prog 4 Try.f4 Rows.fnExactAddPinSpec Rows.fnExactAddPinRow = true := by
  unfold joinedFacts
  rw [whole_all.1, whole_all.2.1, whole_all.2.2]
  kernel_rfl

theorem over : Rows.fnExactAddPinRow.holds Try.pinned (OpenSpec.ofChange Rows.fnExactAddPinSpec) :=
  OpenClaim.holds_of_wide 4 Try.f4 rfl rfl rfl rfl rfl rfl rfl ⟨rfl, rfl, rfl, rfl, rfl⟩ rfl rfl rfl rfl rfl (by kernel_rfl) Try.func4 jf
    (of_decide_eq_true (by kernel_rfl)) (by unfold Func.isWrapper; rw [if_neg (of_decide_eq_false (by kernel_rfl))]; exact ⟨rfl, rfl⟩)
    (fun os started H enc _ => lifted os started H enc)

theorem proved : Rows.FnExactAddPinSaid := over
end Go.Proofs.Ytbfildegnbbinaa.fnExactAddPin
