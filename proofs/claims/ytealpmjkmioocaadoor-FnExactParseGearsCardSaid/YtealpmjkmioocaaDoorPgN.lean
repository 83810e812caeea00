/- The law FnExactParseGears answers true wherever the library's variables hold what they are laid with. No further conditions. -/
import Derived.Test.YtealpmjkmioocaaDoorPgK
namespace Go.Proofs.YtealpmjkmioocaaDoor
set_option maxRecDepth 100000
open Go.ChangeShapes Go.WideShapes Go.ChangeAt Go.RowKit Go.Joins

set_option maxHeartbeats 4000000 in
theorem lawParseGears_true (s : ByteArray) (hmx : s.size ≤ maxLen) (w : World) (hL : LibW w) :
    Calls Tryd.prog 3 #[.string s] w fun e w' => e = .returned (.bool true) ∧ Below w.heap.size w w' := by
  unfold maxLen at hmx
  by_cases hlen : 1048576 < s.size
  · go_enter Tryd.func3, Tryd.ntmps3
    go_wp2_with fail
    go_ret
    exact ⟨rfl, Below.refl _ _⟩
  have hs : s.size ≤ 1048576 := by omega
  have HL := Lib.hid hL
  have hlow := hL.low
  clear hL
  obtain ⟨za, hz0⟩ : ∃ x, pgW s = x := ⟨_, rfl⟩
  obtain ⟨zb, hz1⟩ : ∃ x, pgD s = x := ⟨_, rfl⟩
  obtain ⟨zk, hz2⟩ : ∃ x, pgZ s = x := ⟨_, rfl⟩
  obtain ⟨zo, hz3⟩ : ∃ x, pgB s = x := ⟨_, rfl⟩
  have HZ0 := Lib.hid hz0
  have HZ1 := Lib.hid hz1
  have HZ2 := Lib.hid hz2
  have HZ3 := Lib.hid hz3
  have HM : Hid (zk.length + lensAt zk zk.length ≤ 1048576) := Lib.hid (by have := pgZ_size s hs; rw [HZ2.out] at this; omega)
  clear hz0 hz1 hz2 hz3
  go_enter Tryd.func3, Tryd.ntmps3
  go_wp2_with fail
  refine (specParseGears_any s hs _).mono ?_
  intro e w3 h3
  obtain ⟨A0, c0, rfl, k0, hb3⟩ := h3.kd
  rw [HZ2.out] at k0
  rw [HZ0.out, HZ1.out, HZ2.out, HZ3.out]
  have X3 := Lib.hid hb3
  have K03 := Lib.hid k0
  have n3 : w.heap.size ≤ w3.heap.size := hb3.size
  clear hb3 h3 k0
  go_wp2_with fail
  have CX : Cells (w3.alloc (.cells #[.int .i64 za, .int .i64 zb, .slice A0 zk.length c0] 26)) w3.heap.size 3 (gF (za) (zb) (.slice A0 zk.length c0)) := Cells.new (n := 3) rfl rfl
  have hbx : Below w3.heap.size w3 (w3.alloc (.cells #[.int .i64 za, .int .i64 zb, .slice A0 zk.length c0] 26)) := (Below.refl _ _).alloc (Nat.le_refl _) _
  have n4 : w3.heap.size + 1 ≤ (w3.alloc (.cells #[.int .i64 za, .int .i64 zb, .slice A0 zk.length c0] 26)).heap.size := by simp
  obtain ⟨w4, hw4⟩ : ∃ W, (w3.alloc (.cells #[.int .i64 za, .int .i64 zb, .slice A0 zk.length c0] 26)) = W := ⟨_, rfl⟩
  rw [hw4] at CX hbx n4 ⊢
  have X4 := Lib.hid (bel_call X3.out hbx)
  have DX4 := Lib.hid CX
  have K04 := Lib.hid (K03.out.call hbx)
  clear CX hbx X3 K03 hw4
  obtain ⟨L0, hL0⟩ : ∃ U, w.heap.size = U := ⟨_, rfl⟩
  obtain ⟨U1, hU1⟩ : ∃ U, w3.heap.size = U := ⟨_, rfl⟩
  rw [hU1] at DX4 n3 n4 ⊢
  rw [hL0] at n3
  rw [hL0, hU1] at K04
  have HL0 := Lib.hid hL0
  clear hL0 hU1
  have x0_4 : w4.cell? ⟨U1, 0, none⟩ = some (.int .i64 za) := DX4.out.cell (show 0 < 3 by omega)
  have x1_4 : w4.cell? ⟨U1, 1, none⟩ = some (.int .i64 zb) := DX4.out.cell (show 1 < 3 by omega)
  have x2_4 : w4.cell? ⟨U1, 2, none⟩ = some (.slice A0 zk.length c0) := DX4.out.cell (show 2 < 3 by omega)
  refine (parseGears_any s hs _ (HL.out.below X4.out hlow)).mono ?_
  intro e w5 h5
  obtain ⟨A1, c1, rfl, k1, hb5⟩ := h5.kd
  rw [HZ2.out] at k1
  rw [HZ0.out, HZ1.out, HZ2.out, HZ3.out]
  have DX5 := Lib.hid (DX4.out.call hb5)
  have K05 := Lib.hid (K04.out.call hb5)
  have X5 := Lib.hid (bel_call X4.out hb5)
  have K15 := Lib.hid k1
  have n5 : w4.heap.size ≤ w5.heap.size := hb5.size
  clear hb5 h5 k1 X4 DX4 K04
  clear x0_4 x1_4 x2_4
  obtain ⟨U2, hU2⟩ : ∃ U, w4.heap.size = U := ⟨_, rfl⟩
  rw [hU2] at K15 n4 n5
  clear hU2
  have x0_5 : w5.cell? ⟨U1, 0, none⟩ = some (.int .i64 za) := DX5.out.cell (show 0 < 3 by omega)
  have x1_5 : w5.cell? ⟨U1, 1, none⟩ = some (.int .i64 zb) := DX5.out.cell (show 1 < 3 by omega)
  have x2_5 : w5.cell? ⟨U1, 2, none⟩ = some (.slice A0 zk.length c0) := DX5.out.cell (show 2 < 3 by omega)
  have x0_5n : (w5.alloc (.cells #[.int .i64 za, .int .i64 zb, .slice A1 zk.length c1] 26)).cell? ⟨U1, 0, none⟩ = some (.int .i64 za) := (DX5.out.alloc _).cell (show 0 < 3 by omega)
  have x1_5n : (w5.alloc (.cells #[.int .i64 za, .int .i64 zb, .slice A1 zk.length c1] 26)).cell? ⟨U1, 1, none⟩ = some (.int .i64 zb) := (DX5.out.alloc _).cell (show 1 < 3 by omega)
  have x2_5n : (w5.alloc (.cells #[.int .i64 za, .int .i64 zb, .slice A1 zk.length c1] 26)).cell? ⟨U1, 2, none⟩ = some (.slice A0 zk.length c0) := (DX5.out.alloc _).cell (show 2 < 3 by omega)
  go_wp2_with fail
  have CZ : Cells (w5.alloc (.cells #[.int .i64 za, .int .i64 zb, .slice A1 zk.length c1] 26)) w5.heap.size 3 (gF (za) (zb) (.slice A1 zk.length c1)) := Cells.new (n := 3) rfl rfl
  have hbz : Below w5.heap.size w5 (w5.alloc (.cells #[.int .i64 za, .int .i64 zb, .slice A1 zk.length c1] 26)) := (Below.refl _ _).alloc (Nat.le_refl _) _
  refine (eqKD_any _ _ _ _ _ _ _ _ _ _ _ _ HM.out (K15.out.call hbz) (K05.out.call hbz)).mono ?_
  rintro e w6 ⟨rfl, hb6⟩
  have DX6 := Lib.hid ((DX5.out.call hbz).call hb6)
  have K06 := Lib.hid ((K05.out.call hbz).call hb6)
  have K16 := Lib.hid ((K15.out.call hbz).call hb6)
  have DY6 := Lib.hid (CZ.call hb6)
  have X6 := Lib.hid (bel_call (bel_call X5.out hbz) hb6)
  have n6 : w5.heap.size + 1 ≤ w6.heap.size := by have := hb6.size; rw [World.size_alloc] at this; exact this
  clear CZ hbz hb6 DX5 X5 K05 K15
  clear x0_5 x1_5 x2_5
  clear x0_5n x1_5n x2_5n
  obtain ⟨U3, hU3⟩ : ∃ U, w5.heap.size = U := ⟨_, rfl⟩
  rw [hU3] at DY6 K16 n5 n6 ⊢
  clear hU3
  have x0_6 : w6.cell? ⟨U1, 0, none⟩ = some (.int .i64 za) := DX6.out.cell (show 0 < 3 by omega)
  have x1_6 : w6.cell? ⟨U1, 1, none⟩ = some (.int .i64 zb) := DX6.out.cell (show 1 < 3 by omega)
  have x2_6 : w6.cell? ⟨U1, 2, none⟩ = some (.slice A0 zk.length c0) := DX6.out.cell (show 2 < 3 by omega)
  have y0_6 : w6.cell? ⟨U3, 0, none⟩ = some (.int .i64 za) := DY6.out.cell (show 0 < 3 by omega)
  have y1_6 : w6.cell? ⟨U3, 1, none⟩ = some (.int .i64 zb) := DY6.out.cell (show 1 < 3 by omega)
  have y2_6 : w6.cell? ⟨U3, 2, none⟩ = some (.slice A1 zk.length c1) := DY6.out.cell (show 2 < 3 by omega)
  go_wp2_with fail
  refine (markKD_any _ _ _ _ _ _ _ _ _ HM.out K16.out).mono ?_
  rintro e w7 ⟨rfl, m1, m2, m3⟩
  have KM7 := Lib.hid m1
  have b7 := m2 w.heap.size (by have := X6.out.size; omega) (by have := HL0.out; omega)
  have s7 : w6.heap.size ≤ w7.heap.size := (m2 0 (Nat.zero_le _) (Nat.zero_le _)).size
  have X7 := Lib.hid (X6.out.trans b7)
  have DX7 := Lib.hid (m3 _ _ _ (by omega) DX6.out)
  have DY7 := Lib.hid (m3 _ _ _ (by omega) DY6.out)
  have K07 := Lib.hid (K06.out.keep (lo2 := U2) (hi2 := U3) (by omega) m3)
  clear m1 m2 m3 b7 DX6 DY6 K06 K16 X6
  clear x0_6 x1_6 x2_6 y0_6 y1_6 y2_6
  have x0_7 : w7.cell? ⟨U1, 0, none⟩ = some (.int .i64 za) := DX7.out.cell (show 0 < 3 by omega)
  have x1_7 : w7.cell? ⟨U1, 1, none⟩ = some (.int .i64 zb) := DX7.out.cell (show 1 < 3 by omega)
  have x2_7 : w7.cell? ⟨U1, 2, none⟩ = some (.slice A0 zk.length c0) := DX7.out.cell (show 2 < 3 by omega)
  have y0_7 : w7.cell? ⟨U3, 0, none⟩ = some (.int .i64 za) := DY7.out.cell (show 0 < 3 by omega)
  have y1_7 : w7.cell? ⟨U3, 1, none⟩ = some (.int .i64 zb) := DY7.out.cell (show 1 < 3 by omega)
  have y2_7 : w7.cell? ⟨U3, 2, none⟩ = some (.slice A1 zk.length c1) := DY7.out.cell (show 2 < 3 by omega)
  go_wp2_with fail
  refine (heldKD_any _ _ _ _ _ _ _ _ HM.out KM7.out).mono ?_
  rintro e w8 ⟨rfl, hb8⟩
  have DX8 := Lib.hid (DX7.out.call hb8)
  have DY8 := Lib.hid (DY7.out.call hb8)
  have K08 := Lib.hid (K07.out.call hb8)
  have KM8 := Lib.hid (KM7.out.call hb8)
  have X8 := Lib.hid (bel_call X7.out hb8)
  have s8 := hb8.size
  clear hb8 DX7 DY7 K07 KM7 X7
  clear x0_7 x1_7 x2_7 y0_7 y1_7 y2_7
  have x0_8 : w8.cell? ⟨U1, 0, none⟩ = some (.int .i64 za) := DX8.out.cell (show 0 < 3 by omega)
  have x1_8 : w8.cell? ⟨U1, 1, none⟩ = some (.int .i64 zb) := DX8.out.cell (show 1 < 3 by omega)
  have x2_8 : w8.cell? ⟨U1, 2, none⟩ = some (.slice A0 zk.length c0) := DX8.out.cell (show 2 < 3 by omega)
  have y0_8 : w8.cell? ⟨U3, 0, none⟩ = some (.int .i64 za) := DY8.out.cell (show 0 < 3 by omega)
  have y1_8 : w8.cell? ⟨U3, 1, none⟩ = some (.int .i64 zb) := DY8.out.cell (show 1 < 3 by omega)
  have y2_8 : w8.cell? ⟨U3, 2, none⟩ = some (.slice A1 zk.length c1) := DY8.out.cell (show 2 < 3 by omega)
  go_wp2_with fail
  refine (parseGears_any s hs _ (HL.out.below X8.out hlow)).mono ?_
  intro e w10 h10
  obtain ⟨A4, c4, rfl, k4, hb10⟩ := h10.kd
  rw [HZ2.out] at k4
  rw [HZ0.out, HZ1.out, HZ2.out, HZ3.out]
  have DX10 := Lib.hid (DX8.out.call hb10)
  have DY10 := Lib.hid (DY8.out.call hb10)
  have K010 := Lib.hid (K08.out.call hb10)
  have KM10 := Lib.hid (KM8.out.call hb10)
  have X10 := Lib.hid (bel_call X8.out hb10)
  have K410 := Lib.hid k4
  clear hb10 h10 k4 DX8 DY8 K08 KM8 X8
  clear x0_8 x1_8 x2_8 y0_8 y1_8 y2_8
  have x0_10 : w10.cell? ⟨U1, 0, none⟩ = some (.int .i64 za) := DX10.out.cell (show 0 < 3 by omega)
  have x1_10 : w10.cell? ⟨U1, 1, none⟩ = some (.int .i64 zb) := DX10.out.cell (show 1 < 3 by omega)
  have x2_10 : w10.cell? ⟨U1, 2, none⟩ = some (.slice A0 zk.length c0) := DX10.out.cell (show 2 < 3 by omega)
  have y0_10 : w10.cell? ⟨U3, 0, none⟩ = some (.int .i64 za) := DY10.out.cell (show 0 < 3 by omega)
  have y1_10 : w10.cell? ⟨U3, 1, none⟩ = some (.int .i64 zb) := DY10.out.cell (show 1 < 3 by omega)
  have y2_10 : w10.cell? ⟨U3, 2, none⟩ = some (.slice A1 zk.length c1) := DY10.out.cell (show 2 < 3 by omega)
  have x0_10n : (w10.alloc (.cells #[.int .i64 za, .int .i64 zb, .slice A4 zk.length c4] 26)).cell? ⟨U1, 0, none⟩ = some (.int .i64 za) := (DX10.out.alloc _).cell (show 0 < 3 by omega)
  have x1_10n : (w10.alloc (.cells #[.int .i64 za, .int .i64 zb, .slice A4 zk.length c4] 26)).cell? ⟨U1, 1, none⟩ = some (.int .i64 zb) := (DX10.out.alloc _).cell (show 1 < 3 by omega)
  have x2_10n : (w10.alloc (.cells #[.int .i64 za, .int .i64 zb, .slice A4 zk.length c4] 26)).cell? ⟨U1, 2, none⟩ = some (.slice A0 zk.length c0) := (DX10.out.alloc _).cell (show 2 < 3 by omega)
  go_wp2_with fail
  have hbq : Below w10.heap.size w10 (w10.alloc (.cells #[.int .i64 za, .int .i64 zb, .slice A4 zk.length c4] 26)) := (Below.refl _ _).alloc (Nat.le_refl _) _
  refine (eqKD_any _ _ _ _ _ _ _ _ _ _ _ _ HM.out (K410.out.call hbq) (K010.out.call hbq)).mono ?_
  rintro e w11 ⟨rfl, hb11⟩
  have DY11 := Lib.hid ((DY10.out.call hbq).call hb11)
  have KM11 := Lib.hid ((KM10.out.call hbq).call hb11)
  have X11 := Lib.hid (bel_call (bel_call X10.out hbq) hb11)
  clear hbq hb11 DX10 DY10 K010 KM10 X10 K410
  clear x0_10 x1_10 x2_10 y0_10 y1_10 y2_10
  clear x0_10n x1_10n x2_10n
  have y0_11 : w11.cell? ⟨U3, 0, none⟩ = some (.int .i64 za) := DY11.out.cell (show 0 < 3 by omega)
  have y1_11 : w11.cell? ⟨U3, 1, none⟩ = some (.int .i64 zb) := DY11.out.cell (show 1 < 3 by omega)
  have y2_11 : w11.cell? ⟨U3, 2, none⟩ = some (.slice A1 zk.length c1) := DY11.out.cell (show 2 < 3 by omega)
  go_wp2_with fail
  refine (heldKD_any _ _ _ _ _ _ _ _ HM.out KM11.out).mono ?_
  rintro e w12 ⟨rfl, hb12⟩
  have X12 := Lib.hid (bel_call X11.out hb12)
  clear hb12 DY11
  go_wp2_with fail
  go_ret
  exact ⟨rfl, X12.out⟩

end Go.Proofs.YtealpmjkmioocaaDoor
