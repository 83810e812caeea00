/- For every input at which the law FnExactMakePuzzle can be called it answers true and leaves its arguments as they were. No conditions. -/
import Derived.Test.YtgopaflggbgplaaUy
import Derived.Test.YtgopaflggbgplaaFacts
namespace Go.Proofs.Ytgopaflggbgplaa.fnExactMakePuzzle
open Go.ChangeShapes Go.WideShapes Go.ChangeAt Go.RowKit Go.Joins
open Go.ChangeMaps (open_string shut_string)

set_option maxHeartbeats 4000000 in
theorem lawMakePuzzle_true (a b : Int) (_ : (Lit.int .i64 a).wf = true) (_ : (Lit.int .i64 b).wf = true) (s : ByteArray) (hs : s.size ≤ maxLen) (n : Int) (_ : (Lit.int .i64 n).wf = true) (q : Int) (_ : (Lit.int .i64 q).wf = true) (w : World) :
    Calls Try.prog 5 #[.agg #[.int .i64 a, .int .i64 b], .string s, .int .i64 n, .int .i64 q] w fun e w' => e = .returned (.bool true) ∧ Below w.heap.size w w' := by
  obtain ⟨za, hz0⟩ : ∃ x, mpA a b s n q a = x := ⟨_, rfl⟩
  obtain ⟨zb, hz1⟩ : ∃ x, mpA a b s n q b = x := ⟨_, rfl⟩
  obtain ⟨zk, hz2⟩ : ∃ x, mpZ a b s n q = x := ⟨_, rfl⟩
  obtain ⟨zo, hz3⟩ : ∃ x, mpB a b s n q = x := ⟨_, rfl⟩
  have HZ0 := Lib.hid hz0
  have HZ1 := Lib.hid hz1
  have HZ2 := Lib.hid hz2
  have HZ3 := Lib.hid hz3
  have HM : Hid (zk.length ≤ 1048576) := Lib.hid (by have := mpZ_size a b s n q; rw [HZ2.out] at this; omega)
  clear hz0 hz1 hz2 hz3
  have CU := Lib.hid (show Cells (w.alloc (.cells #[.int .i64 a, .int .i64 b] 23)) w.heap.size 2 (g2L a b) from Cells.new (n := 2) rfl rfl)
  have HB0 := Lib.hid (show Below w.heap.size w (w.alloc (.cells #[.int .i64 a, .int .i64 b] 23)) from (Below.refl _ _).alloc (Nat.le_refl _) _)
  have HS := Lib.hid hs
  by_cases hbig : 1048576 < s.size
  · have hbi : (1048576 : Int) < (s.size : Int) := by omega
    go_enter Try.func5, Try.ntmps5
    go_wp2_with fail
    go_ret
    exact ⟨rfl, HB0.out⟩
  have hbi : ¬ (1048576 : Int) < (s.size : Int) := by omega
  clear hs hbig
  go_enter Try.func5, Try.ntmps5
  go_wp2_with (go_at_call 17; refine (toLock_any _ _ _).mono ?_; rintro e w2 ⟨rfl, hb2⟩)
  refine (specMakePuzzle_any _ _ s _ _ _ HS.out).mono ?_
  intro e w3 h3
  obtain ⟨A0, c0, rfl, k0, hb3⟩ := (id h3)
  rw [HZ2.out] at k0
  rw [HZ0.out, HZ1.out, HZ2.out, HZ3.out]
  have DL3 := Lib.hid ((CU.out.call hb2).call hb3)
  have X3 := Lib.hid (bel_call (bel_call HB0.out hb2) hb3)
  have K03 := Lib.hid k0
  have n3 : w.heap.size < w2.heap.size ∧ w2.heap.size ≤ w3.heap.size := ⟨(CU.out.call hb2).lt, hb3.size⟩
  clear hb2 hb3 h3 k0 CU HB0
  have l0_3 : w3.cell? ⟨w.heap.size, 0, none⟩ = some (.int .i64 a) := DL3.out.cell (show 0 < 2 by omega)
  have l1_3 : w3.cell? ⟨w.heap.size, 1, none⟩ = some (.int .i64 b) := DL3.out.cell (show 1 < 2 by omega)
  have l0_3n : (w3.alloc (.cells #[.int .i64 za, .int .i64 zb, .slice A0 zk.length c0] 33)).cell? ⟨w.heap.size, 0, none⟩ = some (.int .i64 a) := (DL3.out.alloc _).cell (show 0 < 2 by omega)
  have l1_3n : (w3.alloc (.cells #[.int .i64 za, .int .i64 zb, .slice A0 zk.length c0] 33)).cell? ⟨w.heap.size, 1, none⟩ = some (.int .i64 b) := (DL3.out.alloc _).cell (show 1 < 2 by omega)
  go_wp2_with (go_at_call 17; refine (toLock_any _ _ _).mono ?_; rintro e w4 ⟨rfl, hb4⟩)
  have CX : Cells (w3.alloc (.cells #[.int .i64 za, .int .i64 zb, .slice A0 zk.length c0] 33)) w3.heap.size 3 (g3F (za) (zb) (.slice A0 zk.length c0)) := Cells.new (n := 3) rfl rfl
  have hbx : Below w3.heap.size w3 (w3.alloc (.cells #[.int .i64 za, .int .i64 zb, .slice A0 zk.length c0] 33)) := (Below.refl _ _).alloc (Nat.le_refl _) _
  have DL4 := Lib.hid ((DL3.out.call hbx).call hb4)
  have X4 := Lib.hid (bel_call (bel_call X3.out hbx) hb4)
  have DX4 := Lib.hid (CX.call hb4)
  have K04 := Lib.hid ((K03.out.call hbx).call hb4)
  have n4 : w3.heap.size + 1 ≤ w4.heap.size := by have := hb4.size; rw [World.size_alloc] at this; exact this
  clear CX hbx hb4 DL3 X3 K03
  clear l0_3 l1_3
  clear l0_3n l1_3n
  obtain ⟨L0, hL0⟩ : ∃ U, w2.heap.size = U := ⟨_, rfl⟩
  obtain ⟨U1, hU1⟩ : ∃ U, w3.heap.size = U := ⟨_, rfl⟩
  rw [hU1] at DX4 n3 n4 ⊢
  rw [hL0] at n3
  rw [hL0, hU1] at K04
  clear hL0 hU1
  have l0_4 : w4.cell? ⟨w.heap.size, 0, none⟩ = some (.int .i64 a) := DL4.out.cell (show 0 < 2 by omega)
  have l1_4 : w4.cell? ⟨w.heap.size, 1, none⟩ = some (.int .i64 b) := DL4.out.cell (show 1 < 2 by omega)
  have x0_4 : w4.cell? ⟨U1, 0, none⟩ = some (.int .i64 za) := DX4.out.cell (show 0 < 3 by omega)
  have x1_4 : w4.cell? ⟨U1, 1, none⟩ = some (.int .i64 zb) := DX4.out.cell (show 1 < 3 by omega)
  have x2_4 : w4.cell? ⟨U1, 2, none⟩ = some (.slice A0 zk.length c0) := DX4.out.cell (show 2 < 3 by omega)
  refine (makePuzzle_any _ _ s _ _ _ HS.out).mono ?_
  intro e w5 h5
  obtain ⟨A1, c1, rfl, k1, hb5⟩ := (id h5)
  rw [HZ2.out] at k1
  rw [HZ0.out, HZ1.out, HZ2.out, HZ3.out]
  have DL5 := Lib.hid (DL4.out.call hb5)
  have DX5 := Lib.hid (DX4.out.call hb5)
  have K05 := Lib.hid (K04.out.call hb5)
  have X5 := Lib.hid (bel_call X4.out hb5)
  have K15 := Lib.hid k1
  have n5 : w4.heap.size ≤ w5.heap.size := hb5.size
  clear hb5 h5 k1 DL4 X4 DX4 K04
  clear l0_4 l1_4 x0_4 x1_4 x2_4
  obtain ⟨U2, hU2⟩ : ∃ U, w4.heap.size = U := ⟨_, rfl⟩
  rw [hU2] at K15 n4 n5
  clear hU2
  have l0_5 : w5.cell? ⟨w.heap.size, 0, none⟩ = some (.int .i64 a) := DL5.out.cell (show 0 < 2 by omega)
  have l1_5 : w5.cell? ⟨w.heap.size, 1, none⟩ = some (.int .i64 b) := DL5.out.cell (show 1 < 2 by omega)
  have x0_5 : w5.cell? ⟨U1, 0, none⟩ = some (.int .i64 za) := DX5.out.cell (show 0 < 3 by omega)
  have x1_5 : w5.cell? ⟨U1, 1, none⟩ = some (.int .i64 zb) := DX5.out.cell (show 1 < 3 by omega)
  have x2_5 : w5.cell? ⟨U1, 2, none⟩ = some (.slice A0 zk.length c0) := DX5.out.cell (show 2 < 3 by omega)
  have x0_5n : (w5.alloc (.cells #[.int .i64 za, .int .i64 zb, .slice A1 zk.length c1] 33)).cell? ⟨U1, 0, none⟩ = some (.int .i64 za) := (DX5.out.alloc _).cell (show 0 < 3 by omega)
  have x1_5n : (w5.alloc (.cells #[.int .i64 za, .int .i64 zb, .slice A1 zk.length c1] 33)).cell? ⟨U1, 1, none⟩ = some (.int .i64 zb) := (DX5.out.alloc _).cell (show 1 < 3 by omega)
  have x2_5n : (w5.alloc (.cells #[.int .i64 za, .int .i64 zb, .slice A1 zk.length c1] 33)).cell? ⟨U1, 2, none⟩ = some (.slice A0 zk.length c0) := (DX5.out.alloc _).cell (show 2 < 3 by omega)
  go_wp2_with fail
  have CZ : Cells (w5.alloc (.cells #[.int .i64 za, .int .i64 zb, .slice A1 zk.length c1] 33)) w5.heap.size 3 (g3F (za) (zb) (.slice A1 zk.length c1)) := Cells.new (n := 3) rfl rfl
  have hbz : Below w5.heap.size w5 (w5.alloc (.cells #[.int .i64 za, .int .i64 zb, .slice A1 zk.length c1] 33)) := (Below.refl _ _).alloc (Nat.le_refl _) _
  refine (eqKC_any _ _ _ _ _ _ _ _ _ _ zk _ HM.out (K15.out.call hbz) (K05.out.call hbz)).mono ?_
  rintro e w6 ⟨rfl, hb6⟩
  have DL6 := Lib.hid ((DL5.out.call hbz).call hb6)
  have DX6 := Lib.hid ((DX5.out.call hbz).call hb6)
  have K06 := Lib.hid ((K05.out.call hbz).call hb6)
  have K16 := Lib.hid ((K15.out.call hbz).call hb6)
  have DY6 := Lib.hid (CZ.call hb6)
  have X6 := Lib.hid (bel_call (bel_call X5.out hbz) hb6)
  have n6 : w5.heap.size + 1 ≤ w6.heap.size := by have := hb6.size; rw [World.size_alloc] at this; exact this
  clear CZ hbz hb6 DL5 DX5 X5 K05 K15
  clear l0_5 l1_5 x0_5 x1_5 x2_5
  clear x0_5n x1_5n x2_5n
  obtain ⟨U3, hU3⟩ : ∃ U, w5.heap.size = U := ⟨_, rfl⟩
  rw [hU3] at DY6 K16 n5 n6 ⊢
  clear hU3
  have l0_6 : w6.cell? ⟨w.heap.size, 0, none⟩ = some (.int .i64 a) := DL6.out.cell (show 0 < 2 by omega)
  have l1_6 : w6.cell? ⟨w.heap.size, 1, none⟩ = some (.int .i64 b) := DL6.out.cell (show 1 < 2 by omega)
  have x0_6 : w6.cell? ⟨U1, 0, none⟩ = some (.int .i64 za) := DX6.out.cell (show 0 < 3 by omega)
  have x1_6 : w6.cell? ⟨U1, 1, none⟩ = some (.int .i64 zb) := DX6.out.cell (show 1 < 3 by omega)
  have x2_6 : w6.cell? ⟨U1, 2, none⟩ = some (.slice A0 zk.length c0) := DX6.out.cell (show 2 < 3 by omega)
  have y0_6 : w6.cell? ⟨U3, 0, none⟩ = some (.int .i64 za) := DY6.out.cell (show 0 < 3 by omega)
  have y1_6 : w6.cell? ⟨U3, 1, none⟩ = some (.int .i64 zb) := DY6.out.cell (show 1 < 3 by omega)
  have y2_6 : w6.cell? ⟨U3, 2, none⟩ = some (.slice A1 zk.length c1) := DY6.out.cell (show 2 < 3 by omega)
  go_wp2_with fail
  refine (markKC_any _ _ _ _ _ _ _ zk _ HM.out K16.out).mono ?_
  rintro e w7 ⟨rfl, m1, m2, m3⟩
  have KM7 := Lib.hid m1
  have b7 := m2 w.heap.size (by omega) (by omega)
  have s7 : w6.heap.size ≤ w7.heap.size := (m2 0 (Nat.zero_le _) (Nat.zero_le _)).size
  have X7 := Lib.hid (X6.out.trans b7)
  have DL7 := Lib.hid (m3 _ _ _ (by omega) DL6.out)
  have DX7 := Lib.hid (m3 _ _ _ (by omega) DX6.out)
  have DY7 := Lib.hid (m3 _ _ _ (by omega) DY6.out)
  have K07 := Lib.hid (K06.out.keep (lo2 := U2) (hi2 := U3) (by omega) m3)
  clear m1 m2 m3 b7 DL6 DX6 DY6 K06 K16 X6
  clear l0_6 l1_6 x0_6 x1_6 x2_6 y0_6 y1_6 y2_6
  have l0_7 : w7.cell? ⟨w.heap.size, 0, none⟩ = some (.int .i64 a) := DL7.out.cell (show 0 < 2 by omega)
  have l1_7 : w7.cell? ⟨w.heap.size, 1, none⟩ = some (.int .i64 b) := DL7.out.cell (show 1 < 2 by omega)
  have x0_7 : w7.cell? ⟨U1, 0, none⟩ = some (.int .i64 za) := DX7.out.cell (show 0 < 3 by omega)
  have x1_7 : w7.cell? ⟨U1, 1, none⟩ = some (.int .i64 zb) := DX7.out.cell (show 1 < 3 by omega)
  have x2_7 : w7.cell? ⟨U1, 2, none⟩ = some (.slice A0 zk.length c0) := DX7.out.cell (show 2 < 3 by omega)
  have y0_7 : w7.cell? ⟨U3, 0, none⟩ = some (.int .i64 za) := DY7.out.cell (show 0 < 3 by omega)
  have y1_7 : w7.cell? ⟨U3, 1, none⟩ = some (.int .i64 zb) := DY7.out.cell (show 1 < 3 by omega)
  have y2_7 : w7.cell? ⟨U3, 2, none⟩ = some (.slice A1 zk.length c1) := DY7.out.cell (show 2 < 3 by omega)
  go_wp2_with fail
  refine (heldKC_any _ _ _ _ _ _ _ _ HM.out KM7.out).mono ?_
  rintro e w8 ⟨rfl, hb8⟩
  have DL8 := Lib.hid (DL7.out.call hb8)
  have DX8 := Lib.hid (DX7.out.call hb8)
  have DY8 := Lib.hid (DY7.out.call hb8)
  have K08 := Lib.hid (K07.out.call hb8)
  have KM8 := Lib.hid (KM7.out.call hb8)
  have X8 := Lib.hid (bel_call X7.out hb8)
  have s8 := hb8.size
  clear hb8 DL7 DX7 DY7 K07 KM7 X7
  clear l0_7 l1_7 x0_7 x1_7 x2_7 y0_7 y1_7 y2_7
  have l0_8 : w8.cell? ⟨w.heap.size, 0, none⟩ = some (.int .i64 a) := DL8.out.cell (show 0 < 2 by omega)
  have l1_8 : w8.cell? ⟨w.heap.size, 1, none⟩ = some (.int .i64 b) := DL8.out.cell (show 1 < 2 by omega)
  have x0_8 : w8.cell? ⟨U1, 0, none⟩ = some (.int .i64 za) := DX8.out.cell (show 0 < 3 by omega)
  have x1_8 : w8.cell? ⟨U1, 1, none⟩ = some (.int .i64 zb) := DX8.out.cell (show 1 < 3 by omega)
  have x2_8 : w8.cell? ⟨U1, 2, none⟩ = some (.slice A0 zk.length c0) := DX8.out.cell (show 2 < 3 by omega)
  have y0_8 : w8.cell? ⟨U3, 0, none⟩ = some (.int .i64 za) := DY8.out.cell (show 0 < 3 by omega)
  have y1_8 : w8.cell? ⟨U3, 1, none⟩ = some (.int .i64 zb) := DY8.out.cell (show 1 < 3 by omega)
  have y2_8 : w8.cell? ⟨U3, 2, none⟩ = some (.slice A1 zk.length c1) := DY8.out.cell (show 2 < 3 by omega)
  go_wp2_with (go_at_call 17; refine (toLock_any _ _ _).mono ?_; rintro e w9 ⟨rfl, hb9⟩)
  refine (makePuzzle_any _ _ s _ _ _ HS.out).mono ?_
  intro e w10 h10
  obtain ⟨A4, c4, rfl, k4, hb10⟩ := (id h10)
  rw [HZ2.out] at k4
  rw [HZ0.out, HZ1.out, HZ2.out, HZ3.out]
  have DX10 := Lib.hid ((DX8.out.call hb9).call hb10)
  have DY10 := Lib.hid ((DY8.out.call hb9).call hb10)
  have K010 := Lib.hid ((K08.out.call hb9).call hb10)
  have KM10 := Lib.hid ((KM8.out.call hb9).call hb10)
  have X10 := Lib.hid (bel_call (bel_call X8.out hb9) hb10)
  have K410 := Lib.hid k4
  clear hb9 hb10 h10 k4 DL8 DX8 DY8 K08 KM8 X8
  clear l0_8 l1_8 x0_8 x1_8 x2_8 y0_8 y1_8 y2_8
  have x0_10 : w10.cell? ⟨U1, 0, none⟩ = some (.int .i64 za) := DX10.out.cell (show 0 < 3 by omega)
  have x1_10 : w10.cell? ⟨U1, 1, none⟩ = some (.int .i64 zb) := DX10.out.cell (show 1 < 3 by omega)
  have x2_10 : w10.cell? ⟨U1, 2, none⟩ = some (.slice A0 zk.length c0) := DX10.out.cell (show 2 < 3 by omega)
  have y0_10 : w10.cell? ⟨U3, 0, none⟩ = some (.int .i64 za) := DY10.out.cell (show 0 < 3 by omega)
  have y1_10 : w10.cell? ⟨U3, 1, none⟩ = some (.int .i64 zb) := DY10.out.cell (show 1 < 3 by omega)
  have y2_10 : w10.cell? ⟨U3, 2, none⟩ = some (.slice A1 zk.length c1) := DY10.out.cell (show 2 < 3 by omega)
  have x0_10n : (w10.alloc (.cells #[.int .i64 za, .int .i64 zb, .slice A4 zk.length c4] 33)).cell? ⟨U1, 0, none⟩ = some (.int .i64 za) := (DX10.out.alloc _).cell (show 0 < 3 by omega)
  have x1_10n : (w10.alloc (.cells #[.int .i64 za, .int .i64 zb, .slice A4 zk.length c4] 33)).cell? ⟨U1, 1, none⟩ = some (.int .i64 zb) := (DX10.out.alloc _).cell (show 1 < 3 by omega)
  have x2_10n : (w10.alloc (.cells #[.int .i64 za, .int .i64 zb, .slice A4 zk.length c4] 33)).cell? ⟨U1, 2, none⟩ = some (.slice A0 zk.length c0) := (DX10.out.alloc _).cell (show 2 < 3 by omega)
  go_wp2_with fail
  have hbq : Below w10.heap.size w10 (w10.alloc (.cells #[.int .i64 za, .int .i64 zb, .slice A4 zk.length c4] 33)) := (Below.refl _ _).alloc (Nat.le_refl _) _
  refine (eqKC_any _ _ _ _ _ _ _ _ _ _ zk _ HM.out (K410.out.call hbq) (K010.out.call hbq)).mono ?_
  rintro e w11 ⟨rfl, hb11⟩
  have DY11 := Lib.hid ((DY10.out.call hbq).call hb11)
  have KM11 := Lib.hid ((KM10.out.call hbq).call hb11)
  have X11 := Lib.hid (bel_call (bel_call X10.out hbq) hb11)
  clear hbq hb11 DX10 DY10 K010 KM10 X10 K410
  clear x0_10 x1_10 x2_10 y0_10 y1_10 y2_10
  clear x0_10n x1_10n x2_10n
  have y0_11 : w11.cell? ⟨U3, 0, none⟩ = some (.int .i64 za) := DY11.out.cell (show 0 < 3 by omega)
  have y1_11 : w11.cell? ⟨U3, 1, none⟩ = some (.int .i64 zb) := DY11.out.cell (show 1 < 3 by omega)
  have y2_11 : w11.cell? ⟨U3, 2, none⟩ = some (.slice A1 zk.length c1) := DY11.out.cell (show 2 < 3 by omega)
  go_wp2_with fail
  refine (heldKC_any _ _ _ _ _ _ _ _ HM.out KM11.out).mono ?_
  rintro e w12 ⟨rfl, hb12⟩
  have X12 := Lib.hid (bel_call X11.out hb12)
  clear hb12 DY11
  go_wp2_with fail
  go_ret
  exact ⟨rfl, X12.out⟩

set_option maxRecDepth 100000 in
theorem lifted (os : Os) (started : os.Started) (H : Type) (enc : TypeId × Value → H) :
    ReturnsInHanded {} Try.checked os 5 .any (Rows.fnExactMakePuzzleSpec.pre6 enc Try.prog Try.f5 Rows.fnExactMakePuzzleRow.domain false) (Rows.fnExactMakePuzzleSpec.post enc Try.prog Try.f5 false true false false) := by
  refine returnsInHanded_of_change (C := Try.checked) Try.own started (by kernel_rfl) Try.func5
    (ChangeSpec.witness6 (enc := enc) (C := Try.checked) false ⟨#[], #[.agg #[.int .i64 0, .int .i64 0], .string ByteArray.empty, .int .i64 0, .int .i64 0], []⟩ 8 (by kernel_rfl) (by kernel_rfl) (by kernel_rfl) (by kernel_rfl)) ?_
  intro W base args ds gs before hval0 hW _ _
  have hval : ∀ (j : Nat) t v, Try.f5.params[j]? = some t → args[j]? = some v → Value.okWide Try.prog W .any base t v := hval0
  have hW' := hW
  obtain ⟨p, q, hA0, hV, rfl, _, _⟩ := hW
  have hA : DataW.TrodAll enc Try.prog W 0 (fun _ => true) true Try.f5.params.toList args.toList ds p := hA0
  rw [Try.params5] at hA hval
  obtain ⟨v0, vs0, d0, ds0, p0, q0, hargs, rfl, rfl, h0, r0⟩ := trodAll_cons hA
  obtain ⟨v1, vs1, d1, ds1, p1, q1, rfl, rfl, rfl, h1, r1⟩ := trodAll_cons r0
  obtain ⟨v2, vs2, d2, ds2, p2, q2, rfl, rfl, rfl, h2, r2⟩ := trodAll_cons r1
  obtain ⟨v3, vs3, d3, ds3, p3, q3, rfl, rfl, rfl, h3, r3⟩ := trodAll_cons r2
  obtain ⟨rfl, rfl, rfl⟩ := trodAll_nil r3
  obtain rfl : args = #[v0, v1, v2, v3] := by cases args; simp_all
  obtain ⟨rfl, rfl⟩ := trodVars_none hV
  have t0 := h0
  have lt0 : ∀ x ∈ p0, x.block < W.heap.size := by obtain ⟨m, hm⟩ := t0; exact DataW.trod_lt m _ _ _ hm
  have t0' := h0
  have t1 := h1
  have lt1 : ∀ x ∈ p1, x.block < W.heap.size := by obtain ⟨m, hm⟩ := t1; exact DataW.trod_lt m _ _ _ hm
  have t1' := h1
  have t2 := h2
  have lt2 : ∀ x ∈ p2, x.block < W.heap.size := by obtain ⟨m, hm⟩ := t2; exact DataW.trod_lt m _ _ _ hm
  have t2' := h2
  have t3 := h3
  have lt3 : ∀ x ∈ p3, x.block < W.heap.size := by obtain ⟨m, hm⟩ := t3; exact DataW.trod_lt m _ _ _ hm
  have t3' := h3
  obtain ⟨x0, x0b, rfl, k0, l0⟩ := open_lock (hval 0 23 v0 rfl rfl) t0'
  obtain ⟨x1, rfl, _, _, k1⟩ := open_string Try.underlying9 (hval 1 9 v1 rfl rfl) t1'
  obtain ⟨x2, rfl, _, _, k2⟩ := open_int Try.underlying3 (hval 2 3 v2 rfl rfl) t2'
  obtain ⟨x3, rfl, _, _, k3⟩ := open_int Try.underlying3 (hval 3 3 v3 rfl rfl) t3'
  clear hA0 hval0
  refine (lawMakePuzzle_true x0 x0b k0 l0 x1 k1 x2 k2 x3 k3 W).mono fun e W' ⟨he, bel⟩ => ?_
  subst he
  exact ⟨_, rfl, _, _, _, [], _, [], hW', trodAll_mk1 (shut_bool Try.underlying4 _), (trodAll_cons_mk (Below.trod Try.laidOut (by kernel_rfl) (of_decide_eq_true (by kernel_rfl)) h0 bel lt0) (trodAll_cons_mk (Below.trod Try.laidOut (by kernel_rfl) (of_decide_eq_true (by kernel_rfl)) h1 bel lt1) (trodAll_cons_mk (Below.trod Try.laidOut (by kernel_rfl) (of_decide_eq_true (by kernel_rfl)) h2 bel lt2) (trodAll_cons_mk (Below.trod Try.laidOut (by kernel_rfl) (of_decide_eq_true (by kernel_rfl)) h3 bel lt3) trodAll_mk0)))), rfl, bel.frame _, fun h => by cases h⟩

set_option maxRecDepth 100000 in
theorem jf : joinedFacts Try.pinned.checked.prog 5 Try.f5 Rows.fnExactMakePuzzleSpec Rows.fnExactMakePuzzleRow = true := by
  unfold joinedFacts
  rw [whole_all.1, whole_all.2.1, whole_all.2.2]
  kernel_rfl

theorem over : Rows.fnExactMakePuzzleRow.holds Try.pinned (OpenSpec.ofChange Rows.fnExactMakePuzzleSpec) :=
  OpenClaim.holds_of_wide 5 Try.f5 rfl rfl rfl rfl rfl rfl rfl ⟨rfl, rfl, rfl, rfl, rfl⟩ rfl rfl rfl rfl rfl (by kernel_rfl) Try.func5 jf
    (of_decide_eq_true (by kernel_rfl)) (by unfold Func.isWrapper; rw [if_neg (of_decide_eq_false (by kernel_rfl))]; exact ⟨rfl, rfl⟩)
    (fun os started H enc _ => lifted os started H enc)

theorem proved : Rows.FnExactMakePuzzleSaid := over
end Go.Proofs.Ytgopaflggbgplaa.fnExactMakePuzzle
