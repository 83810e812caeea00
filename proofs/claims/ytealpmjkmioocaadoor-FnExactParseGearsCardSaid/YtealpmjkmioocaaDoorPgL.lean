/- Gears read from a text: the lock's part, as the program reads it. For texts of at most 2^20 bytes, where the library's variables hold what they are laid with. -/
import Derived.Test.YtealpmjkmioocaaDoorPgS
import Derived.Test.YtealpmjkmioocaaDoorLbs
namespace Go.Proofs.YtealpmjkmioocaaDoor
open Go.ChangeShapes Go.WideShapes Go.ChangeAt Go.RowKit Go.Joins

/-- What the library's variables hold. -/
structure LibW (w : World) : Prop where
  max : ∃ m, w.cell? ⟨0, 0, none⟩ = some (.int .i64 m)
  syn : ∃ ev, w.cell? ⟨1, 0, none⟩ = some ev ∧ (ev = .nilIface ∨ ∃ te pe, ev = .iface te pe)
  ran : ∃ ev, w.cell? ⟨2, 0, none⟩ = some ev ∧ (ev = .nilIface ∨ ∃ te pe, ev = .iface te pe)
  low : 3 ≤ w.heap.size

theorem LibW.below {B : Nat} {w w' : World} (h : LibW w) (hb : Below B w w') (hB : 3 ≤ B) : LibW w' where
  max := by
    obtain ⟨m, hm⟩ := h.max
    exact ⟨m, by rw [hb.cell (p := ⟨0, 0, none⟩) (show 0 < B by omega)]; exact hm⟩
  syn := by
    obtain ⟨m, hm, h2⟩ := h.syn
    exact ⟨m, by rw [hb.cell (p := ⟨1, 0, none⟩) (show 1 < B by omega)]; exact hm, h2⟩
  ran := by
    obtain ⟨m, hm, h2⟩ := h.ran
    exact ⟨m, by rw [hb.cell (p := ⟨2, 0, none⟩) (show 2 < B by omega)]; exact hm, h2⟩
  low := Nat.le_trans h.low hb.size

theorem atoi_any (s : ByteArray) (hs : s.size ≤ 1048576) (w : World) (hL : LibW w) :
    Calls Tryd.prog 25 #[.string s] w fun e w' => ∃ q, e = .returned (.tuple #[.int .i64 (atoiV s.data.toList), q]) ∧ Below w.heap.size w w' := by
  cases h : Lib.atoiAll s.data.toList with
  | ok v =>
    have hv : atoiV s.data.toList = v := by unfold atoiV; rw [h]
    rw [hv]
    refine (Go.Proofs.Tryd.strconv_Atoi_ok s (by omega) v h w).mono ?_
    rintro e w' ⟨rfl, hw⟩
    refine ⟨_, rfl, ?_⟩
    rcases hw with rfl | ⟨t, rfl⟩
    · exact Below.refl _ _
    · exact Lib.bytesWorld_below _ _ _
  | «syntax» =>
    have hv : atoiV s.data.toList = 0 := by unfold atoiV; rw [h]
    rw [hv]
    obtain ⟨ev, h1, h2⟩ := hL.syn
    refine (Go.Proofs.Tryd.strconv_Atoi_syntax s (by omega) h ev w h1 h2).mono ?_
    rintro e w' ⟨N, rfl, _, _, hb⟩
    exact ⟨_, rfl, hb⟩
  | range =>
    have hv : atoiV s.data.toList = Lib.atoiSat s.data.toList := by unfold atoiV; rw [h]
    rw [hv]
    obtain ⟨ev, h1, h2⟩ := hL.ran
    refine (Go.Proofs.Tryd.strconv_Atoi_range s (by omega) h ev w h1 h2).mono ?_
    rintro e w' ⟨N, rfl, _, _, hb⟩
    exact ⟨_, rfl, hb⟩

theorem bytes_neP {x y : ByteArray} (h : x ≠ y) : (x.toList == y.toList) = false := by
  rw [ByteArray.toList_eq, ByteArray.toList_eq]
  have : x.data.toList ≠ y.data.toList := fun e => h (by cases x; cases y; simp only [ByteArray.mk.injEq]; exact Array.toList_inj.1 e)
  simpa using this

theorem cut_le (s : ByteArray) : (Lib.cut s.data.toList [120]).1.length ≤ s.size ∧ (Lib.cut s.data.toList [120]).2.1.length ≤ s.size := by
  unfold Lib.cut
  have hz : s.data.toList.length = s.size := rfl
  split
  · simp only [List.length_take, List.length_drop]
    omega
  · simp only [List.length_nil]
    omega

set_option maxRecDepth 100000 in
set_option maxHeartbeats 2000000 in
theorem lockTextG_any (a b : Int) (w : World) (h : goodB a b = true) :
    Calls Tryd.prog 27 #[.agg #[.int .i64 a, .int .i64 b]] w fun e w' => e = .returned (.string (lkB a b)) ∧ Below w.heap.size w w' := by
  obtain ⟨a1, a6, b2, b10⟩ := good_yes h
  have h1 := numB_size (n := a) (by omega) (by omega)
  have h2 := numB_size (n := b) (by omega) (by omega)
  have h120 : (⟨#[120]⟩ : ByteArray).size = 1 := rfl
  have hadd1 : ∀ W : World, (Op.stringOp .add (numB a) ⟨#[120]⟩).run Tryd.prog W = .ok (.string (numB a ++ ⟨#[120]⟩)) W := fun W => run_string_add_sum _ _ _ (by rw [h120]; omega)
  have hadd2 : ∀ W : World, (Op.stringOp .add (numB a ++ ⟨#[120]⟩) (numB b)).run Tryd.prog W = .ok (.string (lkB a b)) W := fun W => run_string_add_sum _ _ _ (by rw [ByteArray.size_append, h120]; omega)
  have X0 := Lib.hid (show Below w.heap.size w (w.alloc (.cells #[.int .i64 a, .int .i64 b] 23)) from (Below.refl _ _).alloc (Nat.le_refl _) _)
  go_enter Tryd.func27, Tryd.ntmps27
  go_wp2_with fail
  go_region_with (first
    | ((fail_if_success (have := hx1)); go_at_call 45; refine (itoa_any a _ (by omega) (by omega)).mono ?_; rintro e w1 ⟨rfl, hx1⟩; subst hx1; have hx1 : True := trivial)
    | (go_at_call 45; refine (itoa_any b _ (by omega) (by omega)).mono ?_; rintro e w2 ⟨rfl, rfl⟩))
  all_goals
    go_wp2_with fail
    go_ret
    exact ⟨rfl, bel_drew X0.out⟩

set_option maxRecDepth 100000 in
set_option maxHeartbeats 4000000 in
theorem lockWithText_any (s : ByteArray) (hs : s.size ≤ 1048576) (w : World) (hL : LibW w) :
    Calls Tryd.prog 11 #[.string s] w fun e w' => e = .returned (.tuple #[.agg #[.int .i64 (if lkS s then lkW s else 0), .int .i64 (if lkS s then lkD s else 0)], .bool (lkS s)]) ∧ Below w.heap.size w w' := by
  have HL := Lib.hid hL
  have hl := hL.low
  obtain ⟨m, hm⟩ := hL.max
  obtain ⟨c1, c2⟩ := cut_le s
  obtain ⟨p, hp⟩ : ∃ p, (Lib.cut s.data.toList [120]).1 = p := ⟨_, rfl⟩
  obtain ⟨q, hq⟩ : ∃ q, (Lib.cut s.data.toList [120]).2.1 = q := ⟨_, rfl⟩
  obtain ⟨W, hW⟩ : ∃ W, lkW s = W := ⟨_, rfl⟩
  obtain ⟨D, hD⟩ : ∃ D, lkD s = D := ⟨_, rfl⟩
  obtain ⟨V, hV⟩ : ∃ V, lkS s = V := ⟨_, rfl⟩
  have HW : Hid (atoiV p = W) := Lib.hid (by rw [← hW]; unfold lkW; rw [hp])
  have HD : Hid (atoiV q = D) := Lib.hid (by rw [← hD]; unfold lkD; rw [hq])
  have HV : Hid ((goodB W D && decide (lkB W D = s)) = V) := Lib.hid (by rw [← hV, ← hW, ← hD]; rfl)
  rw [hW, hD, hV]
  clear hW hD hV
  rw [hp] at c1
  rw [hq] at c2
  have X0 : Below w.heap.size w (w.alloc (.cells #[.int .i64 0, .int .i64 0] 23)) := (Below.refl _ _).alloc (Nat.le_refl _) _
  clear hL
  go_enter Tryd.func11, Tryd.ntmps11
  go_wp2_with (go_at_call 24; refine (Go.Proofs.Tryd.strings_Cut s ⟨#[120]⟩ m _ (by omega) (by rw [X0.cell (p := ⟨0, 0, none⟩) (show 0 < w.heap.size by omega)]; exact hm)).mono ?_; rintro e w1 ⟨rfl, n1, rfl⟩; rw [show (⟨#[120]⟩ : ByteArray).data.toList = [120] from rfl, hp, hq])
  have X2 := Lib.hid (show Below w.heap.size w (((w.alloc (.cells #[.int .i64 0, .int .i64 0] 23)).drewN n1).alloc (.cells #[.int .i64 0, .int .i64 0] 23)) from (bel_drewN X0 n1).alloc (bel_drewN X0 n1).size _)
  have hU : ((w.alloc (.cells #[.int .i64 0, .int .i64 0] 23)).drewN n1).heap.size = w.heap.size + 1 := World.size_alloc ..
  have C2 : Cells (((w.alloc (.cells #[.int .i64 0, .int .i64 0] 23)).drewN n1).alloc (.cells #[.int .i64 0, .int .i64 0] 23)) (w.heap.size + 1) 2 (fun j => #[.int .i64 0, .int .i64 0].toList.getD j undef) := Cells.new hU.symm rfl
  have R2 : Cells (((w.alloc (.cells #[.int .i64 0, .int .i64 0] 23)).drewN n1).alloc (.cells #[.int .i64 0, .int .i64 0] 23)) w.heap.size 2 (fun j => #[.int .i64 0, .int .i64 0].toList.getD j undef) := ((Cells.new (n := 2) rfl rfl).drewN n1).alloc _
  refine (atoi_any ⟨p.toArray⟩ (by show p.toArray.size ≤ _; rw [List.size_toArray]; omega) _ (HL.out.below X2.out hl)).mono ?_
  rintro e w2 ⟨q1, rfl, hb2⟩
  rw [show atoiV (⟨p.toArray⟩ : ByteArray).data.toList = W from HW.out]
  have C3 := Lib.hid (C2.call hb2)
  have R3 := Lib.hid (R2.call hb2)
  have X3 := Lib.hid (bel_call X2.out hb2)
  clear C2 R2 X2 hb2 X0 hp hq hm
  have hs2 := X3.out.size
  have l0 : w2.cell? ⟨w.heap.size + 1, 0, none⟩ = some (.int .i64 0) := C3.out.cell (show 0 < 2 by omega)
  have f0 := C3.out.frozen (show 0 < 2 by omega)
  have X4 := Lib.hid (X3.out.setCell (p := ⟨w.heap.size + 1, 0, none⟩) (by show w.heap.size ≤ w.heap.size + 1; omega) (.int .i64 W))
  have C4 := Lib.hid (C3.out.set_ (k := 0) (by omega) (.int .i64 W))
  have R4 := Lib.hid (R3.out.far (p := ⟨w.heap.size + 1, 0, none⟩) (by show w.heap.size + 1 ≠ w.heap.size; omega) (.int .i64 W))
  go_wp2_with (go_at_call 25; refine (atoi_any ⟨q.toArray⟩ (by show q.toArray.size ≤ _; rw [List.size_toArray]; omega) _ (HL.out.below X4.out hl)).mono ?_; rintro e w3 ⟨q2, rfl, hb3⟩; rw [show atoiV (⟨q.toArray⟩ : ByteArray).data.toList = D from HD.out]
               have C5 := Lib.hid (C4.out.call hb3)
               have R5 := Lib.hid (R4.out.call hb3)
               have X5 := Lib.hid (bel_call X4.out hb3)
               clear l0 f0 hb3
               have l0 : w3.cell? ⟨w.heap.size + 1, 0, none⟩ = some (.int .i64 W) := C5.out.cell (show 0 < 2 by omega)
               have l1 : w3.cell? ⟨w.heap.size + 1, 1, none⟩ = some (.int .i64 0) := C5.out.cell (show 1 < 2 by omega)
               have f1 := C5.out.frozen (show 1 < 2 by omega))
  have hw1 : w.heap.size ≤ w.heap.size + 1 := by omega
  have hne : w.heap.size + 1 ≠ w.heap.size := by omega
  refine (isLock_any _ _ _).mono ?_
  rintro e w4 ⟨rfl, hb4⟩
  have C6 := Lib.hid ((C5.out.set_ (k := 1) (by omega) (.int .i64 D)).call hb4)
  have R6 := Lib.hid ((R5.out.far (p := ⟨w.heap.size + 1, 1, none⟩) hne (.int .i64 D)).call hb4)
  have X6 := Lib.hid (bel_call (X5.out.setCell (p := ⟨w.heap.size + 1, 1, none⟩) hw1 (.int .i64 D)) hb4)
  clear l0 l1 f1 hb4 C3 C4 C5 R3 R4 R5 X3 X4 X5
  have l0 : w4.cell? ⟨w.heap.size + 1, 0, none⟩ = some (.int .i64 W) := C6.out.cell (show 0 < 2 by omega)
  have l1 : w4.cell? ⟨w.heap.size + 1, 1, none⟩ = some (.int .i64 D) := C6.out.cell (show 1 < 2 by omega)
  have r0 : w4.cell? ⟨w.heap.size, 0, none⟩ = some (.int .i64 0) := R6.out.cell (show 0 < 2 by omega)
  have r1 : w4.cell? ⟨w.heap.size, 1, none⟩ = some (.int .i64 0) := R6.out.cell (show 1 < 2 by omega)
  have g0 := R6.out.frozen (show 0 < 2 by omega)
  have g1 := R6.out.frozen (show 1 < 2 by omega)
  rcases hg : goodB W D with _ | _
  · obtain rfl : V = false := by rw [← HV.out, hg]; rfl
    go_wp2_with fail
    refine bodyPost_ret (v := .tuple #[.agg #[.int .i64 0, .int .i64 0], .bool false]) (by simp [results, Tryd.results11, go_sem, r0, r1]) rfl ?_
    exact ⟨rfl, (X6.out.setCell (p := ⟨w.heap.size, 0, none⟩) (Nat.le_refl _) _).setCell (p := ⟨w.heap.size, 1, none⟩) (Nat.le_refl _) _⟩
  · have HVd : Hid (decide (lkB W D = s) = V) := Lib.hid (by rw [← HV.out, hg, Bool.true_and])
    have HG := Lib.hid hg
    clear hg
    rcases V with _ | _
    · have hsame : ((lkB W D).toList == s.toList) = false := bytes_neP (of_decide_eq_false HVd.out)
      go_wp2_with (go_at_call 27; refine (lockTextG_any _ _ _ HG.out).mono ?_; rintro e w5 ⟨rfl, hb5⟩
                   have C7 := Lib.hid (C6.out.call hb5)
                   have R7 := Lib.hid (R6.out.call hb5)
                   have X7 := Lib.hid (bel_call X6.out hb5)
                   clear l0 l1 r0 r1 g0 g1 hb5
                   have l0 : w5.cell? ⟨w.heap.size + 1, 0, none⟩ = some (.int .i64 W) := C7.out.cell (show 0 < 2 by omega)
                   have l1 : w5.cell? ⟨w.heap.size + 1, 1, none⟩ = some (.int .i64 D) := C7.out.cell (show 1 < 2 by omega)
                   have r0 : w5.cell? ⟨w.heap.size, 0, none⟩ = some (.int .i64 0) := R7.out.cell (show 0 < 2 by omega)
                   have r1 : w5.cell? ⟨w.heap.size, 1, none⟩ = some (.int .i64 0) := R7.out.cell (show 1 < 2 by omega)
                   have g0 := R7.out.frozen (show 0 < 2 by omega)
                   have g1 := R7.out.frozen (show 1 < 2 by omega))
      refine bodyPost_ret (v := .tuple #[.agg #[.int .i64 0, .int .i64 0], .bool false]) (by simp [results, Tryd.results11, go_sem, r0, r1]) rfl ?_
      exact ⟨rfl, (X7.out.setCell (p := ⟨w.heap.size, 0, none⟩) (Nat.le_refl _) _).setCell (p := ⟨w.heap.size, 1, none⟩) (Nat.le_refl _) _⟩
    · have hsame : ((lkB W D).toList == s.toList) = true := by rw [of_decide_eq_true HVd.out]; exact beq_self_eq_true _
      go_wp2_with (go_at_call 27; refine (lockTextG_any _ _ _ HG.out).mono ?_; rintro e w5 ⟨rfl, hb5⟩
                   have C7 := Lib.hid (C6.out.call hb5)
                   have R7 := Lib.hid (R6.out.call hb5)
                   have X7 := Lib.hid (bel_call X6.out hb5)
                   clear l0 l1 r0 r1 g0 g1 hb5
                   have l0 : w5.cell? ⟨w.heap.size + 1, 0, none⟩ = some (.int .i64 W) := C7.out.cell (show 0 < 2 by omega)
                   have l1 : w5.cell? ⟨w.heap.size + 1, 1, none⟩ = some (.int .i64 D) := C7.out.cell (show 1 < 2 by omega)
                   have r0 : w5.cell? ⟨w.heap.size, 0, none⟩ = some (.int .i64 0) := R7.out.cell (show 0 < 2 by omega)
                   have r1 : w5.cell? ⟨w.heap.size, 1, none⟩ = some (.int .i64 0) := R7.out.cell (show 1 < 2 by omega)
                   have g0 := R7.out.frozen (show 0 < 2 by omega)
                   have g1 := R7.out.frozen (show 1 < 2 by omega))
      refine bodyPost_ret (v := .tuple #[.agg #[.int .i64 W, .int .i64 D], .bool true]) (by simp [results, Tryd.results11, go_sem, r0, r1]) rfl ?_
      exact ⟨rfl, (X7.out.setCell (p := ⟨w.heap.size, 0, none⟩) (Nat.le_refl _) _).setCell (p := ⟨w.heap.size, 1, none⟩) (Nat.le_refl _) _⟩

end Go.Proofs.YtealpmjkmioocaaDoor
