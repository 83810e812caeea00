/- Gears with a knob more, as the program makes them. For at most 1048576 numbers. -/
import Derived.Test.YtejpcbkhlnjlfaaDropI
namespace Go.Proofs.Ytejpcbkhlnjlfaa
set_option maxRecDepth 100000
open Go.ChangeShapes Go.WideShapes Go.ChangeAt Go.RowKit Go.Joins

set_option maxHeartbeats 4000000 in
theorem addKnobG_any (a b : Int) (A : Option Addr) (n c gx nx : Nat) (cx : Nat) (ks : List (List Int)) (xs : List Int) (w : World) (hm : n + lensAt ks n ≤ 1048576) (hx : nx ≤ 1048576) (hA : KnobsA w A n ks) (hX : xs.length = nx) (hC : Cells w gx nx (digF xs)) :
    Calls Try.prog 60 #[.agg #[.int .i64 a, .int .i64 b, .slice A n c], .slice (some ⟨gx, 0, none⟩) nx cx] w (GearsOut w (akA a b ks xs a) (akA a b ks xs b) (akZ a b ks xs) (akB a b ks xs)) := by
  have HA := Lib.hid hA
  have HN := Lib.hid hA.len
  have HXN := Lib.hid hX
  have HC := Lib.hid hC
  have HU := Lib.hid (show Cells ((w.alloc (.cells #[.int .i64 a, .int .i64 b, .slice A n c] 31)).alloc (.cells #[.int .i64 0, .int .i64 0, .slice none 0 0] 31)) w.heap.size 3 (gF a b (.slice A n c)) from (Cells.new (W := w) (n := 3) rfl rfl).alloc _)
  have HQ := Lib.hid (show Cells ((w.alloc (.cells #[.int .i64 a, .int .i64 b, .slice A n c] 31)).alloc (.cells #[.int .i64 0, .int .i64 0, .slice none 0 0] 31)) (w.heap.size + 1) 3 (gF 0 0 (.slice none 0 0)) from Cells.new (n := 3) (by simp) rfl)
  have HB0 := Lib.hid (show Below w.heap.size w ((w.alloc (.cells #[.int .i64 a, .int .i64 b, .slice A n c] 31)).alloc (.cells #[.int .i64 0, .int .i64 0, .slice none 0 0] 31)) by (repeat (first | assumption | exact Below.refl _ _ | (refine Below.alloc ?_ (by first | omega | (simp; done) | (simp; omega)) _) | (refine Below.setCell ?_ (by first | omega | (simp; done) | (simp; omega)) _) | refine bel_drewN ?_ _ | refine bel_drew ?_ | (refine bel_call ?_ (by assumption)))))
  clear hA hX hC
  obtain ⟨u, HG⟩ : ∃ u, Hid (gearsB a b ks = u) := ⟨_, Lib.hid rfl⟩
  rcases u with _ | _
  · have HD : Hid (akB a b ks xs = false) := Lib.hid (by unfold akB; rw [HG.out]; rfl)
    go_enter Try.func60, Try.ntmps60
    go_wp2_with (first
      | (go_at_call 21; refine (areGears_any _ _ _ _ _ ks _ hm (HA.out.below HB0.out)).mono ?_; rw [HG.out]; rintro e w1 ⟨rfl, hb1⟩
         have D1 := Lib.hid (HU.out.call hb1)
         have E1 := Lib.hid (HQ.out.call hb1)
         have B1 := Lib.hid (bel_call HB0.out hb1)
         have l0 : w1.cell? ⟨w.heap.size, 0, none⟩ = some (.int .i64 a) := D1.out.cell (show 0 < 3 by omega)
         have l1 : w1.cell? ⟨w.heap.size, 1, none⟩ = some (.int .i64 b) := D1.out.cell (show 1 < 3 by omega)
         have l2 : w1.cell? ⟨w.heap.size, 2, none⟩ = some (.slice A n c) := D1.out.cell (show 2 < 3 by omega)
         have q0 : w1.cell? ⟨w.heap.size + 1, 0, none⟩ = some (.int .i64 0) := E1.out.cell (show 0 < 3 by omega)
         have q1 : w1.cell? ⟨w.heap.size + 1, 1, none⟩ = some (.int .i64 0) := E1.out.cell (show 1 < 3 by omega)
         have q2 : w1.cell? ⟨w.heap.size + 1, 2, none⟩ = some (.slice none 0 0) := E1.out.cell (show 2 < 3 by omega)
         have f0 := E1.out.frozen (show 0 < 3 by omega)
         have f1 := E1.out.frozen (show 1 < 3 by omega)
         have f2 := E1.out.frozen (show 2 < 3 by omega)))
    refine bodyPost_ret (v := .tuple #[.agg #[.int .i64 0, .int .i64 0, .slice none 0 0], .bool false]) (by simp [results, Try.results60, go_sem, q0, q1, q2]) rfl ?_
    unfold akA akZ
    rw [HD.out]
    exact gears_none (((B1.out.setCell (p := ⟨w.heap.size + 1, 0, none⟩) (by show w.heap.size ≤ w.heap.size + 1; omega) _).setCell (p := ⟨w.heap.size + 1, 1, none⟩) (by show w.heap.size ≤ w.heap.size + 1; omega) _).setCell (p := ⟨w.heap.size + 1, 2, none⟩) (by show w.heap.size ≤ w.heap.size + 1; omega) _)
  · have HY := Lib.hid (gearsB_yes HG.out)
    have hy3 := HY.out.2.2.1
    have hy4 := HY.out.2.2.2.1
    rw [HN.out] at hy3 hy4
    by_cases h1 : n = 5
    · have h1' : ((n : Int) == 5) = true := by simpa using (show (n : Int) = 5 by omega)
      have HD : Hid (akB a b ks xs = false) := Lib.hid (by unfold akB; rw [HN.out, decide_eq_true h1]; simp)
      clear h1
      go_enter Try.func60, Try.ntmps60
      go_wp2_with (first
        | (go_at_call 21; refine (areGears_any _ _ _ _ _ ks _ hm (HA.out.below HB0.out)).mono ?_; rw [HG.out]; rintro e w1 ⟨rfl, hb1⟩
           have D1 := Lib.hid (HU.out.call hb1)
           have E1 := Lib.hid (HQ.out.call hb1)
           have B1 := Lib.hid (bel_call HB0.out hb1)
           have l0 : w1.cell? ⟨w.heap.size, 0, none⟩ = some (.int .i64 a) := D1.out.cell (show 0 < 3 by omega)
           have l1 : w1.cell? ⟨w.heap.size, 1, none⟩ = some (.int .i64 b) := D1.out.cell (show 1 < 3 by omega)
           have l2 : w1.cell? ⟨w.heap.size, 2, none⟩ = some (.slice A n c) := D1.out.cell (show 2 < 3 by omega)
           have q0 : w1.cell? ⟨w.heap.size + 1, 0, none⟩ = some (.int .i64 0) := E1.out.cell (show 0 < 3 by omega)
           have q1 : w1.cell? ⟨w.heap.size + 1, 1, none⟩ = some (.int .i64 0) := E1.out.cell (show 1 < 3 by omega)
           have q2 : w1.cell? ⟨w.heap.size + 1, 2, none⟩ = some (.slice none 0 0) := E1.out.cell (show 2 < 3 by omega)
           have f0 := E1.out.frozen (show 0 < 3 by omega)
           have f1 := E1.out.frozen (show 1 < 3 by omega)
           have f2 := E1.out.frozen (show 2 < 3 by omega)))
      refine bodyPost_ret (v := .tuple #[.agg #[.int .i64 0, .int .i64 0, .slice none 0 0], .bool false]) (by simp [results, Try.results60, go_sem, q0, q1, q2]) rfl ?_
      unfold akA akZ
      rw [HD.out]
      exact gears_none (((B1.out.setCell (p := ⟨w.heap.size + 1, 0, none⟩) (by show w.heap.size ≤ w.heap.size + 1; omega) _).setCell (p := ⟨w.heap.size + 1, 1, none⟩) (by show w.heap.size ≤ w.heap.size + 1; omega) _).setCell (p := ⟨w.heap.size + 1, 2, none⟩) (by show w.heap.size ≤ w.heap.size + 1; omega) _)
    · have h1' : ((n : Int) == 5) = false := by simpa using (show ¬ (n : Int) = 5 by omega)
      obtain ⟨u, HK⟩ : ∃ u, Hid (knobB a b xs = u) := ⟨_, Lib.hid rfl⟩
      rcases u with _ | _
      · have HD : Hid (akB a b ks xs = false) := Lib.hid (by unfold akB; rw [HK.out, Bool.and_false, Bool.false_and])
        clear h1
        go_enter Try.func60, Try.ntmps60
        go_wp2_with (first
          | (go_at_call 21; refine (areGears_any _ _ _ _ _ ks _ hm (HA.out.below HB0.out)).mono ?_; rw [HG.out]; rintro e w1 ⟨rfl, hb1⟩
             have D1 := Lib.hid (HU.out.call hb1)
             have E1 := Lib.hid (HQ.out.call hb1)
             have B1 := Lib.hid (bel_call HB0.out hb1)
             have l0 : w1.cell? ⟨w.heap.size, 0, none⟩ = some (.int .i64 a) := D1.out.cell (show 0 < 3 by omega)
             have l1 : w1.cell? ⟨w.heap.size, 1, none⟩ = some (.int .i64 b) := D1.out.cell (show 1 < 3 by omega)
             have l2 : w1.cell? ⟨w.heap.size, 2, none⟩ = some (.slice A n c) := D1.out.cell (show 2 < 3 by omega)
             have q0 : w1.cell? ⟨w.heap.size + 1, 0, none⟩ = some (.int .i64 0) := E1.out.cell (show 0 < 3 by omega)
             have q1 : w1.cell? ⟨w.heap.size + 1, 1, none⟩ = some (.int .i64 0) := E1.out.cell (show 1 < 3 by omega)
             have q2 : w1.cell? ⟨w.heap.size + 1, 2, none⟩ = some (.slice none 0 0) := E1.out.cell (show 2 < 3 by omega)
             have f0 := E1.out.frozen (show 0 < 3 by omega)
             have f1 := E1.out.frozen (show 1 < 3 by omega)
             have f2 := E1.out.frozen (show 2 < 3 by omega))
          | (go_at_call 65; refine (hasKnob_any _ _ _ _ _ xs _ hx ((IntsA.of_cells HXN.out HC.out).below B1.out)).mono ?_; rw [HK.out]; rintro e w2 ⟨rfl, hb2⟩
             have D2 := Lib.hid (D1.out.call hb2)
             have E2 := Lib.hid (E1.out.call hb2)
             have B2 := Lib.hid (bel_call B1.out hb2)
             clear l0 l1 l2 q0 q1 q2 f0 f1 f2
             have l0 : w2.cell? ⟨w.heap.size, 0, none⟩ = some (.int .i64 a) := D2.out.cell (show 0 < 3 by omega)
             have l1 : w2.cell? ⟨w.heap.size, 1, none⟩ = some (.int .i64 b) := D2.out.cell (show 1 < 3 by omega)
             have l2 : w2.cell? ⟨w.heap.size, 2, none⟩ = some (.slice A n c) := D2.out.cell (show 2 < 3 by omega)
             have q0 : w2.cell? ⟨w.heap.size + 1, 0, none⟩ = some (.int .i64 0) := E2.out.cell (show 0 < 3 by omega)
             have q1 : w2.cell? ⟨w.heap.size + 1, 1, none⟩ = some (.int .i64 0) := E2.out.cell (show 1 < 3 by omega)
             have q2 : w2.cell? ⟨w.heap.size + 1, 2, none⟩ = some (.slice none 0 0) := E2.out.cell (show 2 < 3 by omega)
             have f0 := E2.out.frozen (show 0 < 3 by omega)
             have f1 := E2.out.frozen (show 1 < 3 by omega)
             have f2 := E2.out.frozen (show 2 < 3 by omega)))
        refine bodyPost_ret (v := .tuple #[.agg #[.int .i64 0, .int .i64 0, .slice none 0 0], .bool false]) (by simp [results, Try.results60, go_sem, q0, q1, q2]) rfl ?_
        unfold akA akZ
        rw [HD.out]
        exact gears_none (((B2.out.setCell (p := ⟨w.heap.size + 1, 0, none⟩) (by show w.heap.size ≤ w.heap.size + 1; omega) _).setCell (p := ⟨w.heap.size + 1, 1, none⟩) (by show w.heap.size ≤ w.heap.size + 1; omega) _).setCell (p := ⟨w.heap.size + 1, 2, none⟩) (by show w.heap.size ≤ w.heap.size + 1; omega) _)
      · have HD : Hid (akB a b ks xs = true) := Lib.hid (by unfold akB; rw [HG.out, HK.out, HN.out, decide_eq_false h1]; rfl)
        have HZ : Hid (akZ a b ks xs = ks ++ [xs]) := Lib.hid (by unfold akZ; rw [HD.out, if_pos rfl])
        have HSZ : Hid ((n + 1) + lensAt (ks ++ [xs]) (n + 1) ≤ 1048576 ∧ (ks ++ [xs]).length = n + 1) := Lib.hid (by
          have h2 := akZ_size a b ks xs
          have h3 : (ks ++ [xs]).length = n + 1 := by rw [List.length_append, HN.out]; rfl
          rw [HZ.out, h3] at h2
          exact ⟨by omega, h3⟩)
        have hpos : ∀ {ys : List Int}, knobB a b ys = true → 0 < ys.length := fun {ys} h => by
          unfold knobB at h
          rw [Bool.and_eq_true, decide_eq_true_eq] at h
          have h2 := good_yes HY.out.1
          omega
        have HNE : Hid (∀ j, j < n + 1 → 0 < ((ks ++ [xs]).getD j []).length) := Lib.hid (fun j hj => by
          by_cases h : j < ks.length
          · have e : (ks ++ [xs]).getD j [] = ks.getD j [] := getD_snoc_lt h
            rw [e]
            exact hpos (HY.out.2.2.2.2 j h)
          · have hjk : j = ks.length := by rw [HN.out] at h ⊢; omega
            have e : (ks ++ [xs]).getD j [] = xs := by rw [hjk]; exact getD_snoc_eq
            rw [e]
            exact hpos HK.out)
        obtain ⟨b0, off, rfl, hb0, hc⟩ := HA.out.at_.resolve_left (by omega)
        have HV0 := Lib.hid (seg_vals (i := 0) (m := n) HN.out (by omega) hc)
        rw [Nat.add_zero, List.drop_zero, List.take_of_length_le (by rw [HN.out]; exact Nat.le_refl _)] at HV0
        have HP0 := Lib.hid (seg_part hb0 HV0.out rfl)
        generalize segV w b0 off n = v0 at HV0 HP0
        have HV1 : Hid (Vals w [.slice (some ⟨gx, 0, none⟩) nx cx] [xs]) := Lib.hid ⟨rfl, fun j hj => by
          obtain rfl : j = 0 := by simp at hj; omega
          refine ⟨some ⟨gx, 0, none⟩, cx, by show some (.slice (some ⟨gx, 0, none⟩) nx cx) = some (Value.slice _ xs.length cx); rw [HXN.out], ?_, ?_⟩
          · show xs.length ≤ maxLen
            rw [HXN.out]; unfold maxLen; omega
          · show IntsA w _ xs.length xs
            exact IntsA.of_cells rfl (by rw [HXN.out]; exact HC.out)⟩
        clear h1 hc hb0 hpos
        go_enter Try.func60, Try.ntmps60
        go_wp2_with (first
          | (go_at_call 21; refine (areGears_any _ _ _ _ _ ks _ hm (HA.out.below HB0.out)).mono ?_; rw [HG.out]; rintro e w1 ⟨rfl, hb1⟩
             have D1 := Lib.hid (HU.out.call hb1)
             have E1 := Lib.hid (HQ.out.call hb1)
             have B1 := Lib.hid (bel_call HB0.out hb1)
             have l0 : w1.cell? ⟨w.heap.size, 0, none⟩ = some (.int .i64 a) := D1.out.cell (show 0 < 3 by omega)
             have l1 : w1.cell? ⟨w.heap.size, 1, none⟩ = some (.int .i64 b) := D1.out.cell (show 1 < 3 by omega)
             have l2 : w1.cell? ⟨w.heap.size, 2, none⟩ = some (.slice (some ⟨b0, off, none⟩) n c) := D1.out.cell (show 2 < 3 by omega)
             have q0 : w1.cell? ⟨w.heap.size + 1, 0, none⟩ = some (.int .i64 0) := E1.out.cell (show 0 < 3 by omega)
             have q1 : w1.cell? ⟨w.heap.size + 1, 1, none⟩ = some (.int .i64 0) := E1.out.cell (show 1 < 3 by omega)
             have q2 : w1.cell? ⟨w.heap.size + 1, 2, none⟩ = some (.slice none 0 0) := E1.out.cell (show 2 < 3 by omega)
             have f0 := E1.out.frozen (show 0 < 3 by omega)
             have f1 := E1.out.frozen (show 1 < 3 by omega)
             have f2 := E1.out.frozen (show 2 < 3 by omega))
          | (go_at_call 65; refine (hasKnob_any _ _ _ _ _ xs _ hx ((IntsA.of_cells HXN.out HC.out).below B1.out)).mono ?_; rw [HK.out]; rintro e w2 ⟨rfl, hb2⟩
             have D2 := Lib.hid (D1.out.call hb2)
             have E2 := Lib.hid (E1.out.call hb2)
             have B2 := Lib.hid (bel_call B1.out hb2)
             clear l0 l1 l2 q0 q1 q2 f0 f1 f2
             have l0 : w2.cell? ⟨w.heap.size, 0, none⟩ = some (.int .i64 a) := D2.out.cell (show 0 < 3 by omega)
             have l1 : w2.cell? ⟨w.heap.size, 1, none⟩ = some (.int .i64 b) := D2.out.cell (show 1 < 3 by omega)
             have l2 : w2.cell? ⟨w.heap.size, 2, none⟩ = some (.slice (some ⟨b0, off, none⟩) n c) := D2.out.cell (show 2 < 3 by omega)
             have q0 : w2.cell? ⟨w.heap.size + 1, 0, none⟩ = some (.int .i64 0) := E2.out.cell (show 0 < 3 by omega)
             have q1 : w2.cell? ⟨w.heap.size + 1, 1, none⟩ = some (.int .i64 0) := E2.out.cell (show 1 < 3 by omega)
             have q2 : w2.cell? ⟨w.heap.size + 1, 2, none⟩ = some (.slice none 0 0) := E2.out.cell (show 2 < 3 by omega)
             have f0 := E2.out.frozen (show 0 < 3 by omega)
             have f1 := E2.out.frozen (show 1 < 3 by omega)
             have f2 := E2.out.frozen (show 2 < 3 by omega)))
        have Q0 := Lib.hid (HP0.out.below B2.out (Nat.le_refl _))
        have V0 := Lib.hid (HV0.out.below B2.out)
        have V1 := Lib.hid (HV1.out.below B2.out)
        clear HP0 HV0 HV1 HU HQ HB0 q0 q1 q2 f0 f1 f2
        have m0 : (w2.alloc (.cells #[.slice (some ⟨gx, 0, none⟩) nx cx] 43)).cell? ⟨w.heap.size, 0, none⟩ = some (.int .i64 a) := (D2.out.alloc _).cell (show 0 < 3 by omega)
        have m1 : (w2.alloc (.cells #[.slice (some ⟨gx, 0, none⟩) nx cx] 43)).cell? ⟨w.heap.size, 1, none⟩ = some (.int .i64 b) := (D2.out.alloc _).cell (show 1 < 3 by omega)
        have m2 : (w2.alloc (.cells #[.slice (some ⟨gx, 0, none⟩) nx cx] 43)).cell? ⟨w.heap.size, 2, none⟩ = some (.slice (some ⟨b0, off, none⟩) n c) := (D2.out.alloc _).cell (show 2 < 3 by omega)
        have p0 : ((w2.alloc (.cells #[.slice (some ⟨gx, 0, none⟩) nx cx] 43)).alloc (.cells #[.slice (some ⟨b0, off, none⟩) n c, .slice (some ⟨w2.heap.size, 0, none⟩) 1 1] 24)).cell? ⟨w.heap.size, 0, none⟩ = some (.int .i64 a) := ((D2.out.alloc _).alloc _).cell (show 0 < 3 by omega)
        have p1 : ((w2.alloc (.cells #[.slice (some ⟨gx, 0, none⟩) nx cx] 43)).alloc (.cells #[.slice (some ⟨b0, off, none⟩) n c, .slice (some ⟨w2.heap.size, 0, none⟩) 1 1] 24)).cell? ⟨w.heap.size, 1, none⟩ = some (.int .i64 b) := ((D2.out.alloc _).alloc _).cell (show 1 < 3 by omega)
        have p2 : ((w2.alloc (.cells #[.slice (some ⟨gx, 0, none⟩) nx cx] 43)).alloc (.cells #[.slice (some ⟨b0, off, none⟩) n c, .slice (some ⟨w2.heap.size, 0, none⟩) 1 1] 24)).cell? ⟨w.heap.size, 2, none⟩ = some (.slice (some ⟨b0, off, none⟩) n c) := ((D2.out.alloc _).alloc _).cell (show 2 < 3 by omega)
        have SZ1 : Hid ((w2.alloc (.cells #[.slice (some ⟨gx, 0, none⟩) nx cx] 43)).heap.size = w2.heap.size + 1) := Lib.hid (by simp)
        have BW := Lib.hid (show Below w2.heap.size w2 (w2.alloc (.cells #[.slice (some ⟨gx, 0, none⟩) nx cx] 43)) from (Below.refl _ _).alloc (Nat.le_refl _) _)
        have BW2 := Lib.hid (show Below w2.heap.size w2 ((w2.alloc (.cells #[.slice (some ⟨gx, 0, none⟩) nx cx] 43)).alloc (.cells #[.slice (some ⟨b0, off, none⟩) n c, .slice (some ⟨w2.heap.size, 0, none⟩) 1 1] 24)) from BW.out.alloc (by rw [SZ1.out]; omega) _)
        have QA := Lib.hid (show Part (w2.alloc (.cells #[.slice (some ⟨gx, 0, none⟩) nx cx] 43)) ⟨w2.heap.size, 0, none⟩ 1 [.slice (some ⟨gx, 0, none⟩) nx cx] from ⟨rfl, by rw [SZ1.out]; show w2.heap.size < _; omega, news_one rfl, V1.out.one⟩)
        go_region_law (first
          | (go_simp; go_at_call 94; refine (concat_any _ _ _ _ _ _ _ _ v0 [.slice (some ⟨gx, 0, none⟩) nx cx] _ (by omega) (by omega) (Cells.new (by simp) rfl) (Q0.out.below (((bel_drew (Below.refl _ _)).alloc (Nat.le_refl _) _).alloc (by simp) _) (Nat.le_refl _)) (QA.out.below ((bel_drew (Below.refl _ _)).alloc (Nat.le_refl _) _) (Nat.le_refl _))).mono ?_; rintro e w5 ⟨v5, rfl, hO5, hb5⟩
             have HB5 := Lib.hid (show Below w2.heap.size w2 w5 from bel_call (((bel_drew (Below.refl _ _)).alloc (Nat.le_refl _) _).alloc (by simp) _) hb5)
             have VS := (V0.out.append V1.out).below HB5.out
             obtain ⟨g5, c5, rfl, hK5⟩ := row_knobs hO5 (by omega) VS
             have K5 := Lib.hid hK5
             have D5 := Lib.hid (D2.out.call HB5.out)
             have l0_w5 : w5.cell? ⟨w.heap.size, 0, none⟩ = some (.int .i64 a) := D5.out.cell (show 0 < 3 by omega)
             have l1_w5 : w5.cell? ⟨w.heap.size, 1, none⟩ = some (.int .i64 b) := D5.out.cell (show 1 < 3 by omega)
             have l2_w5 : w5.cell? ⟨w.heap.size, 2, none⟩ = some (.slice (some ⟨b0, off, none⟩) n c) := D5.out.cell (show 2 < 3 by omega)
             clear hO5 hb5 VS hK5)
          | (go_simp; go_at_call 93; refine (newGears_any _ _ _ _ _ (ks ++ [xs]) _ HSZ.out.1 HNE.out K5.out).mono ?_; rintro e w6 ⟨v6, G, Cp, rfl, hR6, hz6, hb6⟩
             obtain ⟨A6, c6, hv6⟩ := hR6.slice
             rw [HSZ.out.2] at hv6
             subst hv6
             have HB6 := Lib.hid (bel_call HB5.out hb6)
             have R6 := Lib.hid hR6
             have Z6 := Lib.hid (show w2.heap.size ≤ w5.heap.size from HB5.out.size)
             have D6 := Lib.hid (D5.out.call hb6)
             have E6 := Lib.hid (E2.out.call HB6.out)
             have l0_w6 : w6.cell? ⟨w.heap.size, 0, none⟩ = some (.int .i64 a) := D6.out.cell (show 0 < 3 by omega)
             have l1_w6 : w6.cell? ⟨w.heap.size, 1, none⟩ = some (.int .i64 b) := D6.out.cell (show 1 < 3 by omega)
             have l2_w6 : w6.cell? ⟨w.heap.size, 2, none⟩ = some (.slice (some ⟨b0, off, none⟩) n c) := D6.out.cell (show 2 < 3 by omega)
             have q0 : w6.cell? ⟨w.heap.size + 1, 0, none⟩ = some (.int .i64 0) := E6.out.cell (show 0 < 3 by omega)
             have q1 : w6.cell? ⟨w.heap.size + 1, 1, none⟩ = some (.int .i64 0) := E6.out.cell (show 1 < 3 by omega)
             have q2 : w6.cell? ⟨w.heap.size + 1, 2, none⟩ = some (.slice none 0 0) := E6.out.cell (show 2 < 3 by omega)
             have f0 := E6.out.frozen (show 0 < 3 by omega)
             have f1 := E6.out.frozen (show 1 < 3 by omega)
             have f2 := E6.out.frozen (show 2 < 3 by omega)
             clear hR6 hz6 hb6))
        all_goals
          have ZE := E2.out.lt
          have ZB := B2.out.size
          go_wp2_with fail
          refine bodyPost_ret (v := .tuple #[.agg #[.int .i64 a, .int .i64 b, .slice A6 (n + 1) c6], .bool true]) (by simp [results, Try.results60, go_sem, q0, q1, q2]) rfl ?_
          have Z6' := Z6.out
          rw [HZ.out]
          unfold akA
          rw [HD.out]
          exact ⟨_, w5.heap.size + 3, _, _, rfl, by omega, ((R6.out.far (by omega) _).far (by omega) _).far (by omega) _, (((bel_call B2.out HB6.out).setCell (p := ⟨w.heap.size + 1, 0, none⟩) (by show w.heap.size ≤ w.heap.size + 1; omega) _).setCell (p := ⟨w.heap.size + 1, 1, none⟩) (by show w.heap.size ≤ w.heap.size + 1; omega) _).setCell (p := ⟨w.heap.size + 1, 2, none⟩) (by show w.heap.size ≤ w.heap.size + 1; omega) _⟩

theorem addKnob_any (a b : Int) (A : Option Addr) (n c gx nx : Nat) (cx : Nat) (ks : List (List Int)) (xs : List Int) (w : World) (hm : n + lensAt ks n ≤ 1048576) (hx : nx ≤ 1048576) (hA : KnobsC w A n ks) (hX : xs.length = nx) (hC : Cells w gx nx (digF xs)) :
    Calls Try.prog 60 #[.agg #[.int .i64 a, .int .i64 b, .slice A n c], .slice (some ⟨gx, 0, none⟩) nx cx] w (KDOut w (akA a b ks xs a) (akA a b ks xs b) (akZ a b ks xs) (akB a b ks xs)) :=
  (addKnobG_any a b A n c gx nx cx ks xs w hm hx (hA.knobs hm) hX hC).mono fun _ _ h => h.kd

end Go.Proofs.Ytejpcbkhlnjlfaa
