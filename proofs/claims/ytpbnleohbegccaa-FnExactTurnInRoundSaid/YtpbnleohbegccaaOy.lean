/- The turn from a rank to the next one in the round order, as the model tells it. No conditions. -/
import Derived.Test.YtpbnleohbegccaaOu
import Derived.Deep.RegionHeld3
namespace Go.Proofs.Ytpbnleohbegccaa
open Go.ChangeShapes Go.WideShapes Go.ChangeAt Go.RowKit Go.Joins

set_option maxRecDepth 100000 in
set_option maxHeartbeats 8000000 in
theorem specTurnInRound_any (a b x : Int) (w : World) :
    Calls Try.prog 31 #[.agg #[.int .i64 a, .int .i64 b], .int .i64 x] w fun e w' => e = .returned (.tuple #[turnV (trP a b x), .bool (hasNum a b x)]) ∧ Below w.heap.size w w' := by
  have D0 := Lib.hid (cells_two (w := w.alloc (.cells #[.int .i64 a, .int .i64 b] 26)) (x := 0) (y := 0) (t := 33) (g := w.heap.size + 1) (by simp))
  by_cases hx : hasNum a b x = true
  · have HX := Lib.hid hx
    obtain ⟨hg, ha, h0, h1⟩ := has_parts hx
    generalize a.toNat = n at ha h1
    subst ha
    have HG := Lib.hid hg
    obtain ⟨k1, k2, k3, k4⟩ := good_yes hg
    obtain ⟨p1, p2⟩ := pw_bd6 k3 k4 (k := n) (by omega)
    have HN := Lib.hid h1
    obtain ⟨y, hy1⟩ : ∃ y, x + 1 = y := ⟨_, rfl⟩
    have hw1 : IntKind.i64.wrap (x + 1) = y := by rw [← hy1]; exact IntWalk.i64_in _ (by omega)
    have H0 := Lib.hid h0
    obtain ⟨q1, q2, q3⟩ := nx_has hx
    obtain ⟨o1, o2⟩ := round_ot hx
    obtain ⟨-, -, z0, z1'⟩ := has_parts q1
    rw [Int.toNat_natCast] at z1'
    rw [ocT_yes hx, ocT_yes q1] at o1 o2
    have HP : Hid (otP n b (textOf (orL roI b x n)) (textOf (orL roI b (nxR n b x) n)) = trP n b x) := Lib.hid (by unfold trP; rw [hx, if_pos rfl, ocT_yes hx, ocT_yes q1])
    have hmod : y.tmod (pw b n) = nxR n b x := by rw [← q2, ← hy1]; exact Int.tmod_eq_emod_of_nonneg (by omega)
    have O1 := Lib.hid o1
    have O2 := Lib.hid o2
    have H1 := Lib.hid z0
    have HL := Lib.hid z1'
    obtain ⟨p, hp⟩ : ∃ p, trP n b x = p := ⟨_, rfl⟩
    rw [hp] at HP
    have HTP := Lib.hid hp
    clear q1 q2 q3 z0 z1'
    generalize nxR n b x = z at *
    generalize hN : pw b n = N at *
    have HPN := Lib.hid hN
    have HMOD := Lib.hid hmod
    have HW1 := Lib.hid hw1
    clear hx hg o1 o2 hp hN h0 h1 hy1 hmod hw1
    generalize hs : textOf (orL roI b x n) = s at *
    generalize ht : textOf (orL roI b z n) = t at *
    have HS := Lib.hid hs
    have HT := Lib.hid ht
    clear hs ht
    go_enter Try.func31, Try.ntmps31
    go_wp2_with (go_at_call 64; refine (orRank_any _ _ _ _).mono ?_; rw [HX.out]; rintro e w2 ⟨rfl, hb1⟩
                 have D2 := Lib.hid (D0.out.call hb1)
                 have X2 := Lib.hid (show Below w.heap.size w w2 from bel_call (((Below.refl _ _).alloc (Nat.le_refl _) _).alloc (by simp) _) hb1)
                 have z2 : w.heap.size + 1 < w2.heap.size := by have := hb1.size; simp at this; omega
                 have m0 : w2.cell? ⟨w.heap.size, 0, none⟩ = some (.int .i64 n) := (hb1.cell (p := ⟨w.heap.size, 0, none⟩) (by simp; omega)).trans (by simp)
                 have m1 : w2.cell? ⟨w.heap.size, 1, none⟩ = some (.int .i64 b) := (hb1.cell (p := ⟨w.heap.size, 1, none⟩) (by simp; omega)).trans (by simp)
                 clear hb1)
    have hmod := HMOD.out
    have hN0 : N ≠ 0 := by omega
    have hw1 := HW1.out
    refine wp_region_held_drew (S := (fun w' => w'.cell? ⟨w.heap.size, 0, none⟩ = some (.int .i64 n) ∧ w'.cell? ⟨w.heap.size, 1, none⟩ = some (.int .i64 b) ∧ Below w.heap.size w w')) (by kernel_rfl) ⟨m0, m1, bel_drew X2.out⟩ (fun hHeld => ?_)
    refine wpAnyH_take (i := 0) (v := ?_) rfl (by kernel_rfl) (by kernel_rfl) (by kernel_rfl) (fun _ _ _ h => h) (Or.inl ⟨by rfl, by intro w hSw; (try dsimp only at hSw); go_simp; try with_reducible rfl⟩) (by assumption) ?_
    try simp only [Act.put, List.getElem_toArray, List.getElem_cons_zero, List.setIfInBounds_toArray, List.set_cons_zero, List.set_cons_succ]
    refine wpAnyH_take (i := 1) (v := ?_) rfl (by kernel_rfl) (by kernel_rfl) (by kernel_rfl) (fun _ _ _ h => h) (Or.inl ⟨by rfl, by intro w hSw; (try dsimp only at hSw); go_simp; try with_reducible rfl⟩) (by assumption) ?_
    try simp only [Act.put, List.getElem_toArray, List.getElem_cons_zero, List.getElem_cons_succ, List.setIfInBounds_toArray, List.set_cons_zero, List.set_cons_succ]
    refine wpAnyH_take (i := 2) (v := ?_) rfl (by kernel_rfl) (by kernel_rfl) (by kernel_rfl) (fun _ _ _ h => h) (Or.inl ⟨by rfl, by intro w hSw; (try dsimp only at hSw); go_simp; try with_reducible rfl⟩) (by assumption) ?_
    try simp only [Act.put, List.getElem_toArray, List.getElem_cons_zero, List.getElem_cons_succ, List.setIfInBounds_toArray, List.set_cons_zero, List.set_cons_succ]
    refine wpAnyH_take (i := 4) (v := ?_) rfl (by kernel_rfl) (by kernel_rfl) (by kernel_rfl) (fun _ _ _ h => h) (Or.inl ⟨by rfl, by intro w hSw; (try dsimp only at hSw); go_simp; try with_reducible rfl⟩) (by assumption) ?_
    try simp only [Act.put, List.getElem_toArray, List.getElem_cons_zero, List.getElem_cons_succ, List.setIfInBounds_toArray, List.set_cons_zero, List.set_cons_succ]
    refine wpAnyH_take (i := 5) (v := ?_) rfl (by kernel_rfl) (by kernel_rfl) (by kernel_rfl) (fun _ _ _ h => h) (Or.inl ⟨by rfl, by intro w hSw; (try dsimp only at hSw); go_simp; try with_reducible rfl⟩) (by assumption) ?_
    try simp only [Act.put, List.getElem_toArray, List.getElem_cons_zero, List.getElem_cons_succ, List.setIfInBounds_toArray, List.set_cons_zero, List.set_cons_succ]
    refine wpAnyH_take (i := 6) (v := ?_) rfl (by kernel_rfl) (by kernel_rfl) (by kernel_rfl) (fun _ _ _ h => h) (Or.inl ⟨by rfl, by intro w hSw; (try dsimp only at hSw); go_simp; try with_reducible rfl⟩) (by assumption) ?_
    try simp only [Act.put, List.getElem_toArray, List.getElem_cons_zero, List.getElem_cons_succ, List.setIfInBounds_toArray, List.set_cons_zero, List.set_cons_succ]
    refine wpAnyH_take (i := 7) (v := ?_) rfl (by kernel_rfl) (by kernel_rfl) (by kernel_rfl) (fun _ _ _ h => h) (Or.inl ⟨by rfl, by intro w hSw; (try dsimp only at hSw); go_simp; try with_reducible rfl⟩) (by assumption) ?_
    try simp only [Act.put, List.getElem_toArray, List.getElem_cons_zero, List.getElem_cons_succ, List.setIfInBounds_toArray, List.set_cons_zero, List.set_cons_succ]
    refine wpAnyH_ready (rs := [3]) (by kernel_rfl) (by simp) (AllReadyH.cons rfl (fun K hK => ?_) AllReadyH.nil)
    rw [if_pos (by rfl)]
    simp only [List.getElem_toArray, List.getElem_cons_zero, List.getElem_cons_succ]
    go_wp2_with (go_at_call 74; refine (orRound_any _ _ _ _ HG.out H0.out (by rw [HPN.out]; exact HN.out)).mono ?_; rw [HS.out]; rintro e w3 ⟨rfl, hb3⟩)
    have D3 := Lib.hid (D2.out.call (below_undrew hb3))
    have X3 := Lib.hid (bel_call X2.out (below_undrew hb3))
    have z3 : w.heap.size + 1 < w3.heap.size := by have := ((below_undrew hb3)).size; omega
    have m30 := ((below_undrew hb3).cell (p := ⟨w.heap.size, 0, none⟩) (by show w.heap.size < w2.heap.size; omega)).trans m0
    have m31 := ((below_undrew hb3).cell (p := ⟨w.heap.size, 1, none⟩) (by show w.heap.size < w2.heap.size; omega)).trans m1
    clear hb3
    refine hK.out _ _ ⟨m30, m31, X3.out⟩ (fun hHeld => ?_)
    clear hK K
    try simp only [Act.put, List.getElem_toArray, List.getElem_cons_zero, List.getElem_cons_succ, List.setIfInBounds_toArray, List.set_cons_zero, List.set_cons_succ]
    refine wpAnyH_ready (rs := [8]) (by kernel_rfl) (by simp) (AllReadyH.cons rfl (fun K hK => ?_) AllReadyH.nil)
    rw [if_pos (by rfl)]
    simp only [List.getElem_toArray, List.getElem_cons_zero, List.getElem_cons_succ]
    go_wp2_with (go_at_call 80; refine (whCount_any _ _ _ HG.out).mono ?_; rw [HPN.out]; rintro e w6 ⟨rfl, hb6⟩)
    have D6 := Lib.hid (D3.out.call hb6)
    have X6 := Lib.hid (bel_call X3.out hb6)
    have z6 : w.heap.size + 1 < w6.heap.size := by have := (hb6).size; omega
    have m60 := (hb6.cell (p := ⟨w.heap.size, 0, none⟩) (by show w.heap.size < w3.heap.size; omega)).trans m30
    have m61 := (hb6.cell (p := ⟨w.heap.size, 1, none⟩) (by show w.heap.size < w3.heap.size; omega)).trans m31
    clear hb6
    refine hK.out _ _ ⟨m60, m61, X6.out⟩ (fun hHeld => ?_)
    clear hK K
    try simp only [Act.put, List.getElem_toArray, List.getElem_cons_zero, List.getElem_cons_succ, List.setIfInBounds_toArray, List.set_cons_zero, List.set_cons_succ]
    refine wpAnyH_take (i := 9) (v := ?_) rfl (by kernel_rfl) (by kernel_rfl) (by kernel_rfl) (fun _ _ _ h => h) (Or.inl ⟨by rfl, by intro w hSw; (try dsimp only at hSw); go_simp; try with_reducible rfl⟩) (by assumption) ?_
    try simp only [Act.put, List.getElem_toArray, List.getElem_cons_zero, List.getElem_cons_succ, List.setIfInBounds_toArray, List.set_cons_zero, List.set_cons_succ]
    refine wpAnyH_ready (rs := [10]) (by kernel_rfl) (by simp) (AllReadyH.cons rfl (fun K hK => ?_) AllReadyH.nil)
    rw [if_pos (by rfl)]
    simp only [List.getElem_toArray, List.getElem_cons_zero, List.getElem_cons_succ]
    go_wp2_with (go_at_call 74; refine (orRound_any _ _ _ _ HG.out H1.out (by rw [HPN.out]; exact HL.out)).mono ?_; rw [HT.out]; rintro e w4 ⟨rfl, hb4⟩)
    have D4 := Lib.hid (D6.out.call hb4)
    have X4 := Lib.hid (bel_call X6.out hb4)
    have z4 : w.heap.size + 1 < w4.heap.size := by have := (hb4).size; omega
    have m40 := (hb4.cell (p := ⟨w.heap.size, 0, none⟩) (by show w.heap.size < w6.heap.size; omega)).trans m60
    have m41 := (hb4.cell (p := ⟨w.heap.size, 1, none⟩) (by show w.heap.size < w6.heap.size; omega)).trans m61
    clear hb4
    refine hK.out _ _ ⟨m40, m41, X4.out⟩ (fun hHeld => ?_)
    clear hK K
    try simp only [Act.put, List.getElem_toArray, List.getElem_cons_zero, List.getElem_cons_succ, List.setIfInBounds_toArray, List.set_cons_zero, List.set_cons_succ]
    refine wpAnyH_ready (rs := [11]) (by kernel_rfl) (by simp) (AllReadyH.cons rfl (fun K hK => ?_) AllReadyH.nil)
    rw [if_pos (by rfl)]
    simp only [List.getElem_toArray, List.getElem_cons_zero, List.getElem_cons_succ]
    go_wp2_with (go_at_call 81; refine (orTurn_any _ _ _ _ _ O1.out O2.out).mono ?_; rw [HP.out]; unfold turnV; rintro e w5 ⟨rfl, hb5⟩)
    have D5 := Lib.hid (D4.out.call hb5)
    have X5 := Lib.hid (bel_call X4.out hb5)
    have z5 : w.heap.size + 1 < w5.heap.size := by have := (hb5).size; omega
    have m50 := (hb5.cell (p := ⟨w.heap.size, 0, none⟩) (by show w.heap.size < w4.heap.size; omega)).trans m40
    have m51 := (hb5.cell (p := ⟨w.heap.size, 1, none⟩) (by show w.heap.size < w4.heap.size; omega)).trans m41
    clear hb5
    refine hK.out _ _ ⟨m50, m51, X5.out⟩ (fun hHeld => ?_)
    clear hK K
    try simp only [Act.put, List.getElem_toArray, List.getElem_cons_zero, List.getElem_cons_succ, List.setIfInBounds_toArray, List.set_cons_zero, List.set_cons_succ]
    have r0 := D5.out.cell (show 0 < 2 by omega)
    have r1 := D5.out.cell (show 1 < 2 by omega)
    have f0 := D5.out.frozen (show 0 < 2 by omega)
    have f1 := D5.out.frozen (show 1 < 2 by omega)
    obtain ⟨E0, E1⟩ := pair_set D5.out (.int .i64 p.1) (.int .i64 p.2)
    have XE := Lib.hid ((X5.out.setCell (p := ⟨w.heap.size + 1, 0, none⟩) (by simp) (.int .i64 p.1)).setCell (p := ⟨w.heap.size + 1, 1, none⟩) (by simp) (.int .i64 p.2))
    have m70 : ((w5.setCell ⟨w.heap.size + 1, 0, none⟩ (.int .i64 p.1)).setCell ⟨w.heap.size + 1, 1, none⟩ (.int .i64 p.2)).cell? ⟨w.heap.size, 0, none⟩ = some (.int .i64 n) := by rw [World.cell?_setCell_far _ _ _ _ (by simp), World.cell?_setCell_far _ _ _ _ (by simp)]; exact m50
    have m71 : ((w5.setCell ⟨w.heap.size + 1, 0, none⟩ (.int .i64 p.1)).setCell ⟨w.heap.size + 1, 1, none⟩ (.int .i64 p.2)).cell? ⟨w.heap.size, 1, none⟩ = some (.int .i64 b) := by rw [World.cell?_setCell_far _ _ _ _ (by simp), World.cell?_setCell_far _ _ _ _ (by simp)]; exact m51
    refine wpAnyH_ready (rs := [12]) (by kernel_rfl) (by simp) (AllReadyH.cons rfl (fun K hK => ?_) AllReadyH.nil)
    rw [if_pos (by rfl)]
    simp only [List.getElem_toArray, List.getElem_cons_zero, List.getElem_cons_succ]
    go_wp2_with (fail)
    refine hK.out _ _ ⟨m70, m71, XE.out⟩ (fun hHeld => ?_)
    clear hK K
    try simp only [Act.put, List.getElem_toArray, List.getElem_cons_zero, List.getElem_cons_succ, List.setIfInBounds_toArray, List.set_cons_zero, List.set_cons_succ]
    refine wpAnyH_take (i := 13) (v := ?_) rfl (by kernel_rfl) (by kernel_rfl) (by kernel_rfl) (fun _ _ _ h => h) (Or.inl ⟨by rfl, by intro w hSw; (try dsimp only at hSw); go_simp; try with_reducible rfl⟩) (by assumption) ?_
    try simp only [Act.put, List.getElem_toArray, List.getElem_cons_zero, List.getElem_cons_succ, List.setIfInBounds_toArray, List.set_cons_zero, List.set_cons_succ]
    refine wpAnyH_done (by kernel_rfl) ?_ _
    go_wp2_with fail
    refine bodyPost_ret (v := .tuple #[turnV p, .bool true]) (by simp [results, Try.results31, go_sem, E0, E1, turnV]) rfl ⟨by rw [HTP.out, HX.out], XE.out⟩
  · have HX := Lib.hid (Bool.eq_false_iff.2 hx)
    have HP : Hid (trP a b x = (0, 0)) := Lib.hid (by unfold trP; rw [HX.out]; rfl)
    clear hx
    go_enter Try.func31, Try.ntmps31
    go_wp2_with (go_at_call 64; refine (orRank_any _ _ _ _).mono ?_; rw [HX.out]; rintro e w1 ⟨rfl, hb1⟩
                 have D1 := Lib.hid (D0.out.call hb1)
                 have X1 := Lib.hid (show Below w.heap.size w w1 from bel_call (((Below.refl _ _).alloc (Nat.le_refl _) _).alloc (by simp) _) hb1)
                 have r0 := D1.out.cell (show 0 < 2 by omega)
                 have r1 := D1.out.cell (show 1 < 2 by omega)
                 have f0 := D1.out.frozen (show 0 < 2 by omega)
                 have f1 := D1.out.frozen (show 1 < 2 by omega)
                 clear hb1)
    obtain ⟨E0, E1⟩ := pair_set D1.out (.int .i64 0) (.int .i64 0)
    refine bodyPost_ret (v := .tuple #[turnV (0, 0), .bool false]) (by simp [results, Try.results31, go_sem, E0, E1, turnV]) rfl ⟨by rw [HP.out, HX.out], ?_⟩
    exact (X1.out.setCell (p := ⟨w.heap.size + 1, 0, none⟩) (by simp) _).setCell (p := ⟨w.heap.size + 1, 1, none⟩) (by simp) _

end Go.Proofs.Ytpbnleohbegccaa
