/- The turn from a rank to the next one, in both orders, as the model tells it. No conditions. -/
import Derived.Test.YtpbnleohbegccaaOu
namespace Go.Proofs.Ytpbnleohbegccaa
open Go.ChangeShapes Go.WideShapes Go.ChangeAt Go.RowKit Go.Joins

set_option maxRecDepth 100000 in
set_option maxHeartbeats 4000000 in
theorem specTurnInForth_any (a b x : Int) (w : World) :
    Calls Try.prog 28 #[.agg #[.int .i64 a, .int .i64 b], .int .i64 x] w fun e w' => e = .returned (.tuple #[turnV (tfP a b x), .bool (tfB a b x)]) ∧ Below w.heap.size w w' := by
  have D0 := Lib.hid (cells_two (w := w.alloc (.cells #[.int .i64 a, .int .i64 b] 26)) (x := 0) (y := 0) (t := 33) (g := w.heap.size + 1) (by simp))
  by_cases hx : hasNum a b x = true
  · have HX := Lib.hid hx
    obtain ⟨hg, ha, h0, h1⟩ := has_parts hx
    generalize a.toNat = n at ha h1
    subst ha
    have HG := Lib.hid hg
    obtain ⟨k1, k2, k3, k4⟩ := good_yes hg
    obtain ⟨p1, p2⟩ := pw_bd6 k3 k4 (k := n) (by omega)
    have HN := Lib.hid h1
    obtain ⟨y, hy1⟩ : ∃ y, x + 1 = y := ⟨_, rfl⟩
    have hw1 : IntKind.i64.wrap (x + 1) = y := by rw [← hy1]; exact IntWalk.i64_in _ (by omega)
    have H0 := Lib.hid h0
    by_cases hlast : x + 1 < pw b n
    · have hy : hasNum n b (x + 1) = true := has_of hg (by omega) hlast
      have HB : Hid (tfB n b x = true) := Lib.hid (by unfold tfB; rw [hx, hy]; rfl)
      obtain ⟨o1, o2⟩ := forth_ot hx hy
      rw [ocT_yes hx, ocT_yes hy, hy1] at o1 o2
      have HP : Hid (otP n b (textOf (orL foI b x n)) (textOf (orL foI b y n)) = tfP n b x) := Lib.hid (by unfold tfP; rw [HB.out, if_pos rfl, ocT_yes hx, ocT_yes hy, hy1])
      have O1 := Lib.hid o1
      have O2 := Lib.hid o2
      have HL := Lib.hid (show y < pw b n by omega)
      have hne : (x == pw b n - 1) = false := by simp; omega
      have H1 := Lib.hid (show (0 : Int) ≤ y by omega)
      obtain ⟨p, hp⟩ : ∃ p, tfP n b x = p := ⟨_, rfl⟩
      rw [hp] at HP
      have HTP := Lib.hid hp
      generalize hN : pw b n = N at *
      have HPN := Lib.hid hN
      clear hx hg o1 o2 hy hlast hp hN h0 h1 hy1
      generalize hs : textOf (orL foI b x n) = s at *
      generalize ht : textOf (orL foI b y n) = t at *
      have HS := Lib.hid hs
      have HT := Lib.hid ht
      clear hs ht
      go_enter Try.func28, Try.ntmps28
      go_wp2_with (first
        | (go_at_call 64; refine (orRank_any _ _ _ _).mono ?_; rw [HX.out]; rintro e w1 ⟨rfl, hb1⟩
           have D1 := Lib.hid (D0.out.call hb1)
           have X1 := Lib.hid (show Below w.heap.size w w1 from bel_call (((Below.refl _ _).alloc (Nat.le_refl _) _).alloc (by simp) _) hb1)
           have z1 : w.heap.size + 1 < w1.heap.size := by have := hb1.size; simp at this; omega
           have l0 : w1.cell? ⟨w.heap.size, 0, none⟩ = some (.int .i64 n) := (hb1.cell (p := ⟨w.heap.size, 0, none⟩) (by simp; omega)).trans (by simp)
           have l1 : w1.cell? ⟨w.heap.size, 1, none⟩ = some (.int .i64 b) := (hb1.cell (p := ⟨w.heap.size, 1, none⟩) (by simp; omega)).trans (by simp)
           clear hb1)
        | (go_at_call 80; refine (whCount_any _ _ _ HG.out).mono ?_; rw [HPN.out]; rintro e w2 ⟨rfl, hb2⟩
           have D2 := Lib.hid (D1.out.call hb2)
           have X2 := Lib.hid (bel_call X1.out hb2)
           have z2 : w.heap.size + 1 < w2.heap.size := by have := hb2.size; omega
           have m0 := (hb2.cell (p := ⟨w.heap.size, 0, none⟩) (by show w.heap.size < w1.heap.size; omega)).trans l0
           have m1 := (hb2.cell (p := ⟨w.heap.size, 1, none⟩) (by show w.heap.size < w1.heap.size; omega)).trans l1
           clear hb2))
      go_region_with (first
        | (go_at_call_of 65 x; refine (orForth_any _ _ _ _ HG.out H0.out (by rw [HPN.out]; exact HN.out)).mono ?_; rw [HS.out]; rintro e w3 ⟨rfl, hb3'⟩
           have hb3 := below_undrew hb3'
           have D3 := Lib.hid (D2.out.call hb3)
           have X3 := Lib.hid (bel_call X2.out hb3)
           have z3 : w.heap.size + 1 < w3.heap.size := by have := hb3.size; omega
           have n0 := (hb3.cell (p := ⟨w.heap.size, 0, none⟩) (by show w.heap.size < w2.heap.size; omega)).trans m0
           have n1 := (hb3.cell (p := ⟨w.heap.size, 1, none⟩) (by show w.heap.size < w2.heap.size; omega)).trans m1
           clear hb3 hb3')
        | (go_at_call 65; refine (orForth_any _ _ _ _ HG.out H1.out (by rw [HPN.out]; exact HL.out)).mono ?_; rw [HT.out]; rintro e w4 ⟨rfl, hb4⟩
           have D4 := Lib.hid (D3.out.call hb4)
           have X4 := Lib.hid (bel_call X3.out hb4)
           have z4 : w.heap.size + 1 < w4.heap.size := by have := hb4.size; omega
           have e0 := (hb4.cell (p := ⟨w.heap.size, 0, none⟩) (by show w.heap.size < w3.heap.size; omega)).trans n0
           have e1 := (hb4.cell (p := ⟨w.heap.size, 1, none⟩) (by show w.heap.size < w3.heap.size; omega)).trans n1
           clear hb4)
        | (go_at_call 81; refine (orTurn_any _ _ _ _ _ O1.out O2.out).mono ?_; rw [HP.out]; unfold turnV; rintro e w5 ⟨rfl, hb5⟩
           have D5 := Lib.hid (D4.out.call hb5)
           have X5 := Lib.hid (bel_call X4.out hb5)
           have r0 := D5.out.cell (show 0 < 2 by omega)
           have r1 := D5.out.cell (show 1 < 2 by omega)
           have f0 := D5.out.frozen (show 0 < 2 by omega)
           have f1 := D5.out.frozen (show 1 < 2 by omega)
           clear hb5))
      all_goals
        obtain ⟨E0, E1⟩ := pair_set D5.out (.int .i64 p.1) (.int .i64 p.2)
        go_wp2_with fail
        refine bodyPost_ret (v := .tuple #[turnV p, .bool true]) (by simp [results, Try.results28, go_sem, E0, E1, turnV]) rfl ⟨by rw [HTP.out, HB.out], ?_⟩
        exact (X5.out.setCell (p := ⟨w.heap.size + 1, 0, none⟩) (by simp) _).setCell (p := ⟨w.heap.size + 1, 1, none⟩) (by simp) _
    · have hy : hasNum n b (x + 1) = false := by
        rw [Bool.eq_false_iff]; intro h2
        obtain ⟨_, _, _, h3⟩ := has_parts h2
        rw [Int.toNat_natCast] at h3; omega
      have HB : Hid (tfB n b x = false) := Lib.hid (by unfold tfB; rw [hy, Bool.and_false])
      have HP : Hid (tfP n b x = (0, 0)) := Lib.hid (by unfold tfP; rw [HB.out]; rfl)
      have hne : (x == pw b n - 1) = true := by simp; omega
      generalize hN : pw b n = N at *
      have HPN := Lib.hid hN
      clear hx hg hy hN hy1 hw1
      go_enter Try.func28, Try.ntmps28
      go_wp2_with (first
        | (go_at_call 64; refine (orRank_any _ _ _ _).mono ?_; rw [HX.out]; rintro e w1 ⟨rfl, hb1⟩
           have D1 := Lib.hid (D0.out.call hb1)
           have X1 := Lib.hid (show Below w.heap.size w w1 from bel_call (((Below.refl _ _).alloc (Nat.le_refl _) _).alloc (by simp) _) hb1)
           have z1 : w.heap.size + 1 < w1.heap.size := by have := hb1.size; simp at this; omega
           have l0 : w1.cell? ⟨w.heap.size, 0, none⟩ = some (.int .i64 n) := (hb1.cell (p := ⟨w.heap.size, 0, none⟩) (by simp; omega)).trans (by simp)
           have l1 : w1.cell? ⟨w.heap.size, 1, none⟩ = some (.int .i64 b) := (hb1.cell (p := ⟨w.heap.size, 1, none⟩) (by simp; omega)).trans (by simp)
           clear hb1)
        | (go_at_call 80; refine (whCount_any _ _ _ HG.out).mono ?_; rw [HPN.out]; rintro e w2 ⟨rfl, hb2⟩
           have D2 := Lib.hid (D1.out.call hb2)
           have X2 := Lib.hid (bel_call X1.out hb2)
           have r0 := D2.out.cell (show 0 < 2 by omega)
           have r1 := D2.out.cell (show 1 < 2 by omega)
           have f0 := D2.out.frozen (show 0 < 2 by omega)
           have f1 := D2.out.frozen (show 1 < 2 by omega)
           clear hb2))
      obtain ⟨E0, E1⟩ := pair_set D2.out (.int .i64 0) (.int .i64 0)
      refine bodyPost_ret (v := .tuple #[turnV (0, 0), .bool false]) (by simp [results, Try.results28, go_sem, E0, E1, turnV]) rfl ⟨by rw [HP.out, HB.out], ?_⟩
      exact (X2.out.setCell (p := ⟨w.heap.size + 1, 0, none⟩) (by simp) _).setCell (p := ⟨w.heap.size + 1, 1, none⟩) (by simp) _
  · have HX := Lib.hid (Bool.eq_false_iff.2 hx)
    have HB : Hid (tfB a b x = false) := Lib.hid (by unfold tfB; rw [HX.out]; rfl)
    have HP : Hid (tfP a b x = (0, 0)) := Lib.hid (by unfold tfP; rw [HB.out]; rfl)
    clear hx
    go_enter Try.func28, Try.ntmps28
    go_wp2_with (go_at_call 64; refine (orRank_any _ _ _ _).mono ?_; rw [HX.out]; rintro e w1 ⟨rfl, hb1⟩
                 have D1 := Lib.hid (D0.out.call hb1)
                 have X1 := Lib.hid (show Below w.heap.size w w1 from bel_call (((Below.refl _ _).alloc (Nat.le_refl _) _).alloc (by simp) _) hb1)
                 have r0 := D1.out.cell (show 0 < 2 by omega)
                 have r1 := D1.out.cell (show 1 < 2 by omega)
                 have f0 := D1.out.frozen (show 0 < 2 by omega)
                 have f1 := D1.out.frozen (show 1 < 2 by omega)
                 clear hb1)
    obtain ⟨E0, E1⟩ := pair_set D1.out (.int .i64 0) (.int .i64 0)
    refine bodyPost_ret (v := .tuple #[turnV (0, 0), .bool false]) (by simp [results, Try.results28, go_sem, E0, E1, turnV]) rfl ⟨by rw [HP.out, HB.out], ?_⟩
    exact (X1.out.setCell (p := ⟨w.heap.size + 1, 0, none⟩) (by simp) _).setCell (p := ⟨w.heap.size + 1, 1, none⟩) (by simp) _

end Go.Proofs.Ytpbnleohbegccaa
