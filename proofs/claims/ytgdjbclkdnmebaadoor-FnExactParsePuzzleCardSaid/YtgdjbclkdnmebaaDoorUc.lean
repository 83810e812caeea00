/- A lock of puzzles, a clue and a puzzle, as the model asks for them. No conditions. -/
import Derived.Test.YtgdjbclkdnmebaaDoorUb
import Derived.IntWalk
namespace Go.Proofs.YtgdjbclkdnmebaaDoor
open Go.ChangeShapes Go.WideShapes Go.ChangeAt Go.RowKit Go.Joins

theorem pzLock_any (a b : Int) (w : World) :
    Calls Tryd.prog 79 #[.agg #[.int .i64 a, .int .i64 b]] w fun e w' => e = .returned (.bool (puzB a b)) ∧ Below w.heap.size w w' := by
  go_enter Tryd.func79, Tryd.ntmps79
  go_wp2_with (go_at_call 99; refine (hiLock_any _ _ _ _).mono ?_; rintro e w1 ⟨rfl, hb⟩; obtain ⟨hc, hf, hz⟩ := bcell hb; have hz0 : w.heap.size < w1.heap.size := by (try simp at hz); omega)
  go_ret
  refine ⟨rfl, ?_⟩
  (repeat (first | assumption | exact Below.refl _ _ | (refine Below.alloc ?_ (by first | omega | (simp; done) | (simp; omega)) _) | (refine Below.setCell ?_ (by first | omega | (simp; done) | (simp; omega)) _) | refine bel_drewN ?_ _ | refine bel_drew ?_ | (refine bel_call ?_ (by assumption))))

theorem whCountZ_any (a b : Int) (w : World) (hg : goodB a b = true) :
    Calls Tryd.prog 100 #[.agg #[.int .i64 a, .int .i64 b]] w fun e w' => e = .returned (.int .i64 (countZ a b)) ∧ Below w.heap.size w w' := by
  have h := good_yes hg
  obtain ⟨n, rfl⟩ : ∃ n : Nat, a = n := ⟨a.toNat, by omega⟩
  rw [countZ_yes hg]
  exact whCount_any n b w hg

/-- What a walk asks of a lock's numbers. -/
theorem puz_bds {a b : Int} (h : puzB a b = true) : 1 ≤ a ∧ a ≤ 6 ∧ 2 ≤ b ∧ b ≤ 10 ∧ 0 ≤ countZ a b ∧ countZ a b ≤ 125 := by
  obtain ⟨h1, h2⟩ := puzB_yes h
  have hg := good_yes h1
  have h3 := puzB_cn h
  omega

set_option maxRecDepth 100000 in
set_option maxHeartbeats 4000000 in
theorem pzClue_0 (a b x y : Int) (w : World) (hp : puzB a b = true) :
    Calls Tryd.prog 80 #[.agg #[.int .i64 a, .int .i64 b], .agg #[.int .i64 0, .int .i64 x, .int .i64 y]] w fun e w' => e = .returned (.bool (cluB a b (0, x, y))) ∧ Below w.heap.size w w' := by
  have HG := Lib.hid (puzB_yes hp).1
  obtain ⟨a1, a2, b1, b2, c1, c2⟩ := puz_bds hp
  clear hp
  by_cases h1 : inB x 0 (a - 1) = true
  · have H1 := Lib.hid h1
    have HV := Lib.hid (show inB y 0 (b - 1) = cluB a b (0, x, y) by rw [cluB_0, h1, Bool.true_and])
    clear h1
    go_enter Tryd.func80, Tryd.ntmps80
    go_wp2_with (go_at_call 57; refine (l1In_any _ _ _ _).mono ?_; (first | rw [H1.out] | rw [HV.out]); rintro e w1 ⟨rfl, rfl⟩)
    go_ret
    refine ⟨rfl, ?_⟩
    (repeat (first | assumption | exact Below.refl _ _ | (refine Below.alloc ?_ (by first | omega | (simp; done) | (simp; omega)) _) | (refine Below.setCell ?_ (by first | omega | (simp; done) | (simp; omega)) _) | refine bel_drewN ?_ _ | refine bel_drew ?_ | (refine bel_call ?_ (by assumption))))
  · have H1 := Lib.hid (Bool.eq_false_iff.2 h1)
    have HV := Lib.hid (show cluB a b (0, x, y) = false by rw [cluB_0, Bool.eq_false_iff.2 h1, Bool.false_and])
    clear h1
    go_enter Tryd.func80, Tryd.ntmps80
    go_wp2_with (go_at_call 57; refine (l1In_any _ _ _ _).mono ?_; rw [H1.out]; rintro e w1 ⟨rfl, rfl⟩)
    go_ret
    refine ⟨ret_bool HV.out.symm, ?_⟩
    (repeat (first | assumption | exact Below.refl _ _ | (refine Below.alloc ?_ (by first | omega | (simp; done) | (simp; omega)) _) | (refine Below.setCell ?_ (by first | omega | (simp; done) | (simp; omega)) _) | refine bel_drewN ?_ _ | refine bel_drew ?_ | (refine bel_call ?_ (by assumption))))

set_option maxRecDepth 100000 in
set_option maxHeartbeats 4000000 in
theorem pzClue_1 (a b x y : Int) (w : World) (hp : puzB a b = true) :
    Calls Tryd.prog 80 #[.agg #[.int .i64 a, .int .i64 b], .agg #[.int .i64 1, .int .i64 x, .int .i64 y]] w fun e w' => e = .returned (.bool (cluB a b (1, x, y))) ∧ Below w.heap.size w w' := by
  have HG := Lib.hid (puzB_yes hp).1
  obtain ⟨a1, a2, b1, b2, c1, c2⟩ := puz_bds hp
  clear hp
  by_cases h1 : inB x 0 60 = true
  · have H1 := Lib.hid h1
    by_cases hy : y = 0
    · subst hy
      have HV := Lib.hid (show cluB a b (1, x, 0) = true by rw [cluB_1, h1, Bool.true_and]; rfl)
      clear h1
      go_enter Tryd.func80, Tryd.ntmps80
      go_wp2_with (go_at_call 57; refine (l1In_any _ _ _ _).mono ?_; rw [H1.out]; rintro e w1 ⟨rfl, rfl⟩)
      go_ret
      refine ⟨ret_bool HV.out.symm, ?_⟩
      (repeat (first | assumption | exact Below.refl _ _ | (refine Below.alloc ?_ (by first | omega | (simp; done) | (simp; omega)) _) | (refine Below.setCell ?_ (by first | omega | (simp; done) | (simp; omega)) _) | refine bel_drewN ?_ _ | refine bel_drew ?_ | (refine bel_call ?_ (by assumption))))
    · have HV := Lib.hid (show cluB a b (1, x, y) = false by rw [cluB_1, h1, Bool.true_and]; exact decide_eq_false (by omega))
      have hyb : (y == 0) = false := by simpa using hy
      clear h1
      go_enter Tryd.func80, Tryd.ntmps80
      go_wp2_with (go_at_call 57; refine (l1In_any _ _ _ _).mono ?_; rw [H1.out]; rintro e w1 ⟨rfl, rfl⟩)
      go_ret
      refine ⟨ret_bool HV.out.symm, ?_⟩
      (repeat (first | assumption | exact Below.refl _ _ | (refine Below.alloc ?_ (by first | omega | (simp; done) | (simp; omega)) _) | (refine Below.setCell ?_ (by first | omega | (simp; done) | (simp; omega)) _) | refine bel_drewN ?_ _ | refine bel_drew ?_ | (refine bel_call ?_ (by assumption))))
  · have H1 := Lib.hid (Bool.eq_false_iff.2 h1)
    have HV := Lib.hid (show cluB a b (1, x, y) = false by rw [cluB_1, Bool.eq_false_iff.2 h1, Bool.false_and])
    clear h1
    go_enter Tryd.func80, Tryd.ntmps80
    go_wp2_with (go_at_call 57; refine (l1In_any _ _ _ _).mono ?_; rw [H1.out]; rintro e w1 ⟨rfl, rfl⟩)
    go_ret
    refine ⟨ret_bool HV.out.symm, ?_⟩
    (repeat (first | assumption | exact Below.refl _ _ | (refine Below.alloc ?_ (by first | omega | (simp; done) | (simp; omega)) _) | (refine Below.setCell ?_ (by first | omega | (simp; done) | (simp; omega)) _) | refine bel_drewN ?_ _ | refine bel_drew ?_ | (refine bel_call ?_ (by assumption))))

set_option maxRecDepth 100000 in
set_option maxHeartbeats 4000000 in
theorem pzClue_2 (a b x y : Int) (w : World) (hp : puzB a b = true) :
    Calls Tryd.prog 80 #[.agg #[.int .i64 a, .int .i64 b], .agg #[.int .i64 2, .int .i64 x, .int .i64 y]] w fun e w' => e = .returned (.bool (cluB a b (2, x, y))) ∧ Below w.heap.size w w' := by
  have HG := Lib.hid (puzB_yes hp).1
  obtain ⟨a1, a2, b1, b2, c1, c2⟩ := puz_bds hp
  clear hp
  generalize hq : countZ a b = q at c1 c2
  have HQ := Lib.hid hq
  clear hq
  by_cases h1 : inB x 0 (q - 1) = true
  · have H1 := Lib.hid h1
    have HV := Lib.hid (show inB y 0 a = cluB a b (2, x, y) by rw [cluB_2, HQ.out, h1, Bool.true_and])
    clear h1
    go_enter Tryd.func80, Tryd.ntmps80
    go_wp2_with fail
    have hwq : IntKind.i64.wrap (q - 1) = q - 1 := IntWalk.i64_in _ (by omega)
    first
    | (go_region_with (first | (go_at_call 100; refine (whCountZ_any _ _ _ HG.out).mono ?_; rw [HQ.out]; rintro e w1 ⟨rfl, hb⟩; obtain ⟨hc, hf, hz⟩ := bcell hb; have hz0 : w.heap.size < w1.heap.size := by (try simp at hz); omega) | (go_at_call 57; refine (l1In_any _ _ _ _).mono ?_; (first | rw [H1.out] | rw [HV.out]); rintro e w2 ⟨rfl, rfl⟩)))
    | fail
    all_goals
      have HB := Lib.hid (below_undrew hb)
      go_wp2_with fail
      go_ret
      refine ⟨rfl, ?_⟩
      have hb := HB.out
      (repeat (first | assumption | exact Below.refl _ _ | (refine Below.alloc ?_ (by first | omega | (simp; done) | (simp; omega)) _) | (refine Below.setCell ?_ (by first | omega | (simp; done) | (simp; omega)) _) | refine bel_drewN ?_ _ | refine bel_drew ?_ | (refine bel_call ?_ (by assumption))))
  · have H1 := Lib.hid (Bool.eq_false_iff.2 h1)
    have HV := Lib.hid (show cluB a b (2, x, y) = false by rw [cluB_2, HQ.out, Bool.eq_false_iff.2 h1, Bool.false_and])
    clear h1
    go_enter Tryd.func80, Tryd.ntmps80
    go_wp2_with fail
    have hwq : IntKind.i64.wrap (q - 1) = q - 1 := IntWalk.i64_in _ (by omega)
    first
    | (go_region_with (first | (go_at_call 100; refine (whCountZ_any _ _ _ HG.out).mono ?_; rw [HQ.out]; rintro e w1 ⟨rfl, hb⟩; obtain ⟨hc, hf, hz⟩ := bcell hb; have hz0 : w.heap.size < w1.heap.size := by (try simp at hz); omega) | (go_at_call 57; refine (l1In_any _ _ _ _).mono ?_; rw [H1.out]; rintro e w2 ⟨rfl, rfl⟩)))
    | fail
    all_goals
      have HB := Lib.hid (below_undrew hb)
      go_wp2_with fail
      go_ret
      refine ⟨ret_bool HV.out.symm, ?_⟩
      have hb := HB.out
      (repeat (first | assumption | exact Below.refl _ _ | (refine Below.alloc ?_ (by first | omega | (simp; done) | (simp; omega)) _) | (refine Below.setCell ?_ (by first | omega | (simp; done) | (simp; omega)) _) | refine bel_drewN ?_ _ | refine bel_drew ?_ | (refine bel_call ?_ (by assumption))))

set_option maxRecDepth 100000 in
set_option maxHeartbeats 4000000 in
theorem pzClue_3 (a b x y : Int) (w : World) (hp : puzB a b = true) :
    Calls Tryd.prog 80 #[.agg #[.int .i64 a, .int .i64 b], .agg #[.int .i64 3, .int .i64 x, .int .i64 y]] w fun e w' => e = .returned (.bool (cluB a b (3, x, y))) ∧ Below w.heap.size w w' := by
  have HG := Lib.hid (puzB_yes hp).1
  obtain ⟨a1, a2, b1, b2, c1, c2⟩ := puz_bds hp
  clear hp
  generalize hq : countZ a b = q at c1 c2
  have HQ := Lib.hid hq
  clear hq
  by_cases h1 : inB x 0 (q - 1) = true
  · have H1 := Lib.hid h1
    have HV := Lib.hid (show inB y 0 60 = cluB a b (3, x, y) by rw [cluB_3, HQ.out, h1, Bool.true_and])
    clear h1
    go_enter Tryd.func80, Tryd.ntmps80
    go_wp2_with fail
    have hwq : IntKind.i64.wrap (q - 1) = q - 1 := IntWalk.i64_in _ (by omega)
    first
    | (go_region_with (first | (go_at_call 100; refine (whCountZ_any _ _ _ HG.out).mono ?_; rw [HQ.out]; rintro e w1 ⟨rfl, hb⟩; obtain ⟨hc, hf, hz⟩ := bcell hb; have hz0 : w.heap.size < w1.heap.size := by (try simp at hz); omega) | (go_at_call 57; refine (l1In_any _ _ _ _).mono ?_; (first | rw [H1.out] | rw [HV.out]); rintro e w2 ⟨rfl, rfl⟩)))
    | fail
    all_goals
      have HB := Lib.hid (below_undrew hb)
      go_wp2_with fail
      go_ret
      refine ⟨rfl, ?_⟩
      have hb := HB.out
      (repeat (first | assumption | exact Below.refl _ _ | (refine Below.alloc ?_ (by first | omega | (simp; done) | (simp; omega)) _) | (refine Below.setCell ?_ (by first | omega | (simp; done) | (simp; omega)) _) | refine bel_drewN ?_ _ | refine bel_drew ?_ | (refine bel_call ?_ (by assumption))))
  · have H1 := Lib.hid (Bool.eq_false_iff.2 h1)
    have HV := Lib.hid (show cluB a b (3, x, y) = false by rw [cluB_3, HQ.out, Bool.eq_false_iff.2 h1, Bool.false_and])
    clear h1
    go_enter Tryd.func80, Tryd.ntmps80
    go_wp2_with fail
    have hwq : IntKind.i64.wrap (q - 1) = q - 1 := IntWalk.i64_in _ (by omega)
    first
    | (go_region_with (first | (go_at_call 100; refine (whCountZ_any _ _ _ HG.out).mono ?_; rw [HQ.out]; rintro e w1 ⟨rfl, hb⟩; obtain ⟨hc, hf, hz⟩ := bcell hb; have hz0 : w.heap.size < w1.heap.size := by (try simp at hz); omega) | (go_at_call 57; refine (l1In_any _ _ _ _).mono ?_; rw [H1.out]; rintro e w2 ⟨rfl, rfl⟩)))
    | fail
    all_goals
      have HB := Lib.hid (below_undrew hb)
      go_wp2_with fail
      go_ret
      refine ⟨ret_bool HV.out.symm, ?_⟩
      have hb := HB.out
      (repeat (first | assumption | exact Below.refl _ _ | (refine Below.alloc ?_ (by first | omega | (simp; done) | (simp; omega)) _) | (refine Below.setCell ?_ (by first | omega | (simp; done) | (simp; omega)) _) | refine bel_drewN ?_ _ | refine bel_drew ?_ | (refine bel_call ?_ (by assumption))))

set_option maxRecDepth 100000 in
set_option maxHeartbeats 4000000 in
theorem pzClue_4 (a b x y : Int) (w : World) (hp : puzB a b = true) :
    Calls Tryd.prog 80 #[.agg #[.int .i64 a, .int .i64 b], .agg #[.int .i64 4, .int .i64 x, .int .i64 y]] w fun e w' => e = .returned (.bool (cluB a b (4, x, y))) ∧ Below w.heap.size w w' := by
  have HG := Lib.hid (puzB_yes hp).1
  obtain ⟨a1, a2, b1, b2, c1, c2⟩ := puz_bds hp
  clear hp
  by_cases h1 : inB x 2 9 = true
  · have H1 := Lib.hid h1
    have hx := inB_yes h1
    obtain ⟨x1, x2⟩ := hx
    have HV := Lib.hid (show inB y 0 (x - 1) = cluB a b (4, x, y) by rw [cluB_4, h1, Bool.true_and])
    clear h1
    go_enter Tryd.func80, Tryd.ntmps80
    go_wp2_with (go_at_call 57; refine (l1In_any _ _ _ _).mono ?_; (first | rw [H1.out] | rw [HV.out]); rintro e w1 ⟨rfl, rfl⟩)
    go_ret
    refine ⟨rfl, ?_⟩
    (repeat (first | assumption | exact Below.refl _ _ | (refine Below.alloc ?_ (by first | omega | (simp; done) | (simp; omega)) _) | (refine Below.setCell ?_ (by first | omega | (simp; done) | (simp; omega)) _) | refine bel_drewN ?_ _ | refine bel_drew ?_ | (refine bel_call ?_ (by assumption))))
  · have H1 := Lib.hid (Bool.eq_false_iff.2 h1)
    have HV := Lib.hid (show cluB a b (4, x, y) = false by rw [cluB_4, Bool.eq_false_iff.2 h1, Bool.false_and])
    clear h1
    go_enter Tryd.func80, Tryd.ntmps80
    go_wp2_with (go_at_call 57; refine (l1In_any _ _ _ _).mono ?_; rw [H1.out]; rintro e w1 ⟨rfl, rfl⟩)
    go_ret
    refine ⟨ret_bool HV.out.symm, ?_⟩
    (repeat (first | assumption | exact Below.refl _ _ | (refine Below.alloc ?_ (by first | omega | (simp; done) | (simp; omega)) _) | (refine Below.setCell ?_ (by first | omega | (simp; done) | (simp; omega)) _) | refine bel_drewN ?_ _ | refine bel_drew ?_ | (refine bel_call ?_ (by assumption))))

set_option maxRecDepth 100000 in
theorem pzClue_none (a b k x y : Int) (w : World) (k0 : k ≠ 0) (k1 : k ≠ 1) (k2 : k ≠ 2) (k3 : k ≠ 3) (k4 : k ≠ 4) :
    Calls Tryd.prog 80 #[.agg #[.int .i64 a, .int .i64 b], .agg #[.int .i64 k, .int .i64 x, .int .i64 y]] w fun e w' => e = .returned (.bool (cluB a b (k, x, y))) ∧ Below w.heap.size w w' := by
  have HV := Lib.hid (cluB_no (a := a) (b := b) (x := x) (y := y) k0 k1 k2 k3 k4)
  have e0 : (k == 0) = false := by simpa using k0
  have e1 : (k == 1) = false := by simpa using k1
  have e2 : (k == 2) = false := by simpa using k2
  have e3 : (k == 3) = false := by simpa using k3
  have e4 : (k == 4) = false := by simpa using k4
  go_enter Tryd.func80, Tryd.ntmps80
  go_wp2_with fail
  go_ret
  refine ⟨ret_bool HV.out.symm, ?_⟩
  (repeat (first | assumption | exact Below.refl _ _ | (refine Below.alloc ?_ (by first | omega | (simp; done) | (simp; omega)) _) | (refine Below.setCell ?_ (by first | omega | (simp; done) | (simp; omega)) _) | refine bel_drewN ?_ _ | refine bel_drew ?_ | (refine bel_call ?_ (by assumption))))

theorem pzClue_any (a b k x y : Int) (w : World) (hp : puzB a b = true) :
    Calls Tryd.prog 80 #[.agg #[.int .i64 a, .int .i64 b], .agg #[.int .i64 k, .int .i64 x, .int .i64 y]] w fun e w' => e = .returned (.bool (cluB a b (k, x, y))) ∧ Below w.heap.size w w' := by
  by_cases k0 : k = 0
  · subst k0; exact pzClue_0 a b x y w hp
  by_cases k1 : k = 1
  · subst k1; exact pzClue_1 a b x y w hp
  by_cases k2 : k = 2
  · subst k2; exact pzClue_2 a b x y w hp
  by_cases k3 : k = 3
  · subst k3; exact pzClue_3 a b x y w hp
  by_cases k4 : k = 4
  · subst k4; exact pzClue_4 a b x y w hp
  exact pzClue_none a b k x y w k0 k1 k2 k3 k4

end Go.Proofs.YtgdjbclkdnmebaaDoor
