/- Dials: the small functions of both programs on marks, steps and numbers that are read. No conditions beyond those of each. -/
import Derived.Test.YtfcljanechlmkaaGood
import Derived.Deep.RegionHeld3
namespace Go.Proofs.Ytfcljanechlmkaa
open Go.ChangeShapes Go.WideShapes Go.ChangeAt Go.RowKit Go.Joins

/-- There are marks. -/
def marksB (m : Int) : Bool := decide (2 ≤ m ∧ m ≤ 100)

/-- There are marks and one of their numbers. -/
def dmB (m s : Int) : Bool := decide (2 ≤ m ∧ m ≤ 100 ∧ 0 ≤ s ∧ s < m)

/-- There is a step. -/
def stepB (x : Int) : Bool := decide (x ≠ 0 ∧ -1000 ≤ x ∧ x ≤ 1000)

theorem dm_yes {m s : Int} (h : dmB m s = true) : 2 ≤ m ∧ m ≤ 100 ∧ 0 ≤ s ∧ s < m := of_decide_eq_true h

theorem dm_no {m s : Int} (h : dmB m s = false) : ¬ (2 ≤ m ∧ m ≤ 100 ∧ 0 ≤ s ∧ s < m) := of_decide_eq_false h

theorem marks_yes {m : Int} (h : marksB m = true) : 2 ≤ m ∧ m ≤ 100 := of_decide_eq_true h

theorem marks_no {m : Int} (h : marksB m = false) : ¬ (2 ≤ m ∧ m ≤ 100) := of_decide_eq_false h

theorem step_yes {x : Int} (h : stepB x = true) : x ≠ 0 ∧ -1000 ≤ x ∧ x ≤ 1000 := of_decide_eq_true h

theorem step_no {x : Int} (h : stepB x = false) : ¬ (x ≠ 0 ∧ -1000 ≤ x ∧ x ≤ 1000) := of_decide_eq_false h

def modI (b x : Int) : Int := x % b

theorem modI_bd {b : Int} (h : 2 ≤ b) (x : Int) : 0 ≤ modI b x ∧ modI b x < b := by
  unfold modI
  exact ⟨Int.emod_nonneg x (by omega), Int.emod_lt_of_pos x (by omega)⟩

theorem tmod_bdM {b : Int} (h2 : 2 ≤ b) (h10 : b ≤ 100) (x : Int) : -100 ≤ x.tmod b ∧ x.tmod b ≤ 100 ∧ 0 ≤ x.tmod b + b ∧ (x.tmod b + b) % b = x % b := by
  have h := Int.emod_add_mul_ediv x b
  have t := Int.tmod_add_mul_tdiv x b
  have l : x.tmod b < b := Int.tmod_lt_of_pos x (by omega)
  have g : -b < x.tmod b := Int.lt_tmod_of_pos x (by omega)
  refine ⟨by omega, by omega, by omega, ?_⟩
  rw [Int.add_emod_right]
  exact ((congrArg (· % b) t).symm.trans (Int.add_mul_emod_self_left _ _ _)).symm

theorem l1Mod_m (x b : Int) (w : World) (h2 : 2 ≤ b) (h10 : b ≤ 100) :
    Calls Try.prog 57 #[.int .i64 x, .int .i64 b] w fun e w' => e = .returned (.int .i64 (modI b x)) ∧ w' = w := by
  obtain ⟨t1, t2, t3, t4⟩ := tmod_bdM h2 h10 x
  have HT := Lib.hid t4
  clear t4
  by_cases hx : 0 ≤ x
  · have l := Int.emod_nonneg x (show b ≠ 0 by omega)
    have g := Int.emod_lt_of_pos x (show 0 < b by omega)
    go_enter Try.func57, Try.ntmps57
    go_wp2
    go_ret
    exact ⟨ret_int (by unfold modI; simp), rfl⟩
  · go_enter Try.func57, Try.ntmps57
    go_wp2
    go_ret
    exact ⟨ret_int (by have := HT.out; simpa [modI] using this), rfl⟩

theorem diMarks_any (m : Int) (w : World) :
    Calls Try.prog 85 #[.int .i64 m] w fun e w' => e = .returned (.bool (marksB m)) ∧ w' = w := by
  have HV : Hid (inB m 2 100 = marksB m) := Lib.hid rfl
  go_enter Try.func85, Try.ntmps85
  go_wp2_with (go_at_call 63; refine (l1In_any _ _ _ _).mono ?_; rw [HV.out]; rintro e w2 ⟨rfl, rfl⟩)
  go_ret
  exact ⟨rfl, rfl⟩

theorem diStep_any (x : Int) (w : World) :
    Calls Try.prog 62 #[.int .i64 x] w fun e w' => e = .returned (.bool (stepB x)) ∧ w' = w := by
  by_cases h : x = 0
  · subst h
    go_enter Try.func62, Try.ntmps62
    go_wp2_with fail
    go_ret
    exact ⟨rfl, rfl⟩
  · have HV : Hid (inB x (-1000) 1000 = stepB x) := Lib.hid (by unfold inB stepB; rw [Bool.eq_iff_iff]; simp [h])
    go_enter Try.func62, Try.ntmps62
    go_wp2_with (go_at_call 63; refine (l1In_any _ _ _ _).mono ?_; rw [HV.out]; rintro e w2 ⟨rfl, rfl⟩)
    go_ret
    exact ⟨ret_bool (by first | rfl | simp [h]), rfl⟩

theorem diAsked_any (m s : Int) (w : World) (hm : -9223372036854775808 ≤ m ∧ m ≤ 9223372036854775807) :
    Calls Try.prog 55 #[.int .i64 m, .int .i64 s] w fun e w' => e = .returned (.bool (dmB m s)) ∧ w' = w := by
  by_cases h : marksB m = true
  · have HV : Hid (inB s 0 (m - 1) = dmB m s) := Lib.hid (by have := marks_yes h; unfold inB dmB; rw [Bool.eq_iff_iff]; simp; omega)
    have HM := Lib.hid h
    have h' := marks_yes h
    clear h
    go_enter Try.func55, Try.ntmps55
    go_wp2_with (first | (go_at_call 85; refine (diMarks_any _ _).mono ?_; rw [HM.out]; rintro e w2 ⟨rfl, rfl⟩) | (go_at_call 63; refine (l1In_any _ _ _ _).mono ?_; rw [HV.out]; rintro e w2 ⟨rfl, rfl⟩))
    go_ret
    exact ⟨rfl, rfl⟩
  · have HM := Lib.hid (Bool.eq_false_iff.2 h)
    have HV : Hid (dmB m s = false) := Lib.hid (by have := marks_no (Bool.eq_false_iff.2 h); unfold dmB; exact decide_eq_false (by omega))
    clear h
    go_enter Try.func55, Try.ntmps55
    go_wp2_with (go_at_call 85; refine (diMarks_any _ _).mono ?_; rw [HM.out]; rintro e w2 ⟨rfl, rfl⟩)
    go_ret
    exact ⟨ret_bool HV.out.symm, rfl⟩

theorem areMarks_any (m : Int) (w : World) :
    Calls Try.prog 91 #[.int .i64 m] w fun e w' => e = .returned (.bool (marksB m)) ∧ w' = w := by
  go_enter Try.func91, Try.ntmps91
  go_wp2
  all_goals go_ret
  all_goals refine ⟨ret_bool ?_, rfl⟩
  all_goals (unfold marksB; rw [Bool.eq_iff_iff]; simp; try omega)

theorem isStep_any (x : Int) (w : World) :
    Calls Try.prog 66 #[.int .i64 x] w fun e w' => e = .returned (.bool (stepB x)) ∧ w' = w := by
  by_cases h : x = 0
  · subst h
    go_enter Try.func66, Try.ntmps66
    go_wp2
    all_goals go_ret
    all_goals exact ⟨ret_bool (by first | rfl | simp [stepB]), rfl⟩
  · go_enter Try.func66, Try.ntmps66
    go_wp2
    all_goals go_ret
    all_goals refine ⟨ret_bool ?_, rfl⟩
    all_goals (unfold stepB; rw [Bool.eq_iff_iff]; simp [h]; try omega)

theorem marks_any (m r : Int) (w : World) :
    Calls Try.prog 96 #[.agg #[.int .i64 m, .int .i64 r]] w fun e w' => e = .returned (.int .i64 m) ∧ Below w.heap.size w w' := by
  go_enter Try.func96, Try.ntmps96
  go_wp2
  go_ret
  refine ⟨rfl, ?_⟩
  (repeat (first | assumption | exact Below.refl _ _ | (refine Below.alloc ?_ (by first | omega | (simp; done) | (simp; omega)) _) | (refine Below.setCell ?_ (by first | omega | (simp; done) | (simp; omega)) _) | refine bel_drewN ?_ _ | refine bel_drew ?_ | (refine bel_call ?_ (by assumption))))

theorem read_any (m r : Int) (w : World) :
    Calls Try.prog 61 #[.agg #[.int .i64 m, .int .i64 r]] w fun e w' => e = .returned (.int .i64 r) ∧ Below w.heap.size w w' := by
  go_enter Try.func61, Try.ntmps61
  go_wp2
  go_ret
  refine ⟨rfl, ?_⟩
  (repeat (first | assumption | exact Below.refl _ _ | (refine Below.alloc ?_ (by first | omega | (simp; done) | (simp; omega)) _) | (refine Below.setCell ?_ (by first | omega | (simp; done) | (simp; omega)) _) | refine bel_drewN ?_ _ | refine bel_drew ?_ | (refine bel_call ?_ (by assumption))))

end Go.Proofs.Ytfcljanechlmkaa
