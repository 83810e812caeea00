/- A clue and a puzzle, as the program asks for them: a clue that is none is raised and comes to a recovered door. No conditions. -/
import Derived.Test.YtgdjbclkdnmebaaDoorUc
import Derived.Defers
import Derived.Recover
namespace Go.Proofs.YtgdjbclkdnmebaaDoor
open Go.ChangeShapes Go.WideShapes Go.ChangeAt Go.RowKit Go.Joins

theorem isPuzzled_any (a b : Int) (w : World) :
    Calls Tryd.prog 82 #[.agg #[.int .i64 a, .int .i64 b]] w fun e w' => e = .returned (.bool (puzB a b)) ∧ Below w.heap.size w w' := by
  by_cases hg : goodB a b = true
  · have HG := Lib.hid hg
    have HV : Hid (puzB a b = decide (countZ a b ≤ 125)) := Lib.hid (by unfold puzB limB; rw [hg]; rfl)
    clear hg
    go_enter Tryd.func82, Tryd.ntmps82
    go_wp2_with (go_at_call 101; refine (count_any _ _ _).mono ?_; rw [HG.out]; rintro e w1 ⟨rfl, hb⟩; obtain ⟨hc, hf, hz⟩ := bcell hb; have hz0 : w.heap.size < w1.heap.size := by (try simp at hz); omega)
    go_ret
    refine ⟨ret_bool HV.out.symm, ?_⟩
    (repeat (first | assumption | exact Below.refl _ _ | (refine Below.alloc ?_ (by first | omega | (simp; done) | (simp; omega)) _) | (refine Below.setCell ?_ (by first | omega | (simp; done) | (simp; omega)) _) | refine bel_drewN ?_ _ | refine bel_drew ?_ | (refine bel_call ?_ (by assumption))))
  · have HG := Lib.hid (Bool.eq_false_iff.2 hg)
    have HV : Hid (puzB a b = false) := Lib.hid (by unfold puzB limB; rw [HG.out]; rfl)
    clear hg
    go_enter Tryd.func82, Tryd.ntmps82
    go_wp2_with (go_at_call 101; refine (count_any _ _ _).mono ?_; rw [HG.out]; rintro e w1 ⟨rfl, hb⟩; obtain ⟨hc, hf, hz⟩ := bcell hb; have hz0 : w.heap.size < w1.heap.size := by (try simp at hz); omega)
    go_ret
    refine ⟨ret_bool HV.out.symm, ?_⟩
    (repeat (first | assumption | exact Below.refl _ _ | (refine Below.alloc ?_ (by first | omega | (simp; done) | (simp; omega)) _) | (refine Below.setCell ?_ (by first | omega | (simp; done) | (simp; omega)) _) | refine bel_drewN ?_ _ | refine bel_drew ?_ | (refine bel_call ?_ (by assumption))))

/-- A clue has been raised. -/
abbrev raised (k x y : Int) : Ending := .panicked [{ v := .iface 77 (.agg #[.int .i64 k, .int .i64 x, .int .i64 y]), recovered := false }]

theorem checkNumbers_ok (k x y lo hi m : Int) (w : World) (h1 : lo ≤ x) (h2 : x ≤ hi) (h3 : 0 ≤ y) (h4 : y ≤ m) :
    Calls Tryd.prog 121 #[.agg #[.int .i64 k, .int .i64 x, .int .i64 y], .int .i64 lo, .int .i64 hi, .int .i64 m] w fun e w' => e = .returned (.tuple #[]) ∧ Below w.heap.size w w' := by
  go_enter Tryd.func121, Tryd.ntmps121
  go_wp2_with fail
  go_end0
  refine ⟨rfl, ?_⟩
  (repeat (first | assumption | exact Below.refl _ _ | (refine Below.alloc ?_ (by first | omega | (simp; done) | (simp; omega)) _) | (refine Below.setCell ?_ (by first | omega | (simp; done) | (simp; omega)) _) | refine bel_drewN ?_ _ | refine bel_drew ?_ | (refine bel_call ?_ (by assumption))))

theorem checkNumbers_no (k x y lo hi m : Int) (w : World) (h : ¬ (lo ≤ x ∧ x ≤ hi ∧ 0 ≤ y ∧ y ≤ m)) :
    Calls Tryd.prog 121 #[.agg #[.int .i64 k, .int .i64 x, .int .i64 y], .int .i64 lo, .int .i64 hi, .int .i64 m] w fun e w' => e = raised k x y ∧ Below w.heap.size w w' := by
  by_cases h1 : x < lo
  · clear h
    go_enter Tryd.func121, Tryd.ntmps121
    go_wp2_with fail
    refine ⟨rfl, rfl, ?_⟩
    (repeat (first | assumption | exact Below.refl _ _ | (refine Below.alloc ?_ (by first | omega | (simp; done) | (simp; omega)) _) | (refine Below.setCell ?_ (by first | omega | (simp; done) | (simp; omega)) _) | refine bel_drewN ?_ _ | refine bel_drew ?_ | (refine bel_call ?_ (by assumption))))
  by_cases h2 : hi < x
  · clear h
    have h1' : lo ≤ x := by omega
    go_enter Tryd.func121, Tryd.ntmps121
    go_wp2_with fail
    refine ⟨rfl, rfl, ?_⟩
    (repeat (first | assumption | exact Below.refl _ _ | (refine Below.alloc ?_ (by first | omega | (simp; done) | (simp; omega)) _) | (refine Below.setCell ?_ (by first | omega | (simp; done) | (simp; omega)) _) | refine bel_drewN ?_ _ | refine bel_drew ?_ | (refine bel_call ?_ (by assumption))))
  by_cases h3 : y < 0
  · clear h
    have h1' : lo ≤ x := by omega
    have h2' : x ≤ hi := by omega
    go_enter Tryd.func121, Tryd.ntmps121
    go_wp2_with fail
    refine ⟨rfl, rfl, ?_⟩
    (repeat (first | assumption | exact Below.refl _ _ | (refine Below.alloc ?_ (by first | omega | (simp; done) | (simp; omega)) _) | (refine Below.setCell ?_ (by first | omega | (simp; done) | (simp; omega)) _) | refine bel_drewN ?_ _ | refine bel_drew ?_ | (refine bel_call ?_ (by assumption))))
  · have h4 : m < y := by omega
    clear h
    have h1' : lo ≤ x := by omega
    have h2' : x ≤ hi := by omega
    have h3' : 0 ≤ y := by omega
    go_enter Tryd.func121, Tryd.ntmps121
    go_wp2_with fail
    refine ⟨rfl, rfl, ?_⟩
    (repeat (first | assumption | exact Below.refl _ _ | (refine Below.alloc ?_ (by first | omega | (simp; done) | (simp; omega)) _) | (refine Below.setCell ?_ (by first | omega | (simp; done) | (simp; omega)) _) | refine bel_drewN ?_ _ | refine bel_drew ?_ | (refine bel_call ?_ (by assumption))))

theorem inB_no {n lo hi : Int} (h : inB n lo hi = false) : ¬ (lo ≤ n ∧ n ≤ hi) := of_decide_eq_false h

theorem cluB_kind_0 {a b x y : Int} (h : cluB a b (0, x, y) = false) : ¬ (0 ≤ x ∧ x ≤ a - 1 ∧ 0 ≤ y ∧ y ≤ b - 1) := fun e => by
  rw [cluB_0, show inB x 0 (a - 1) = true from decide_eq_true (by omega), show inB y 0 (b - 1) = true from decide_eq_true (by omega)] at h
  cases h

theorem cluB_kind_1 {a b x y : Int} (h : cluB a b (1, x, y) = false) : ¬ (0 ≤ x ∧ x ≤ 60 ∧ 0 ≤ y ∧ y ≤ 0) := fun e => by
  rw [cluB_1, show inB x 0 60 = true from decide_eq_true (by omega), show inB y 0 0 = true from decide_eq_true (by omega)] at h
  cases h

theorem cluB_kind_2 {a b x y : Int} (h : cluB a b (2, x, y) = false) : ¬ (0 ≤ x ∧ x ≤ countZ a b - 1 ∧ 0 ≤ y ∧ y ≤ a) := fun e => by
  rw [cluB_2, show inB x 0 (countZ a b - 1) = true from decide_eq_true (by omega), show inB y 0 a = true from decide_eq_true (by omega)] at h
  cases h

theorem cluB_kind_3 {a b x y : Int} (h : cluB a b (3, x, y) = false) : ¬ (0 ≤ x ∧ x ≤ countZ a b - 1 ∧ 0 ≤ y ∧ y ≤ 60) := fun e => by
  rw [cluB_3, show inB x 0 (countZ a b - 1) = true from decide_eq_true (by omega), show inB y 0 60 = true from decide_eq_true (by omega)] at h
  cases h

/-- What is asked of a divisor's clue, whatever the remainder's bound is where there is no divisor. -/
theorem cluB_kind_4 {a b x y m : Int} (h : cluB a b (4, x, y) = false) (hm : 2 ≤ x → x ≤ 9 → m = x - 1) : ¬ (2 ≤ x ∧ x ≤ 9 ∧ 0 ≤ y ∧ y ≤ m) := fun e => by
  have := hm e.1 e.2.1
  rw [cluB_4, show inB x 2 9 = true from decide_eq_true (by omega), show inB y 0 (x - 1) = true from decide_eq_true (by omega)] at h
  cases h

theorem cluB_yes2 {p q : Bool} (h : (p && q) = true) : p = true ∧ q = true := by rwa [Bool.and_eq_true] at h

set_option maxRecDepth 100000 in
set_option maxHeartbeats 1000000 in
theorem checkClue_ok_0 (a b x y : Int) (w : World) (hp : puzB a b = true) (h : cluB a b (0, x, y) = true) :
    Calls Tryd.prog 103 #[.agg #[.int .i64 a, .int .i64 b], .agg #[.int .i64 0, .int .i64 x, .int .i64 y]] w fun e w' => e = .returned (.tuple #[]) ∧ Below w.heap.size w w' := by
  have HG := Lib.hid (puzB_yes hp).1
  obtain ⟨a1, a2, b1, b2, c1, c2⟩ := puz_bds hp
  rw [cluB_0] at h
  obtain ⟨i1, i2⟩ := cluB_yes2 h
  have j1 := inB_yes i1
  have j2 := inB_yes i2
  clear hp h i1 i2
  generalize hq : countZ a b = q at c1 c2
  have HQ := Lib.hid hq
  obtain ⟨j1, j1'⟩ := j1
  obtain ⟨j2, j2'⟩ := j2
  clear hq
  go_enter Tryd.func103, Tryd.ntmps103
  go_wp2_with (first | (go_at_call 101; refine (count_any _ _ _).mono ?_; rw [HG.out, HQ.out]; rintro e w1 ⟨rfl, hb⟩; obtain ⟨hc, hf, hz⟩ := bcell hb; have hz0 : w.heap.size < w1.heap.size := by (try simp at hz); omega) | (go_at_call 121; refine (checkNumbers_ok _ _ _ _ _ _ _ (by omega) (by omega) (by omega) (by omega)).mono ?_; rintro e w2 ⟨rfl, hb2⟩))
  first | go_end0 | refine bodyPost_ret (results_none rfl _ _ _) rfl ?_
  refine ⟨rfl, ?_⟩
  (repeat (first | assumption | exact Below.refl _ _ | (refine Below.alloc ?_ (by first | omega | (simp; done) | (simp; omega)) _) | (refine Below.setCell ?_ (by first | omega | (simp; done) | (simp; omega)) _) | refine bel_drewN ?_ _ | refine bel_drew ?_ | (refine bel_call ?_ (by assumption))))

set_option maxRecDepth 100000 in
set_option maxHeartbeats 1000000 in
theorem checkClue_no_0 (a b x y : Int) (w : World) (hp : puzB a b = true) (h : cluB a b (0, x, y) = false) :
    Calls Tryd.prog 103 #[.agg #[.int .i64 a, .int .i64 b], .agg #[.int .i64 0, .int .i64 x, .int .i64 y]] w fun e w' => e = raised 0 x y ∧ Below w.heap.size w w' := by
  have HG := Lib.hid (puzB_yes hp).1
  obtain ⟨a1, a2, b1, b2, c1, c2⟩ := puz_bds hp
  have hn := cluB_kind_0 h
  clear hp h
  generalize hq : countZ a b = q at c1 c2
  have HQ := Lib.hid hq
  have HN := Lib.hid hn
  clear hq hn
  go_enter Tryd.func103, Tryd.ntmps103
  go_wp2_with (first | (go_at_call 101; refine (count_any _ _ _).mono ?_; rw [HG.out, HQ.out]; rintro e w1 ⟨rfl, hb⟩; obtain ⟨hc, hf, hz⟩ := bcell hb; have hz0 : w.heap.size < w1.heap.size := by (try simp at hz); omega) | (go_at_call 121; refine (checkNumbers_no _ _ _ _ _ _ _ HN.out).mono ?_; rintro e w2 ⟨rfl, hb2⟩))
  refine ⟨rfl, rfl, ?_⟩
  (repeat (first | assumption | exact Below.refl _ _ | (refine Below.alloc ?_ (by first | omega | (simp; done) | (simp; omega)) _) | (refine Below.setCell ?_ (by first | omega | (simp; done) | (simp; omega)) _) | refine bel_drewN ?_ _ | refine bel_drew ?_ | (refine bel_call ?_ (by assumption))))

set_option maxRecDepth 100000 in
set_option maxHeartbeats 1000000 in
theorem checkClue_ok_1 (a b x y : Int) (w : World) (hp : puzB a b = true) (h : cluB a b (1, x, y) = true) :
    Calls Tryd.prog 103 #[.agg #[.int .i64 a, .int .i64 b], .agg #[.int .i64 1, .int .i64 x, .int .i64 y]] w fun e w' => e = .returned (.tuple #[]) ∧ Below w.heap.size w w' := by
  have HG := Lib.hid (puzB_yes hp).1
  obtain ⟨a1, a2, b1, b2, c1, c2⟩ := puz_bds hp
  rw [cluB_1] at h
  obtain ⟨i1, i2⟩ := cluB_yes2 h
  have j1 := inB_yes i1
  have j2 := inB_yes i2
  clear hp h i1 i2
  generalize hq : countZ a b = q at c1 c2
  have HQ := Lib.hid hq
  obtain ⟨j1, j1'⟩ := j1
  obtain ⟨j2, j2'⟩ := j2
  clear hq
  go_enter Tryd.func103, Tryd.ntmps103
  go_wp2_with (first | (go_at_call 101; refine (count_any _ _ _).mono ?_; rw [HG.out, HQ.out]; rintro e w1 ⟨rfl, hb⟩; obtain ⟨hc, hf, hz⟩ := bcell hb; have hz0 : w.heap.size < w1.heap.size := by (try simp at hz); omega) | (go_at_call 121; refine (checkNumbers_ok _ _ _ _ _ _ _ (by omega) (by omega) (by omega) (by omega)).mono ?_; rintro e w2 ⟨rfl, hb2⟩))
  first | go_end0 | refine bodyPost_ret (results_none rfl _ _ _) rfl ?_
  refine ⟨rfl, ?_⟩
  (repeat (first | assumption | exact Below.refl _ _ | (refine Below.alloc ?_ (by first | omega | (simp; done) | (simp; omega)) _) | (refine Below.setCell ?_ (by first | omega | (simp; done) | (simp; omega)) _) | refine bel_drewN ?_ _ | refine bel_drew ?_ | (refine bel_call ?_ (by assumption))))

set_option maxRecDepth 100000 in
set_option maxHeartbeats 1000000 in
theorem checkClue_no_1 (a b x y : Int) (w : World) (hp : puzB a b = true) (h : cluB a b (1, x, y) = false) :
    Calls Tryd.prog 103 #[.agg #[.int .i64 a, .int .i64 b], .agg #[.int .i64 1, .int .i64 x, .int .i64 y]] w fun e w' => e = raised 1 x y ∧ Below w.heap.size w w' := by
  have HG := Lib.hid (puzB_yes hp).1
  obtain ⟨a1, a2, b1, b2, c1, c2⟩ := puz_bds hp
  have hn := cluB_kind_1 h
  clear hp h
  generalize hq : countZ a b = q at c1 c2
  have HQ := Lib.hid hq
  have HN := Lib.hid hn
  clear hq hn
  go_enter Tryd.func103, Tryd.ntmps103
  go_wp2_with (first | (go_at_call 101; refine (count_any _ _ _).mono ?_; rw [HG.out, HQ.out]; rintro e w1 ⟨rfl, hb⟩; obtain ⟨hc, hf, hz⟩ := bcell hb; have hz0 : w.heap.size < w1.heap.size := by (try simp at hz); omega) | (go_at_call 121; refine (checkNumbers_no _ _ _ _ _ _ _ HN.out).mono ?_; rintro e w2 ⟨rfl, hb2⟩))
  refine ⟨rfl, rfl, ?_⟩
  (repeat (first | assumption | exact Below.refl _ _ | (refine Below.alloc ?_ (by first | omega | (simp; done) | (simp; omega)) _) | (refine Below.setCell ?_ (by first | omega | (simp; done) | (simp; omega)) _) | refine bel_drewN ?_ _ | refine bel_drew ?_ | (refine bel_call ?_ (by assumption))))

set_option maxRecDepth 100000 in
set_option maxHeartbeats 1000000 in
theorem checkClue_ok_2 (a b x y : Int) (w : World) (hp : puzB a b = true) (h : cluB a b (2, x, y) = true) :
    Calls Tryd.prog 103 #[.agg #[.int .i64 a, .int .i64 b], .agg #[.int .i64 2, .int .i64 x, .int .i64 y]] w fun e w' => e = .returned (.tuple #[]) ∧ Below w.heap.size w w' := by
  have HG := Lib.hid (puzB_yes hp).1
  obtain ⟨a1, a2, b1, b2, c1, c2⟩ := puz_bds hp
  rw [cluB_2] at h
  obtain ⟨i1, i2⟩ := cluB_yes2 h
  have j1 := inB_yes i1
  have j2 := inB_yes i2
  clear hp h i1 i2
  generalize hq : countZ a b = q at c1 c2 j1
  have HQ := Lib.hid hq
  obtain ⟨j1, j1'⟩ := j1
  obtain ⟨j2, j2'⟩ := j2
  clear hq
  go_enter Tryd.func103, Tryd.ntmps103
  go_wp2_with (first | (go_at_call 101; refine (count_any _ _ _).mono ?_; rw [HG.out, HQ.out]; rintro e w1 ⟨rfl, hb⟩; obtain ⟨hc, hf, hz⟩ := bcell hb; have hz0 : w.heap.size < w1.heap.size := by (try simp at hz); omega) | (go_at_call 121; refine (checkNumbers_ok _ _ _ _ _ _ _ (by omega) (by omega) (by omega) (by omega)).mono ?_; rintro e w2 ⟨rfl, hb2⟩))
  first | go_end0 | refine bodyPost_ret (results_none rfl _ _ _) rfl ?_
  refine ⟨rfl, ?_⟩
  (repeat (first | assumption | exact Below.refl _ _ | (refine Below.alloc ?_ (by first | omega | (simp; done) | (simp; omega)) _) | (refine Below.setCell ?_ (by first | omega | (simp; done) | (simp; omega)) _) | refine bel_drewN ?_ _ | refine bel_drew ?_ | (refine bel_call ?_ (by assumption))))

set_option maxRecDepth 100000 in
set_option maxHeartbeats 1000000 in
theorem checkClue_no_2 (a b x y : Int) (w : World) (hp : puzB a b = true) (h : cluB a b (2, x, y) = false) :
    Calls Tryd.prog 103 #[.agg #[.int .i64 a, .int .i64 b], .agg #[.int .i64 2, .int .i64 x, .int .i64 y]] w fun e w' => e = raised 2 x y ∧ Below w.heap.size w w' := by
  have HG := Lib.hid (puzB_yes hp).1
  obtain ⟨a1, a2, b1, b2, c1, c2⟩ := puz_bds hp
  have hn := cluB_kind_2 h
  clear hp h
  generalize hq : countZ a b = q at c1 c2 hn
  have HQ := Lib.hid hq
  have HN := Lib.hid hn
  clear hq hn
  go_enter Tryd.func103, Tryd.ntmps103
  go_wp2_with (first | (go_at_call 101; refine (count_any _ _ _).mono ?_; rw [HG.out, HQ.out]; rintro e w1 ⟨rfl, hb⟩; obtain ⟨hc, hf, hz⟩ := bcell hb; have hz0 : w.heap.size < w1.heap.size := by (try simp at hz); omega) | (go_at_call 121; refine (checkNumbers_no _ _ _ _ _ _ _ HN.out).mono ?_; rintro e w2 ⟨rfl, hb2⟩))
  refine ⟨rfl, rfl, ?_⟩
  (repeat (first | assumption | exact Below.refl _ _ | (refine Below.alloc ?_ (by first | omega | (simp; done) | (simp; omega)) _) | (refine Below.setCell ?_ (by first | omega | (simp; done) | (simp; omega)) _) | refine bel_drewN ?_ _ | refine bel_drew ?_ | (refine bel_call ?_ (by assumption))))

set_option maxRecDepth 100000 in
set_option maxHeartbeats 1000000 in
theorem checkClue_ok_3 (a b x y : Int) (w : World) (hp : puzB a b = true) (h : cluB a b (3, x, y) = true) :
    Calls Tryd.prog 103 #[.agg #[.int .i64 a, .int .i64 b], .agg #[.int .i64 3, .int .i64 x, .int .i64 y]] w fun e w' => e = .returned (.tuple #[]) ∧ Below w.heap.size w w' := by
  have HG := Lib.hid (puzB_yes hp).1
  obtain ⟨a1, a2, b1, b2, c1, c2⟩ := puz_bds hp
  rw [cluB_3] at h
  obtain ⟨i1, i2⟩ := cluB_yes2 h
  have j1 := inB_yes i1
  have j2 := inB_yes i2
  clear hp h i1 i2
  generalize hq : countZ a b = q at c1 c2 j1
  have HQ := Lib.hid hq
  obtain ⟨j1, j1'⟩ := j1
  obtain ⟨j2, j2'⟩ := j2
  clear hq
  go_enter Tryd.func103, Tryd.ntmps103
  go_wp2_with (first | (go_at_call 101; refine (count_any _ _ _).mono ?_; rw [HG.out, HQ.out]; rintro e w1 ⟨rfl, hb⟩; obtain ⟨hc, hf, hz⟩ := bcell hb; have hz0 : w.heap.size < w1.heap.size := by (try simp at hz); omega) | (go_at_call 121; refine (checkNumbers_ok _ _ _ _ _ _ _ (by omega) (by omega) (by omega) (by omega)).mono ?_; rintro e w2 ⟨rfl, hb2⟩))
  first | go_end0 | refine bodyPost_ret (results_none rfl _ _ _) rfl ?_
  refine ⟨rfl, ?_⟩
  (repeat (first | assumption | exact Below.refl _ _ | (refine Below.alloc ?_ (by first | omega | (simp; done) | (simp; omega)) _) | (refine Below.setCell ?_ (by first | omega | (simp; done) | (simp; omega)) _) | refine bel_drewN ?_ _ | refine bel_drew ?_ | (refine bel_call ?_ (by assumption))))

set_option maxRecDepth 100000 in
set_option maxHeartbeats 1000000 in
theorem checkClue_no_3 (a b x y : Int) (w : World) (hp : puzB a b = true) (h : cluB a b (3, x, y) = false) :
    Calls Tryd.prog 103 #[.agg #[.int .i64 a, .int .i64 b], .agg #[.int .i64 3, .int .i64 x, .int .i64 y]] w fun e w' => e = raised 3 x y ∧ Below w.heap.size w w' := by
  have HG := Lib.hid (puzB_yes hp).1
  obtain ⟨a1, a2, b1, b2, c1, c2⟩ := puz_bds hp
  have hn := cluB_kind_3 h
  clear hp h
  generalize hq : countZ a b = q at c1 c2 hn
  have HQ := Lib.hid hq
  have HN := Lib.hid hn
  clear hq hn
  go_enter Tryd.func103, Tryd.ntmps103
  go_wp2_with (first | (go_at_call 101; refine (count_any _ _ _).mono ?_; rw [HG.out, HQ.out]; rintro e w1 ⟨rfl, hb⟩; obtain ⟨hc, hf, hz⟩ := bcell hb; have hz0 : w.heap.size < w1.heap.size := by (try simp at hz); omega) | (go_at_call 121; refine (checkNumbers_no _ _ _ _ _ _ _ HN.out).mono ?_; rintro e w2 ⟨rfl, hb2⟩))
  refine ⟨rfl, rfl, ?_⟩
  (repeat (first | assumption | exact Below.refl _ _ | (refine Below.alloc ?_ (by first | omega | (simp; done) | (simp; omega)) _) | (refine Below.setCell ?_ (by first | omega | (simp; done) | (simp; omega)) _) | refine bel_drewN ?_ _ | refine bel_drew ?_ | (refine bel_call ?_ (by assumption))))

set_option maxRecDepth 100000 in
set_option maxHeartbeats 1000000 in
theorem checkClue_ok_4 (a b x y : Int) (w : World) (hp : puzB a b = true) (h : cluB a b (4, x, y) = true) :
    Calls Tryd.prog 103 #[.agg #[.int .i64 a, .int .i64 b], .agg #[.int .i64 4, .int .i64 x, .int .i64 y]] w fun e w' => e = .returned (.tuple #[]) ∧ Below w.heap.size w w' := by
  have HG := Lib.hid (puzB_yes hp).1
  obtain ⟨a1, a2, b1, b2, c1, c2⟩ := puz_bds hp
  rw [cluB_4] at h
  obtain ⟨i1, i2⟩ := cluB_yes2 h
  have j1 := inB_yes i1
  have j2 := inB_yes i2
  clear hp h i1 i2
  generalize hq : countZ a b = q at c1 c2
  have HQ := Lib.hid hq
  obtain ⟨j1, j1'⟩ := j1
  obtain ⟨j2, j2'⟩ := j2
  clear hq
  go_enter Tryd.func103, Tryd.ntmps103
  go_wp2_with (first | (go_at_call 101; refine (count_any _ _ _).mono ?_; rw [HG.out, HQ.out]; rintro e w1 ⟨rfl, hb⟩; obtain ⟨hc, hf, hz⟩ := bcell hb; have hz0 : w.heap.size < w1.heap.size := by (try simp at hz); omega) | (go_at_call 121; refine (checkNumbers_ok _ _ _ _ _ _ _ (by omega) (by omega) (by omega) (by omega)).mono ?_; rintro e w2 ⟨rfl, hb2⟩))
  first | go_end0 | refine bodyPost_ret (results_none rfl _ _ _) rfl ?_
  refine ⟨rfl, ?_⟩
  (repeat (first | assumption | exact Below.refl _ _ | (refine Below.alloc ?_ (by first | omega | (simp; done) | (simp; omega)) _) | (refine Below.setCell ?_ (by first | omega | (simp; done) | (simp; omega)) _) | refine bel_drewN ?_ _ | refine bel_drew ?_ | (refine bel_call ?_ (by assumption))))

set_option maxRecDepth 100000 in
set_option maxHeartbeats 1000000 in
theorem checkClue_no_4 (a b x y : Int) (w : World) (hp : puzB a b = true) (h : cluB a b (4, x, y) = false) :
    Calls Tryd.prog 103 #[.agg #[.int .i64 a, .int .i64 b], .agg #[.int .i64 4, .int .i64 x, .int .i64 y]] w fun e w' => e = raised 4 x y ∧ Below w.heap.size w w' := by
  have HG := Lib.hid (puzB_yes hp).1
  clear hp
  by_cases hx : 2 ≤ x ∧ x ≤ 9
  · have hn := cluB_kind_4 (m := x - 1) h (fun h1 h2 => rfl)
    have HN := Lib.hid hn
    obtain ⟨x1, x2⟩ := hx
    clear h hn
    go_enter Tryd.func103, Tryd.ntmps103
    go_wp2_with (first | (go_at_call 101; refine (count_any _ _ _).mono ?_; rw [HG.out]; rintro e w1 ⟨rfl, hb⟩; obtain ⟨hc, hf, hz⟩ := bcell hb; have hz0 : w.heap.size < w1.heap.size := by (try simp at hz); omega) | (go_at_call 121; refine (checkNumbers_no _ _ _ _ _ _ _ HN.out).mono ?_; rintro e w2 ⟨rfl, hb2⟩))
    refine ⟨rfl, rfl, ?_⟩
    (repeat (first | assumption | exact Below.refl _ _ | (refine Below.alloc ?_ (by first | omega | (simp; done) | (simp; omega)) _) | (refine Below.setCell ?_ (by first | omega | (simp; done) | (simp; omega)) _) | refine bel_drewN ?_ _ | refine bel_drew ?_ | (refine bel_call ?_ (by assumption))))
  · have HN : Hid (∀ m, ¬ (2 ≤ x ∧ x ≤ 9 ∧ 0 ≤ y ∧ y ≤ m)) := Lib.hid (fun m e => hx ⟨e.1, e.2.1⟩)
    clear h hx
    go_enter Tryd.func103, Tryd.ntmps103
    go_wp2_with (first | (go_at_call 101; refine (count_any _ _ _).mono ?_; rw [HG.out]; rintro e w1 ⟨rfl, hb⟩; obtain ⟨hc, hf, hz⟩ := bcell hb; have hz0 : w.heap.size < w1.heap.size := by (try simp at hz); omega) | (go_at_call 121; refine (checkNumbers_no _ _ _ _ _ _ _ (HN.out _)).mono ?_; rintro e w2 ⟨rfl, hb2⟩))
    refine ⟨rfl, rfl, ?_⟩
    (repeat (first | assumption | exact Below.refl _ _ | (refine Below.alloc ?_ (by first | omega | (simp; done) | (simp; omega)) _) | (refine Below.setCell ?_ (by first | omega | (simp; done) | (simp; omega)) _) | refine bel_drewN ?_ _ | refine bel_drew ?_ | (refine bel_call ?_ (by assumption))))

set_option maxRecDepth 100000 in
set_option maxHeartbeats 1000000 in
theorem checkClue_none (a b k x y : Int) (w : World) (hp : puzB a b = true) (k0 : k ≠ 0) (k1 : k ≠ 1) (k2 : k ≠ 2) (k3 : k ≠ 3) (k4 : k ≠ 4) :
    Calls Tryd.prog 103 #[.agg #[.int .i64 a, .int .i64 b], .agg #[.int .i64 k, .int .i64 x, .int .i64 y]] w fun e w' => e = raised k x y ∧ Below w.heap.size w w' := by
  have HG := Lib.hid (puzB_yes hp).1
  have e0 : (k == 0) = false := by simpa using k0
  have e1 : (k == 1) = false := by simpa using k1
  have e2 : (k == 2) = false := by simpa using k2
  have e3 : (k == 3) = false := by simpa using k3
  have e4 : (k == 4) = false := by simpa using k4
  clear hp
  go_enter Tryd.func103, Tryd.ntmps103
  go_wp2_with (go_at_call 101; refine (count_any _ _ _).mono ?_; rw [HG.out]; rintro e w1 ⟨rfl, hb⟩; obtain ⟨hc, hf, hz⟩ := bcell hb; have hz0 : w.heap.size < w1.heap.size := by (try simp at hz); omega)
  refine ⟨rfl, rfl, ?_⟩
  (repeat (first | assumption | exact Below.refl _ _ | (refine Below.alloc ?_ (by first | omega | (simp; done) | (simp; omega)) _) | (refine Below.setCell ?_ (by first | omega | (simp; done) | (simp; omega)) _) | refine bel_drewN ?_ _ | refine bel_drew ?_ | (refine bel_call ?_ (by assumption))))

theorem checkClue_ok (a b k x y : Int) (w : World) (hp : puzB a b = true) (h : cluB a b (k, x, y) = true) :
    Calls Tryd.prog 103 #[.agg #[.int .i64 a, .int .i64 b], .agg #[.int .i64 k, .int .i64 x, .int .i64 y]] w fun e w' => e = .returned (.tuple #[]) ∧ Below w.heap.size w w' := by
  rcases cluB_kind h with e | e | e | e | e <;> dsimp only at e <;> subst e
  · exact checkClue_ok_0 a b x y w hp h
  · exact checkClue_ok_1 a b x y w hp h
  · exact checkClue_ok_2 a b x y w hp h
  · exact checkClue_ok_3 a b x y w hp h
  · exact checkClue_ok_4 a b x y w hp h

theorem checkClue_no (a b k x y : Int) (w : World) (hp : puzB a b = true) (h : cluB a b (k, x, y) = false) :
    Calls Tryd.prog 103 #[.agg #[.int .i64 a, .int .i64 b], .agg #[.int .i64 k, .int .i64 x, .int .i64 y]] w fun e w' => e = raised k x y ∧ Below w.heap.size w w' := by
  by_cases k0 : k = 0
  · subst k0; exact checkClue_no_0 a b x y w hp h
  by_cases k1 : k = 1
  · subst k1; exact checkClue_no_1 a b x y w hp h
  by_cases k2 : k = 2
  · subst k2; exact checkClue_no_2 a b x y w hp h
  by_cases k3 : k = 3
  · subst k3; exact checkClue_no_3 a b x y w hp h
  by_cases k4 : k = 4
  · subst k4; exact checkClue_no_4 a b x y w hp h
  exact checkClue_none a b k x y w hp k0 k1 k2 k3 k4

/-- A cell of its own, found past blocks that were made behind it. -/
theorem assertClue_yes (W : World) (v : Value) : (Instr.typeAssert (.iface 77 v) 20 77 true).run Tryd.prog W = .ok (.tuple #[v, .bool true]) W := by kernel_rfl

theorem assertClue_nil (W : World) : (Instr.typeAssert .nilIface 20 77 true).run Tryd.prog W = .ok (.tuple #[.agg #[.int .i64 0, .int .i64 0, .int .i64 0], .bool false]) W := by kernel_rfl

theorem door_panicking (p : Addr) (x : Value) (v : Value) (older : List PanicEntry) (w : World) (hc : w.cell? p = some x) (hz : w.frozen? p = false) :
    CallsD Tryd.prog 102 #[.pointer (some p)] (.panicking ({ v := .iface 77 v, recovered := false } :: older)) w fun e u' w' =>
      e = .returned (.tuple #[]) ∧ u' = .panicking ({ v := .iface 77 v, recovered := true } :: older) ∧ w' = w.setCell p (.bool true) := by
  refine callsD_of_wpS Tryd.func102 rfl fun c₀ cs hu => ?_
  apply wpS_region
  simp [wpOpsS, go_sem, recoverD, hu, Tryd.ntmps102, assertClue_yes, hc, hz, bodyPostS, results, Tryd.results102]

theorem door_idle (p : Addr) (x : Value) (w : World) (hc : w.cell? p = some x) (hz : w.frozen? p = false) :
    CallsD Tryd.prog 102 #[.pointer (some p)] .returning w fun e u' w' => e = .returned (.tuple #[]) ∧ u' = .returning ∧ w' = w.setCell p (.bool false) := by
  refine callsD_of_wpS Tryd.func102 rfl fun c₀ cs hu => ?_
  apply wpS_region
  simp [wpOpsS, go_sem, recoverD, hu, Tryd.ntmps102, assertClue_nil, hc, hz, bodyPostS, results, Tryd.results102]
  cases c₀
  simp_all

end Go.Proofs.YtgdjbclkdnmebaaDoor
