/- Dials: numbers of marks, signs, sizes, steps and codes, as both programs ask for them. For lists of at most 1048576 numbers. -/
import Derived.Test.YtfcljanechlmkaaYb
namespace Go.Proofs.Ytfcljanechlmkaa
open Go.ChangeShapes Go.WideShapes Go.ChangeAt Go.RowKit Go.Joins

def dirI (x : Int) : Int := if x < 0 then -1 else 1

def absI (x : Int) : Int := if x < 0 then -x else x

def sgnI (x : Int) : Int := if 0 < x then 1 else if x < 0 then -1 else 0

/-- There are steps. -/
def stepsB (xs : List Int) : Bool := decide (xs.length ≤ 12) && xs.all stepB

/-- There is a dial code. -/
def codeB (m : Int) (xs : List Int) : Bool := decide (1 ≤ xs.length ∧ xs.length ≤ 12) && xs.all (dmB m)

theorem directionOf_any (x : Int) (w : World) :
    Calls Try.prog 69 #[.int .i64 x] w fun e w' => e = .returned (.int .i64 (dirI x)) ∧ w' = w := by
  by_cases h : x < 0
  · go_enter Try.func69, Try.ntmps69
    go_wp2
    go_ret
    exact ⟨ret_int (by unfold dirI; rw [if_pos h]), rfl⟩
  · go_enter Try.func69, Try.ntmps69
    go_wp2
    go_ret
    exact ⟨ret_int (by unfold dirI; rw [if_neg (by omega)]), rfl⟩

theorem sizeOf_any (x : Int) (w : World) (hx : -1000000 ≤ x ∧ x ≤ 1000000) :
    Calls Try.prog 67 #[.int .i64 x] w fun e w' => e = .returned (.int .i64 (absI x)) ∧ w' = w := by
  have HD : Hid (x * dirI x = absI x) := Lib.hid (by unfold dirI absI; split <;> omega)
  have hb : -1000000 ≤ x * dirI x ∧ x * dirI x ≤ 1000000 := by unfold dirI; split <;> omega
  have hw : IntKind.i64.wrap (x * dirI x) = x * dirI x := IntWalk.i64_in _ (by omega)
  go_enter Try.func67, Try.ntmps67
  go_wp2_with (go_at_call 69; refine (directionOf_any _ _).mono ?_; rintro e w2 ⟨rfl, rfl⟩)
  go_ret
  exact ⟨ret_int HD.out, rfl⟩

theorem l1Sign_any (x : Int) (w : World) :
    Calls Try.prog 83 #[.int .i64 x] w fun e w' => e = .returned (.int .i64 (sgnI x)) ∧ w' = w := by
  by_cases h : 0 < x
  · go_enter Try.func83, Try.ntmps83
    go_wp2
    go_ret
    exact ⟨ret_int (by unfold sgnI; rw [if_pos h]), rfl⟩
  · by_cases h2 : x < 0
    · go_enter Try.func83, Try.ntmps83
      go_wp2
      go_ret
      exact ⟨ret_int (by unfold sgnI; rw [if_neg (by omega), if_pos h2]), rfl⟩
    · obtain rfl : x = 0 := by omega
      go_enter Try.func83, Try.ntmps83
      go_wp2
      go_ret
      exact ⟨rfl, rfl⟩

theorem l1Most_any (x y : Int) (w : World) :
    Calls Try.prog 103 #[.int .i64 x, .int .i64 y] w fun e w' => e = .returned (.int .i64 (if y < x then x else y)) ∧ w' = w := by
  by_cases h : y < x
  · go_enter Try.func103, Try.ntmps103
    go_wp2
    go_ret
    exact ⟨ret_int (by first | rfl | (split <;> omega)), rfl⟩
  · go_enter Try.func103, Try.ntmps103
    go_wp2
    go_ret
    exact ⟨ret_int (by first | rfl | (split <;> omega)), rfl⟩

/-- The lesser one. -/
def lesI (x y : Int) : Int := if x < y then x else y

theorem l1Least_m (x y : Int) (w : World) :
    Calls Try.prog 86 #[.int .i64 x, .int .i64 y] w fun e w' => e = .returned (.int .i64 (lesI x y)) ∧ w' = w := by
  by_cases h : x < y
  · go_enter Try.func86, Try.ntmps86
    go_wp2
    go_ret
    exact ⟨ret_int (by unfold lesI; rw [if_pos h]), rfl⟩
  · go_enter Try.func86, Try.ntmps86
    go_wp2
    go_ret
    exact ⟨ret_int (by unfold lesI; rw [if_neg (by omega)]), rfl⟩

theorem l1Abs_any (x : Int) (w : World) (hx : -1000000 ≤ x ∧ x ≤ 1000000) :
    Calls Try.prog 98 #[.int .i64 x] w fun e w' => e = .returned (.int .i64 (absI x)) ∧ w' = w := by
  have HD : Hid ((if -x < x then x else -x) = absI x) := Lib.hid (by unfold absI; split <;> split <;> omega)
  go_enter Try.func98, Try.ntmps98
  go_wp2_with (go_at_call 103; refine (l1Most_any _ _ _).mono ?_; rw [HD.out]; rintro e w2 ⟨rfl, rfl⟩)
  go_ret
  exact ⟨rfl, rfl⟩

theorem diSteps_any (A : Option Addr) (n c : Nat) (xs : List Int) (w : World) (hm : n ≤ 1048576) (hA : IntsA w A n xs) :
    Calls Try.prog 56 #[.slice A n c] w fun e w' => e = .returned (.bool (stepsB xs)) ∧ w' = w := by
  have HL := Lib.hid hA.len
  have HA := Lib.hid hA
  clear hA
  by_cases h12 : (n : Int) ≤ 12
  · have HS : Hid (stepsB xs = xs.all stepB) := Lib.hid (by unfold stepsB; rw [HL.out, decide_eq_true (by omega)]; rfl)
    go_enter Try.func56, Try.ntmps56
    go_wp2_with fail
    go_loop [10] (fun i => ∃ k : Nat, k ≤ n ∧ i = .int .i64 k ∧ (xs.take k).all stepB = true) (fun i => n - (intOf i).toNat)
    case atStart => exact ⟨0, by omega, rfl, by simp⟩
    case round =>
      obtain ⟨k, hk, rfl, hall⟩ := hrel
      have HAL := Lib.hid hall
      clear hall
      by_cases hlt : k < n
      · obtain ⟨b, off, rfl, hb, hc⟩ := HA.out.at_.resolve_left (by omega)
        have o1 := hc k hlt
        clear hc
        obtain ⟨v, HV⟩ : ∃ v, Hid (stepB (xs.getD k 0) = v) := ⟨_, Lib.hid rfl⟩
        obtain ⟨x, hx⟩ : ∃ x, xs.getD k 0 = x := ⟨_, rfl⟩
        have HX : Hid (stepB x = v) := Lib.hid (by rw [← hx]; exact HV.out)
        rw [hx] at o1
        clear hx
        rcases v with _ | _
        · go_wp2_with (go_at_call 62; refine (diStep_any _ _).mono ?_; rw [HX.out]; rintro e w3 ⟨rfl, rfl⟩)
          go_ret
          exact ⟨ret_bool (by rw [HS.out]; exact (lall_not (d := 0) (p := stepB) (by rw [HL.out]; exact hlt) HV.out).symm), rfl⟩
        · go_wp2_with (go_at_call 62; refine (diStep_any _ _).mono ?_; rw [HX.out]; rintro e w3 ⟨rfl, rfl⟩)
          go_round
          case rel => exact ⟨k + 1, by omega, by go_num, lall_snoc (d := 0) (p := stepB) (by rw [HL.out]; exact hlt) HAL.out HV.out⟩
          case measure => simp [intOf]; omega
      · obtain rfl : k = n := by omega
        go_wp2_with fail
        go_ret
        have h := HAL.out
        rw [List.take_of_length_le (by rw [HL.out]; exact Nat.le_refl _)] at h
        exact ⟨ret_bool (by rw [HS.out]; exact h.symm), rfl⟩
  · have HS : Hid (stepsB xs = false) := Lib.hid (by unfold stepsB; rw [HL.out, decide_eq_false (by omega)]; rfl)
    go_enter Try.func56, Try.ntmps56
    go_wp2_with fail
    go_ret
    exact ⟨ret_bool HS.out.symm, rfl⟩

theorem areSteps_any (A : Option Addr) (n c : Nat) (xs : List Int) (w : World) (hm : n ≤ 1048576) (hA : IntsA w A n xs) :
    Calls Try.prog 59 #[.slice A n c] w fun e w' => e = .returned (.bool (stepsB xs)) ∧ w' = w := by
  have HL := Lib.hid hA.len
  have HA := Lib.hid hA
  clear hA
  by_cases h12 : (n : Int) ≤ 12
  · have HS : Hid (stepsB xs = xs.all stepB) := Lib.hid (by unfold stepsB; rw [HL.out, decide_eq_true (by omega)]; rfl)
    go_enter Try.func59, Try.ntmps59
    go_wp2_with fail
    go_loop [10] (fun i => ∃ k : Nat, k ≤ n ∧ i = .int .i64 k ∧ (xs.take k).all stepB = true) (fun i => n - (intOf i).toNat)
    case atStart => exact ⟨0, by omega, rfl, by simp⟩
    case round =>
      obtain ⟨k, hk, rfl, hall⟩ := hrel
      have HAL := Lib.hid hall
      clear hall
      by_cases hlt : k < n
      · obtain ⟨b, off, rfl, hb, hc⟩ := HA.out.at_.resolve_left (by omega)
        have o1 := hc k hlt
        clear hc
        obtain ⟨v, HV⟩ : ∃ v, Hid (stepB (xs.getD k 0) = v) := ⟨_, Lib.hid rfl⟩
        obtain ⟨x, hx⟩ : ∃ x, xs.getD k 0 = x := ⟨_, rfl⟩
        have HX : Hid (stepB x = v) := Lib.hid (by rw [← hx]; exact HV.out)
        rw [hx] at o1
        clear hx
        rcases v with _ | _
        · go_wp2_with (go_at_call 66; refine (isStep_any _ _).mono ?_; rw [HX.out]; rintro e w3 ⟨rfl, rfl⟩)
          go_ret
          exact ⟨ret_bool (by rw [HS.out]; exact (lall_not (d := 0) (p := stepB) (by rw [HL.out]; exact hlt) HV.out).symm), rfl⟩
        · go_wp2_with (go_at_call 66; refine (isStep_any _ _).mono ?_; rw [HX.out]; rintro e w3 ⟨rfl, rfl⟩)
          go_round
          case rel => exact ⟨k + 1, by omega, by go_num, lall_snoc (d := 0) (p := stepB) (by rw [HL.out]; exact hlt) HAL.out HV.out⟩
          case measure => simp [intOf]; omega
      · obtain rfl : k = n := by omega
        go_wp2_with fail
        go_ret
        have h := HAL.out
        rw [List.take_of_length_le (by rw [HL.out]; exact Nat.le_refl _)] at h
        exact ⟨ret_bool (by rw [HS.out]; exact h.symm), rfl⟩
  · have HS : Hid (stepsB xs = false) := Lib.hid (by unfold stepsB; rw [HL.out, decide_eq_false (by omega)]; rfl)
    go_enter Try.func59, Try.ntmps59
    go_wp2_with fail
    go_ret
    exact ⟨ret_bool HS.out.symm, rfl⟩

theorem codeB_in {m : Int} {xs : List Int} (h : marksB m = true) : codeB m xs = (inB (xs.length : Int) 1 12 && xs.all fun x => inB x 0 (m - 1)) := by
  have h1 := marks_yes h
  have h2 : dmB m = fun x => inB x 0 (m - 1) := by
    funext x
    unfold dmB inB
    rw [Bool.eq_iff_iff]
    simp
    omega
  unfold codeB
  rw [h2]
  congr 1
  unfold inB
  rw [Bool.eq_iff_iff]
  simp
  omega

theorem diCode_any (m : Int) (A : Option Addr) (n c : Nat) (xs : List Int) (w : World) (hn : n ≤ 1048576) (hM : marksB m = true) (hA : IntsA w A n xs) :
    Calls Try.prog 70 #[.int .i64 m, .slice A n c] w fun e w' => e = .returned (.bool (codeB m xs)) ∧ w' = w := by
  have HL := Lib.hid hA.len
  have HA := Lib.hid hA
  have HC := Lib.hid (codeB_in (xs := xs) hM)
  have hm := marks_yes hM
  clear hA hM
  obtain ⟨u, HU⟩ : ∃ u, Hid (inB (n : Int) 1 12 = u) := ⟨_, Lib.hid rfl⟩
  rcases u with _ | _
  · go_enter Try.func70, Try.ntmps70
    go_wp2_with (go_at_call 63; refine (l1In_any _ _ _ _).mono ?_; rw [HU.out]; rintro e w2 ⟨rfl, rfl⟩)
    go_ret
    exact ⟨ret_bool (by rw [HC.out, HL.out, HU.out]; rfl), rfl⟩
  · go_enter Try.func70, Try.ntmps70
    go_wp2_with (first | (go_at_call 63; refine (l1In_any _ _ _ _).mono ?_; rw [HU.out]; rintro e w2 ⟨rfl, rfl⟩) | (go_at_call 99; refine (l1All_any _ _ _ xs _ _ _ hn HA.out).mono ?_; rintro e w3 ⟨rfl, rfl⟩))
    go_ret
    exact ⟨ret_bool (by rw [HC.out, HL.out, HU.out]; rfl), rfl⟩

theorem isDialCode_any (m : Int) (A : Option Addr) (n c : Nat) (xs : List Int) (w : World) (hn : n ≤ 1048576) (hA : IntsA w A n xs) :
    Calls Try.prog 72 #[.int .i64 m, .slice A n c] w fun e w' => e = .returned (.bool (codeB m xs)) ∧ Below w.heap.size w w' := by
  have HL := Lib.hid hA.len
  have HA := Lib.hid hA
  clear hA
  by_cases h1 : (n : Int) < 1
  · have HS : Hid (codeB m xs = false) := Lib.hid (by unfold codeB; rw [HL.out, decide_eq_false (by omega)]; rfl)
    go_enter Try.func72, Try.ntmps72
    go_wp2_with fail
    go_ret
    exact ⟨ret_bool HS.out.symm, Below.refl _ _⟩
  by_cases h12 : (n : Int) ≤ 12
  · have HS : Hid (codeB m xs = xs.all (dmB m)) := Lib.hid (by unfold codeB; rw [HL.out, decide_eq_true (by omega)]; rfl)
    go_enter Try.func72, Try.ntmps72
    go_wp2_with fail
    go_loopw [17] (fun i wr => ∃ k : Nat, k ≤ n ∧ i = .int .i64 k ∧ (xs.take k).all (dmB m) = true ∧ Below w.heap.size w wr) (fun i _ => n - (intOf i).toNat)
    case atStart => exact ⟨0, by omega, rfl, by simp, Below.refl _ _⟩
    case round =>
      obtain ⟨k, hk, rfl, hall, hB⟩ := hrel
      have HAL := Lib.hid hall
      have HB := Lib.hid hB
      clear hall hB
      by_cases hlt : k < n
      · obtain ⟨b, off, rfl, hb, hc⟩ := (HA.out.below HB.out).at_.resolve_left (by omega)
        have o1 := hc k hlt
        clear hc
        obtain ⟨v, HV⟩ : ∃ v, Hid (dmB m (xs.getD k 0) = v) := ⟨_, Lib.hid rfl⟩
        obtain ⟨x, hx⟩ : ∃ x, xs.getD k 0 = x := ⟨_, rfl⟩
        have HX : Hid (dmB m x = v) := Lib.hid (by rw [← hx]; exact HV.out)
        rw [hx] at o1
        clear hx
        rcases v with _ | _
        · go_wp2_with (go_at_call 58; refine (isValid_any _ _ _).mono ?_; rw [HX.out]; rintro e w3 ⟨rfl, hb3⟩)
          go_ret
          exact ⟨ret_bool (by rw [HS.out]; exact (lall_not (d := 0) (p := dmB m) (by rw [HL.out]; exact hlt) HV.out).symm), bel_call HB.out hb3⟩
        · go_wp2_with (go_at_call 58; refine (isValid_any _ _ _).mono ?_; rw [HX.out]; rintro e w3 ⟨rfl, hb3⟩)
          have HB3 := Lib.hid (bel_call HB.out hb3)
          clear hb3
          go_roundw
          case rel => exact ⟨k + 1, by omega, by go_num, lall_snoc (d := 0) (p := dmB m) (by rw [HL.out]; exact hlt) HAL.out HV.out, HB3.out⟩
          case measure => simp [intOf]; omega
      · obtain rfl : k = n := by omega
        go_wp2_with fail
        go_ret
        have h := HAL.out
        rw [List.take_of_length_le (by rw [HL.out]; exact Nat.le_refl _)] at h
        exact ⟨ret_bool (by rw [HS.out]; exact h.symm), HB.out⟩
  · have HS : Hid (codeB m xs = false) := Lib.hid (by unfold codeB; rw [HL.out, decide_eq_false (by omega)]; rfl)
    go_enter Try.func72, Try.ntmps72
    go_wp2_with fail
    go_ret
    exact ⟨ret_bool HS.out.symm, Below.refl _ _⟩

theorem size_intD (w : World) : (sizeOf (3 : TypeId)).run Try.prog w = .ok 1 w := by kernel_rfl

theorem eqIn_dial (d : Nat) (x y u v : Int) (w : World) : (Op.equalIn (d + 2) 46 (.agg #[.int .i64 x, .int .i64 y]) (.agg #[.int .i64 u, .int .i64 v])).run Try.prog w = .ok (decide (x = u ∧ y = v)) w := by
  have hu : Try.prog.underlying 46 = some (.array 2 3) := by kernel_rfl
  rw [Op.equalIn]
  simp only [Sem.run_bind, run_underlying hu, Result.andThen_ok, size_intD]
  rw [Std.Legacy.Range.forIn_eq_forIn_range']
  have hr : List.range' 0 (Std.Legacy.Range.size [0:2]) = [0, 1] := by decide
  rw [hr]
  by_cases h0 : x = u
  · by_cases h1 : y = v
    · simp [List.forIn_cons, go_sem, h0, h1]
    · simp [List.forIn_cons, go_sem, h0, h1]
  · simp [List.forIn_cons, go_sem, h0]

/-- Behind how many single marks a number passes first. -/
def fpI (m r x b : Int) : Int := if r = x then m else modI m (b * (x - r))

set_option maxHeartbeats 1000000 in
theorem firstPass_any (m r x b : Int) (w : World) (hD : dmB m r = true) (hX : dmB m x = true) (hb : b = 1 ∨ b = -1) :
    Calls Try.prog 68 #[.agg #[.int .i64 m, .int .i64 r], .int .i64 x, .int .i64 b] w fun e w' => e = .returned (.int .i64 (fpI m r x b)) ∧ Below w.heap.size w w' := by
  obtain ⟨h2, h1, hr0, hrm⟩ := dm_yes hD
  obtain ⟨_, _, hx0, hxm⟩ := dm_yes hX
  have e1 : ∀ W : World, (Op.equalIn 10000 46 (.agg #[.int .i64 m, .int .i64 r]) (.agg #[.int .i64 m, .int .i64 x])).run Try.prog W = .ok (decide (r = x)) W := fun W => by rw [eqIn_dial 9998]; simp
  obtain ⟨q, hq⟩ : ∃ q, decide (r = x) = q := ⟨_, rfl⟩
  have HF : Hid (fpI m r x b = if q then m else modI m (b * (x - r))) := Lib.hid (by rw [← hq]; unfold fpI; by_cases h : r = x <;> simp [h])
  rw [hq] at e1
  clear hq
  have hw1 : IntKind.i64.wrap (x - r) = x - r := IntWalk.i64_in _ (by omega)
  have hw2 : IntKind.i64.wrap (b * (x - r)) = b * (x - r) := by rcases hb with rfl | rfl <;> exact IntWalk.i64_in _ (by omega)
  have D0 := DialAt.new w m r
  obtain ⟨wo, e0⟩ : ∃ wo : World, wo = w.alloc (.cells #[.int .i64 m, .int .i64 r] 46) := ⟨_, rfl⟩
  clear hD hX
  go_enter Try.func68, Try.ntmps68
  go_wp2_with fail
  rw [← e0] at D0 ⊢
  clear e0
  obtain ⟨d0, d1, dB, dz⟩ := D0
  rcases q with _ | _
  · go_region_held3 (fun w' => w'.cell? ⟨w.heap.size, 0, none⟩ = some (.int .i64 m) ∧ w'.cell? ⟨w.heap.size, 1, none⟩ = some (.int .i64 r) ∧ Below w.heap.size w w' ∧ w.heap.size < w'.heap.size) (first | assumption | exact ⟨d0, d1, bel_drew dB, dz⟩ | go_keep)
      (first | (go_at_call 65; refine (call_held2 (by assumption) (reading_any _ _ _ _)).mono ?_; rintro e w1 ⟨rfl, hS⟩))
    have hS' : w1.drew.cell? ⟨w.heap.size, 0, none⟩ = some (.int .i64 m) ∧ w1.drew.cell? ⟨w.heap.size, 1, none⟩ = some (.int .i64 r) ∧ Below w.heap.size w w1.drew ∧ w.heap.size < w1.drew.heap.size := ⟨hS.1, hS.2.1, bel_drew hS.2.2.1, hS.2.2.2⟩
    clear d0 d1 dB dz
    go_wp2_with fail
    go_region_held3 (fun w' => w'.cell? ⟨w.heap.size, 0, none⟩ = some (.int .i64 m) ∧ w'.cell? ⟨w.heap.size, 1, none⟩ = some (.int .i64 r) ∧ Below w.heap.size w w' ∧ w.heap.size < w'.heap.size) (first | assumption | exact hS' | go_keep)
      (first | (go_at_call 61; refine (call_held2 (by assumption) (read_any _ _ _)).mono ?_; rintro e w2 ⟨rfl, hS2⟩) | (go_at_call 88; refine (call_held2 (by assumption) (around_any _ _ _ _ h2 h1)).mono ?_; rintro e w3 ⟨rfl, hS3⟩))
    all_goals go_wp2
    all_goals go_ret
    all_goals exact ⟨ret_int (by rw [HF.out]; rfl), hS3.2.2.1⟩
  · go_region_held3 (fun w' => w'.cell? ⟨w.heap.size, 0, none⟩ = some (.int .i64 m) ∧ w'.cell? ⟨w.heap.size, 1, none⟩ = some (.int .i64 r) ∧ Below w.heap.size w w' ∧ w.heap.size < w'.heap.size) (first | assumption | exact ⟨d0, d1, bel_drew dB, dz⟩ | go_keep)
      (first | (go_at_call 65; refine (call_held2 (by assumption) (reading_any _ _ _ _)).mono ?_; rintro e w1 ⟨rfl, hS⟩))
    obtain ⟨d0, d1, dB, dz⟩ := hS
    go_wp2_with (go_at_call 96; refine (marks_any _ _ _).mono ?_; rintro e w2 ⟨rfl, hb2⟩)
    go_ret
    exact ⟨ret_int (by rw [HF.out]; rfl), bel_call dB hb2⟩

end Go.Proofs.Ytfcljanechlmkaa
