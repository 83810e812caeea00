/- Codes that are close, numbers to be tried, and how many there are, as both programs reckon them. For lists of at most 1048576 numbers. -/
import Derived.Test.YtfcljanechlmkaaYf
namespace Go.Proofs.Ytfcljanechlmkaa
open Go.ChangeShapes Go.WideShapes Go.ChangeAt Go.RowKit Go.Joins

def slackB (k : Int) : Bool := decide (0 ≤ k ∧ k ≤ 100)

def countB (n : Int) : Bool := decide (1 ≤ n ∧ n ≤ 3)

theorem slack_yes {k : Int} (h : slackB k = true) : 0 ≤ k ∧ k ≤ 100 := of_decide_eq_true h

theorem count_yes {n : Int} (h : countB n = true) : 1 ≤ n ∧ n ≤ 3 := of_decide_eq_true h

theorem isSlack_any (k : Int) (w : World) :
    Calls Try.prog 87 #[.int .i64 k] w fun e w' => e = .returned (.bool (slackB k)) ∧ w' = w := by
  go_enter Try.func87, Try.ntmps87
  go_wp2
  all_goals go_ret
  all_goals refine ⟨ret_bool ?_, rfl⟩
  all_goals (unfold slackB; rw [Bool.eq_iff_iff]; simp; try omega)

theorem isAskedCount_any (n : Int) (w : World) :
    Calls Try.prog 92 #[.int .i64 n] w fun e w' => e = .returned (.bool (countB n)) ∧ w' = w := by
  go_enter Try.func92, Try.ntmps92
  go_wp2
  all_goals go_ret
  all_goals refine ⟨ret_bool ?_, rfl⟩
  all_goals (unfold countB; rw [Bool.eq_iff_iff]; simp; try omega)

theorem nearBy_any (k : Int) (w : World) (h : slackB k = true) :
    Calls Try.prog 94 #[.int .i64 k] w fun e w' => e = .returned (.int .i64 (2 * k + 1)) ∧ w' = w := by
  have := slack_yes h
  go_enter Try.func94, Try.ntmps94
  go_wp2
  go_ret
  exact ⟨rfl, rfl⟩

/-- A number multiplied by itself. -/
def powN (n : Int) : Nat → Int
  | 0 => 1
  | k + 1 => powN n k * n

theorem powN_bd {n : Int} (h0 : 0 ≤ n) (h1 : n ≤ 100) {k : Nat} (hk : k ≤ 3) : 0 ≤ powN n k ∧ powN n k ≤ 1000000 ∧ (k ≤ 2 → powN n k ≤ 10000) := by
  have m2 : n * n ≤ 100 * 100 := Int.mul_le_mul h1 h1 h0 (by omega)
  have m0 : 0 ≤ n * n := Int.mul_nonneg h0 h0
  have m3 : n * n * n ≤ 10000 * 100 := Int.mul_le_mul m2 h1 h0 (by omega)
  have m4 : 0 ≤ n * n * n := Int.mul_nonneg m0 h0
  match k, hk with
  | 0, _ => simp [powN]
  | 1, _ => simp [powN]; omega
  | 2, _ => simp [powN]; omega
  | 3, _ => simp [powN]; omega

set_option maxHeartbeats 1000000 in
theorem diPower_any (n : Int) (t : Nat) (w : World) (h0 : 0 ≤ n) (h1 : n ≤ 100) (ht : 1 ≤ t) (ht3 : t ≤ 3) :
    Calls Try.prog 90 #[.int .i64 n, .int .i64 t] w fun e w' => e = .returned (.int .i64 (powN n t)) ∧ w' = w := by
  have HP : Hid (∀ k : Nat, k ≤ 3 → 0 ≤ powN n k ∧ powN n k ≤ 1000000 ∧ (k ≤ 2 → powN n k ≤ 10000)) := Lib.hid (fun k hk => powN_bd h0 h1 hk)
  go_enter Try.func90, Try.ntmps90
  go_wp2_with fail
  go_loop [1, 5] (fun r o => ∃ j k : Nat, j + k = t ∧ 1 ≤ k ∧ r = .int .i64 ((k : Nat) : Int) ∧ o = .int .i64 (powN n (j + 1))) (fun r _ => (intOf r).toNat)
  case atStart => exact ⟨0, t, by omega, ht, rfl, by simp [powN]⟩
  case round =>
    obtain ⟨j, k, hjk, hk1, rfl, rfl⟩ := hrel
    by_cases h : 1 < k
    · obtain ⟨p0, _, p1⟩ := HP.out (j + 1) (by omega)
      have p2 := p1 (by omega)
      obtain ⟨_, q1, _⟩ := HP.out (j + 2) (by omega)
      have HQ : Hid (powN n (j + 1) * n = powN n (j + 2)) := Lib.hid rfl
      have q0 : 0 ≤ powN n (j + 1) * n := Int.mul_nonneg p0 h0
      have hw : IntKind.i64.wrap (powN n (j + 1) * n) = powN n (j + 1) * n := IntWalk.i64_in _ (by rw [HQ.out] at q0 ⊢; omega)
      clear p1 q0 q1
      generalize powN n (j + 1) = p at p0 p2 HQ hw
      go_wp2_with fail
      go_round
      case rel => exact ⟨j + 1, k - 1, by omega, by omega, by go_num, by rw [← HQ.out]⟩
      case measure => simp [intOf]; try omega
    · obtain rfl : k = 1 := by omega
      obtain rfl : j + 1 = t := by omega
      go_wp2_with fail
      go_ret
      exact ⟨rfl, rfl⟩

set_option maxHeartbeats 1000000 in
theorem power_any (n : Int) (t : Nat) (w : World) (h0 : 0 ≤ n) (h1 : n ≤ 100) (ht3 : t ≤ 3) :
    Calls Try.prog 93 #[.int .i64 n, .int .i64 t] w fun e w' => e = .returned (.int .i64 (powN n t)) ∧ w' = w := by
  have HP : Hid (∀ k : Nat, k ≤ 3 → 0 ≤ powN n k ∧ powN n k ≤ 1000000 ∧ (k ≤ 2 → powN n k ≤ 10000)) := Lib.hid (fun k hk => powN_bd h0 h1 hk)
  go_enter Try.func93, Try.ntmps93
  go_wp2_with fail
  go_loop [5, 7] (fun o i => ∃ j : Nat, j ≤ t ∧ i = .int .i64 (j : Int) ∧ o = .int .i64 (powN n j)) (fun _ i => t - (intOf i).toNat)
  case atStart => exact ⟨0, by omega, rfl, by simp [powN]⟩
  case round =>
    obtain ⟨j, hj, rfl, rfl⟩ := hrel
    by_cases h : j < t
    · obtain ⟨p0, _, p1⟩ := HP.out j (by omega)
      have p2 := p1 (by omega)
      obtain ⟨_, q1, _⟩ := HP.out (j + 1) (by omega)
      have HQ : Hid (powN n j * n = powN n (j + 1)) := Lib.hid rfl
      have q0 : 0 ≤ powN n j * n := Int.mul_nonneg p0 h0
      have hw : IntKind.i64.wrap (powN n j * n) = powN n j * n := IntWalk.i64_in _ (by rw [HQ.out] at q0 ⊢; omega)
      clear p1 q0 q1
      generalize powN n j = p at p0 p2 HQ hw
      go_wp2_with fail
      go_round
      case rel => exact ⟨j + 1, by omega, by go_num, by rw [← HQ.out]⟩
      case measure => simp [intOf]; try omega
    · obtain rfl : j = t := by omega
      go_wp2_with fail
      go_ret
      exact ⟨rfl, rfl⟩

theorem diSlack_any (m k n : Int) (w : World) :
    Calls Try.prog 89 #[.int .i64 m, .int .i64 k, .int .i64 n] w fun e w' => e = .returned (.bool (marksB m && (slackB k && countB n))) ∧ w' = w := by
  obtain ⟨u, hu⟩ : ∃ u, marksB m = u := ⟨_, rfl⟩
  obtain ⟨v, hv⟩ : ∃ v, slackB k = v := ⟨_, rfl⟩
  obtain ⟨y, hy⟩ : ∃ y, countB n = y := ⟨_, rfl⟩
  have HU := Lib.hid hu
  have HV : Hid (inB k 0 100 = v) := Lib.hid hv
  have HY : Hid (inB n 1 3 = y) := Lib.hid hy
  have HB : Hid ((marksB m && (slackB k && countB n)) = (u && (v && y))) := Lib.hid (by rw [hu, hv, hy])
  clear hu hv hy
  rcases u with _ | _
  · go_enter Try.func89, Try.ntmps89
    go_wp2_with (go_at_call 85; refine (diMarks_any _ _).mono ?_; rw [HU.out]; rintro e wq ⟨rfl, hwq⟩; replace hwq := hwq.symm; subst hwq)
    go_ret
    exact ⟨ret_bool (by rw [HB.out]; rfl), rfl⟩
  rcases v with _ | _
  · go_enter Try.func89, Try.ntmps89
    go_wp2_with (first | (go_at_call 85; refine (diMarks_any _ _).mono ?_; rw [HU.out]; rintro e wq ⟨rfl, hwq⟩; replace hwq := hwq.symm; subst hwq) | (go_at_call 63; refine (l1In_any _ _ _ _).mono ?_; rw [HV.out]; rintro e wq ⟨rfl, hwq⟩; replace hwq := hwq.symm; subst hwq))
    go_ret
    exact ⟨ret_bool (by rw [HB.out]; rfl), rfl⟩
  go_enter Try.func89, Try.ntmps89
  go_wp2_with (first | (go_at_call 85; refine (diMarks_any _ _).mono ?_; rw [HU.out]; rintro e wq ⟨rfl, hwq⟩; replace hwq := hwq.symm; subst hwq) | (go_at_call_of 63 k; refine (l1In_any k _ _ _).mono ?_; rw [HV.out]; rintro e wq ⟨rfl, hwq⟩; replace hwq := hwq.symm; subst hwq) | (go_at_call 63; refine (l1In_any n _ _ _).mono ?_; rw [HY.out]; rintro e wq ⟨rfl, hwq⟩; replace hwq := hwq.symm; subst hwq))
  go_ret
  exact ⟨ret_bool (by rw [HB.out]; rfl), rfl⟩

/-- Whether it is told how many codes are close, and how many. -/
def ccB (m k n : Int) : Bool := marksB m && (slackB k && countB n)

def ccZ (m k n : Int) : Int := if ccB m k n then powN (lesI m (2 * k + 1)) n.toNat else 0

theorem lesI_bd {m k : Int} (h : marksB m = true) (h2 : slackB k = true) : 0 ≤ lesI m (2 * k + 1) ∧ lesI m (2 * k + 1) ≤ 100 := by
  have := marks_yes h
  have := slack_yes h2
  unfold lesI
  split <;> omega

theorem specCountClose_any (m k n : Int) (w : World) :
    Calls Try.prog 49 #[.int .i64 m, .int .i64 k, .int .i64 n] w fun e w' => e = .returned (.tuple #[.int .i64 (ccZ m k n), .bool (ccB m k n)]) ∧ Below w.heap.size w w' := by
  obtain ⟨u, hu⟩ : ∃ u, ccB m k n = u := ⟨_, rfl⟩
  have HB : Hid (ccB m k n = u) := Lib.hid hu
  have HU : Hid ((marksB m && (slackB k && countB n)) = u) := Lib.hid hu
  rcases u with _ | _
  · have HZ : Hid (ccZ m k n = 0) := Lib.hid (by unfold ccZ; rw [HB.out]; rfl)
    go_enter Try.func49, Try.ntmps49
    go_wp2_with (go_at_call 89; refine (diSlack_any _ _ _ _).mono ?_; rw [HU.out]; rintro e wq ⟨rfl, hwq⟩; replace hwq := hwq.symm; subst hwq)
    go_ret2
    rw [HZ.out, HB.out]
    exact ⟨rfl, Below.refl _ _⟩
  have HZ : Hid (ccZ m k n = powN (lesI m (2 * k + 1)) n.toNat) := Lib.hid (by unfold ccZ; rw [HB.out]; rfl)
  unfold ccB at hu
  rw [Bool.and_eq_true, Bool.and_eq_true] at hu
  obtain ⟨h1, h2, h3⟩ := hu
  obtain ⟨z0, z1⟩ := lesI_bd h1 h2
  have := count_yes h3
  have := slack_yes h2
  obtain ⟨t, rfl⟩ : ∃ t : Nat, n = t := ⟨n.toNat, by omega⟩
  rw [Int.toNat_natCast] at HZ
  clear h1 h2 h3
  go_enter Try.func49, Try.ntmps49
  go_wp2_with (first | (go_at_call 89; refine (diSlack_any _ _ _ _).mono ?_; rw [HU.out]; rintro e wq ⟨rfl, hwq⟩; replace hwq := hwq.symm; subst hwq) | (go_at_call 86; refine (l1Least_m _ _ _).mono ?_; rintro e wq ⟨rfl, hwq⟩; replace hwq := hwq.symm; subst hwq) | (go_at_call 90; refine (diPower_any _ t _ z0 z1 (by omega) (by omega)).mono ?_; rintro e wq ⟨rfl, hwq⟩; replace hwq := hwq.symm; subst hwq))
  go_ret2
  rw [HZ.out, HB.out]
  exact ⟨rfl, Below.refl _ _⟩

theorem countClose_any (m k n : Int) (w : World) :
    Calls Try.prog 50 #[.int .i64 m, .int .i64 k, .int .i64 n] w fun e w' => e = .returned (.tuple #[.int .i64 (ccZ m k n), .bool (ccB m k n)]) ∧ Below w.heap.size w w' := by
  obtain ⟨u, hu⟩ : ∃ u, marksB m = u := ⟨_, rfl⟩
  obtain ⟨v, hv⟩ : ∃ v, slackB k = v := ⟨_, rfl⟩
  obtain ⟨y, hy⟩ : ∃ y, countB n = y := ⟨_, rfl⟩
  have HU := Lib.hid hu
  have HV := Lib.hid hv
  have HY := Lib.hid hy
  have HB : Hid (ccB m k n = (u && (v && y))) := Lib.hid (by unfold ccB; rw [hu, hv, hy])
  rcases u with _ | _
  · have HZ : Hid (ccZ m k n = 0) := Lib.hid (by unfold ccZ; rw [HB.out]; rfl)
    go_enter Try.func50, Try.ntmps50
    go_wp2_with (go_at_call 91; refine (areMarks_any _ _).mono ?_; rw [HU.out]; rintro e wq ⟨rfl, hwq⟩; replace hwq := hwq.symm; subst hwq)
    go_ret2
    rw [HZ.out, HB.out]
    exact ⟨rfl, Below.refl _ _⟩
  rcases v with _ | _
  · have HZ : Hid (ccZ m k n = 0) := Lib.hid (by unfold ccZ; rw [HB.out]; rfl)
    go_enter Try.func50, Try.ntmps50
    go_wp2_with (first | (go_at_call 91; refine (areMarks_any _ _).mono ?_; rw [HU.out]; rintro e wq ⟨rfl, hwq⟩; replace hwq := hwq.symm; subst hwq) | (go_at_call 87; refine (isSlack_any _ _).mono ?_; rw [HV.out]; rintro e wq ⟨rfl, hwq⟩; replace hwq := hwq.symm; subst hwq))
    go_ret2
    rw [HZ.out, HB.out]
    exact ⟨rfl, Below.refl _ _⟩
  rcases y with _ | _
  · have HZ : Hid (ccZ m k n = 0) := Lib.hid (by unfold ccZ; rw [HB.out]; rfl)
    go_enter Try.func50, Try.ntmps50
    go_wp2_with (first | (go_at_call 91; refine (areMarks_any _ _).mono ?_; rw [HU.out]; rintro e wq ⟨rfl, hwq⟩; replace hwq := hwq.symm; subst hwq) | (go_at_call 87; refine (isSlack_any _ _).mono ?_; rw [HV.out]; rintro e wq ⟨rfl, hwq⟩; replace hwq := hwq.symm; subst hwq) | (go_at_call 92; refine (isAskedCount_any _ _).mono ?_; rw [HY.out]; rintro e wq ⟨rfl, hwq⟩; replace hwq := hwq.symm; subst hwq))
    go_ret2
    rw [HZ.out, HB.out]
    exact ⟨rfl, Below.refl _ _⟩
  have HZ : Hid (ccZ m k n = powN (lesI m (2 * k + 1)) n.toNat) := Lib.hid (by unfold ccZ; rw [HB.out]; rfl)
  obtain ⟨z0, z1⟩ := lesI_bd hu hv
  have := count_yes hy
  obtain ⟨k0, k1⟩ := slack_yes hv
  obtain ⟨t, rfl⟩ : ∃ t : Nat, n = t := ⟨n.toNat, by omega⟩
  rw [Int.toNat_natCast] at HZ
  clear hu hv hy
  obtain ⟨v, hv1, hv2⟩ : ∃ v, Hid (lesI m (2 * k + 1) = v) ∧ ((2 * k + 1 < m ∧ v = 2 * k + 1) ∨ (2 * k + 1 = m ∧ v = m) ∨ (m < 2 * k + 1 ∧ v = m)) := ⟨lesI m (2 * k + 1), Lib.hid rfl, by unfold lesI; split <;> omega⟩
  rw [hv1.out] at HZ z0 z1
  rcases hv2 with ⟨h, rfl⟩ | ⟨h, rfl⟩ | ⟨h, rfl⟩
  all_goals
    go_enter Try.func50, Try.ntmps50
    go_wp2_with (first | (go_at_call 91; refine (areMarks_any _ _).mono ?_; rw [HU.out]; rintro e wq ⟨rfl, hwq⟩; replace hwq := hwq.symm; subst hwq) | (go_at_call 87; refine (isSlack_any _ _).mono ?_; rw [HV.out]; rintro e wq ⟨rfl, hwq⟩; replace hwq := hwq.symm; subst hwq) | (go_at_call 92; refine (isAskedCount_any _ _).mono ?_; rw [HY.out]; rintro e wq ⟨rfl, hwq⟩; replace hwq := hwq.symm; subst hwq) | (go_at_call 94; refine (nearBy_any _ _ HV.out).mono ?_; rintro e wq ⟨rfl, hwq⟩; replace hwq := hwq.symm; subst hwq) | (go_at_call 93; refine (power_any _ t _ (by omega) (by omega) (by omega)).mono ?_; rintro e wq ⟨rfl, hwq⟩; replace hwq := hwq.symm; subst hwq))
    go_ret2
    rw [HZ.out, HB.out]
    exact ⟨rfl, Below.refl _ _⟩

end Go.Proofs.Ytfcljanechlmkaa
