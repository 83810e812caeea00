/- How often a number passes in a step, as both programs reckon it. For marks, numbers and steps that are such. -/
import Derived.Test.YtfcljanechlmkaaYc
namespace Go.Proofs.Ytfcljanechlmkaa
open Go.ChangeShapes Go.WideShapes Go.ChangeAt Go.RowKit Go.Joins

/-- Which number is read behind so many single marks. -/
def posB (m s b : Int) (j : Nat) : Int := modI m (s + b * (j : Int))

/-- How often a number has passed by then. -/
def psN (m s b x : Int) : Nat → Int
  | 0 => 0
  | j + 1 => psN m s b x j + if posB m s b (j + 1) = x then 1 else 0

theorem psN_bd (m s b x : Int) (j : Nat) : 0 ≤ psN m s b x j ∧ psN m s b x j ≤ j := by
  induction j with
  | zero => simp [psN]
  | succ j ih => simp only [psN]; split <;> omega

theorem posB_succ {m s b : Int} (j : Nat) : modI m (posB m s b j + b) = posB m s b (j + 1) := by
  unfold posB modI
  rw [Int.emod_add_emod]
  congr 1
  rw [Int.natCast_add, Int.mul_add, Int.natCast_one, Int.mul_one, Int.add_assoc]

theorem modI_dvd {m y x : Int} (hx : 0 ≤ x ∧ x < m) : modI m y = x ↔ m ∣ y - x := by
  unfold modI
  constructor
  · intro h
    exact ⟨y / m, by have := Int.emod_add_mul_ediv y m; omega⟩
  · intro ⟨k, hk⟩
    have e : y = x + m * k := by omega
    rw [e, Int.add_mul_emod_self_left, Int.emod_eq_of_lt hx.1 hx.2]

theorem fpI_bd {m r x b : Int} (h2 : 2 ≤ m) (hb : b = 1 ∨ b = -1) (hr : 0 ≤ r ∧ r < m) (hx : 0 ≤ x ∧ x < m) : 1 ≤ fpI m r x b ∧ fpI m r x b ≤ m := by
  unfold fpI
  split
  · omega
  · next h =>
    obtain ⟨h1, h3⟩ := modI_bd h2 (b * (x - r))
    refine ⟨?_, by omega⟩
    rcases Int.lt_or_le (modI m (b * (x - r))) 1 with h0 | h0
    · exfalso
      have e0 : modI m (b * (x - r)) = 0 := by omega
      obtain ⟨k, hk⟩ := (modI_dvd (by omega)).1 e0
      rw [Int.sub_zero] at hk
      have hk1 : k < 1 := by
        rcases Int.lt_or_le k 1 with h | h
        · exact h
        · exfalso
          have : m * 1 ≤ m * k := Int.mul_le_mul_of_nonneg_left h (by omega)
          rcases hb with rfl | rfl <;> omega
      have hk2 : -1 < k := by
        rcases Int.lt_or_le (-1) k with h | h
        · exact h
        · exfalso
          have : m * k ≤ m * (-1) := Int.mul_le_mul_of_nonneg_left h (by omega)
          rcases hb with rfl | rfl <;> omega
      obtain rfl : k = 0 := by omega
      rcases hb with rfl | rfl <;> omega
    · exact h0

theorem fpI_dvd {m r x b : Int} : m ∣ b * (x - r) - fpI m r x b := by
  unfold fpI
  split
  · next h => subst h; exact ⟨-1, by rw [Int.sub_self, Int.mul_zero]; omega⟩
  · exact ⟨(b * (x - r)) / m, by have := Int.emod_add_mul_ediv (b * (x - r)) m; unfold modI; omega⟩

theorem posB_is {m s b x : Int} (hb : b = 1 ∨ b = -1) (hx : 0 ≤ x ∧ x < m) (j : Nat) : posB m s b j = x ↔ m ∣ (j : Int) - fpI m s x b := by
  unfold posB
  rw [modI_dvd hx]
  obtain ⟨k, hk⟩ := @fpI_dvd m s x b
  generalize fpI m s x b = f at hk ⊢
  constructor
  · intro ⟨q, hq⟩
    rcases hb with rfl | rfl
    · exact ⟨q + k, by rw [Int.mul_add]; omega⟩
    · exact ⟨-q + k, by rw [Int.mul_add, Int.mul_neg]; omega⟩
  · intro ⟨q, hq⟩
    rcases hb with rfl | rfl
    · exact ⟨q - k, by rw [Int.mul_sub]; omega⟩
    · exact ⟨-q + k, by rw [Int.mul_add, Int.mul_neg]; omega⟩

theorem ediv_step {m y : Int} (h2 : 2 ≤ m) : (y + 1) / m = y / m + if m ∣ y + 1 then 1 else 0 := by
  have h := Int.emod_add_mul_ediv y m
  have h0 := Int.emod_nonneg y (show m ≠ 0 by omega)
  have h1 := Int.emod_lt_of_pos y (show 0 < m by omega)
  generalize y / m = q at h ⊢
  generalize y % m = r at h h0 h1
  split
  · next hd =>
    obtain ⟨k, hk⟩ := hd
    have e : r + 1 = m * (k - q) := by rw [Int.mul_sub]; omega
    have hk1 : k - q < 2 := by
      rcases Int.lt_or_le (k - q) 2 with h | h
      · exact h
      · exfalso
        have : m * 2 ≤ m * (k - q) := Int.mul_le_mul_of_nonneg_left h (by omega)
        omega
    have hk0 : 0 < k - q := by
      rcases Int.lt_or_le 0 (k - q) with h | h
      · exact h
      · exfalso
        have : m * (k - q) ≤ m * 0 := Int.mul_le_mul_of_nonneg_left h (by omega)
        omega
    rw [hk, Int.mul_ediv_cancel_left _ (by omega)]
    omega
  · next hd =>
    have hr : r + 1 < m := by
      rcases Int.lt_or_le (r + 1) m with h | h
      · exact h
      · exfalso
        exact hd ⟨q + 1, by rw [Int.mul_add]; omega⟩
    rw [show y + 1 = (r + 1) + m * q by omega, Int.add_mul_ediv_left _ _ (by omega), Int.ediv_eq_zero_of_lt (by omega) hr]
    omega

theorem psN_eq {m s b x : Int} (h2 : 2 ≤ m) (hb : b = 1 ∨ b = -1) (hs : 0 ≤ s ∧ s < m) (hx : 0 ≤ x ∧ x < m) : ∀ j, psN m s b x j = ((j : Int) + m - fpI m s x b) / m
  | 0 => by
    have := fpI_bd h2 hb hs hx
    rw [psN, Int.ediv_eq_zero_of_lt] <;> omega
  | j + 1 => by
    rw [psN, psN_eq h2 hb hs hx j]
    have e : ((j + 1 : Nat) : Int) + m - fpI m s x b = ((j : Int) + m - fpI m s x b) + 1 := by omega
    rw [e, ediv_step h2]
    have hiff : posB m s b (j + 1) = x ↔ m ∣ ((j : Int) + m - fpI m s x b) + 1 := by
      rw [posB_is hb hx]
      constructor
      · intro ⟨q, hq⟩
        exact ⟨q + 1, by rw [Int.mul_add]; omega⟩
      · intro ⟨q, hq⟩
        exact ⟨q - 1, by rw [Int.mul_sub]; omega⟩
    by_cases h : posB m s b (j + 1) = x
    · rw [if_pos h, if_pos (hiff.1 h)]
    · rw [if_neg h, if_neg (fun h' => h (hiff.2 h'))]

/-- Whether it is told how often a number passes, and how often. -/
def paB (m s t x : Int) : Bool := dmB m s && (stepB t && dmB m x)

def paZ (m s t x : Int) : Int := if paB m s t x then psN m s (dirI t) x (absI t).toNat else 0

theorem pass_step {m s b x : Int} {j : Nat} : psN m s b x (j + 1) = psN m s b x j + if posB m s b (j + 1) = x then 1 else 0 := rfl

set_option maxHeartbeats 1000000 in
theorem diPasses_any (m s t x : Int) (w : World) (hS : dmB m s = true) (hT : stepB t = true) :
    Calls Try.prog 64 #[.int .i64 m, .int .i64 s, .int .i64 t, .int .i64 x] w fun e w' => e = .returned (.int .i64 (psN m s (dirI t) x (absI t).toNat)) ∧ w' = w := by
  obtain ⟨m2, m1, s0, s1⟩ := dm_yes hS
  obtain ⟨t0, t1, t2⟩ := step_yes hT
  have HB : Hid (sgnI t = dirI t) := Lib.hid (by unfold sgnI dirI; split <;> split <;> omega)
  obtain ⟨b, hb⟩ : ∃ b, dirI t = b := ⟨_, rfl⟩
  have hb1 : b = 1 ∨ b = -1 := by rw [← hb]; unfold dirI; split <;> omega
  obtain ⟨N, hN⟩ : ∃ N : Nat, absI t = (N : Int) := ⟨(absI t).toNat, by have : 0 ≤ absI t := by unfold absI; split <;> omega
                                                                        omega⟩
  have hN1 : (N : Int) ≤ 1000 := by rw [← hN]; unfold absI; split <;> omega
  have HN := Lib.hid hN
  have HE : Hid ((absI t).toNat = N) := Lib.hid (by rw [hN]; omega)
  rw [hb] at HB
  rw [HE.out, hb]
  have HP0 : Hid (posB m s b 0 = s) := Lib.hid (by unfold posB modI; rw [Int.natCast_zero, Int.mul_zero, Int.add_zero]; exact Int.emod_eq_of_lt s0 s1)
  clear hN hb
  go_enter Try.func64, Try.ntmps64
  go_wp2_with (first | (go_at_call 83; refine (l1Sign_any _ _).mono ?_; rw [HB.out]; rintro e wq ⟨rfl, hwq⟩; replace hwq := hwq.symm; subst hwq) | (go_at_call 98; refine (l1Abs_any _ _ (by omega)).mono ?_; rw [HN.out]; rintro e wq ⟨rfl, hwq⟩; replace hwq := hwq.symm; subst hwq))
  go_loop [1, 10, 11] (fun p n k => ∃ j r : Nat, j + r = N ∧ k = .int .i64 r ∧ p = .int .i64 (posB m s b j) ∧ n = .int .i64 (psN m s b x j)) (fun _ _ k => (intOf k).toNat)
  case atStart => exact ⟨0, N, by omega, rfl, by rw [HP0.out], rfl⟩
  case round =>
    obtain ⟨j, r, hjr, rfl, rfl, rfl⟩ := hrel
    by_cases h : 0 < r
    · have HP : Hid (modI m (posB m s b j + b) = posB m s b (j + 1)) := Lib.hid (posB_succ j)
      have HA : Hid (psN m s b x (j + 1) = psN m s b x j + if posB m s b (j + 1) = x then 1 else 0) := Lib.hid pass_step
      have pb : 0 ≤ posB m s b j ∧ posB m s b j < m := by unfold posB; exact modI_bd m2 _
      obtain ⟨n0, n1⟩ := psN_bd m s b x j
      obtain ⟨q, hq⟩ : ∃ q, posB m s b (j + 1) = q := ⟨_, rfl⟩
      have HQ := Lib.hid hq
      rw [hq] at HP HA
      obtain ⟨nn, hnn⟩ : ∃ nn, psN m s b x (j + 1) = nn := ⟨_, rfl⟩
      have HNN := Lib.hid hnn
      rw [hnn] at HA
      clear hq hnn
      generalize posB m s b j = p at HP pb
      generalize psN m s b x j = n at HA n0 n1
      obtain ⟨p0, p1⟩ := pb
      obtain ⟨r', rfl⟩ : ∃ r', r = r' + 1 := ⟨r - 1, by omega⟩
      by_cases hx : q = x
      · have HI : Hid (nn = n + 1) := Lib.hid (by rw [HA.out, if_pos hx])
        go_wp2_with (go_at_call 57; refine (l1Mod_m _ _ _ m2 m1).mono ?_; rw [HP.out]; rintro e wq ⟨rfl, hwq⟩; replace hwq := hwq.symm; subst hwq)
        go_round
        case rel => exact ⟨j + 1, r', by omega, by go_num, by first | (rw [HQ.out]; done) | rw [HQ.out, hx], by rw [HNN.out, HI.out]⟩
        case measure => simp [intOf]; try omega
      · have HI : Hid (nn = n) := Lib.hid (by rw [HA.out, if_neg hx]; omega)
        go_wp2_with (go_at_call 57; refine (l1Mod_m _ _ _ m2 m1).mono ?_; rw [HP.out]; rintro e wq ⟨rfl, hwq⟩; replace hwq := hwq.symm; subst hwq)
        go_round
        case rel => exact ⟨j + 1, r', by omega, by go_num, by rw [HQ.out], by rw [HNN.out, HI.out]⟩
        case measure => simp [intOf]; try omega
    · obtain rfl : r = 0 := by omega
      obtain rfl : j = N := by omega
      go_wp2_with fail
      go_ret
      exact ⟨rfl, rfl⟩

theorem specPassesOf_any (m s t x : Int) (w : World) (hm : -9223372036854775808 ≤ m ∧ m ≤ 9223372036854775807) :
    Calls Try.prog 25 #[.int .i64 m, .int .i64 s, .int .i64 t, .int .i64 x] w fun e w' => e = .returned (.tuple #[.int .i64 (paZ m s t x), .bool (paB m s t x)]) ∧ Below w.heap.size w w' := by
  obtain ⟨u, hu⟩ : ∃ u, dmB m s = u := ⟨_, rfl⟩
  obtain ⟨v, hv⟩ : ∃ v, stepB t = v := ⟨_, rfl⟩
  obtain ⟨y, hy⟩ : ∃ y, dmB m x = y := ⟨_, rfl⟩
  have HU := Lib.hid hu
  have HV := Lib.hid hv
  have HB : Hid (paB m s t x = (u && (v && y))) := Lib.hid (by unfold paB; rw [hu, hv, hy])
  rcases u with _ | _
  · have HZ : Hid (paZ m s t x = 0) := Lib.hid (by unfold paZ; rw [HB.out]; rfl)
    go_enter Try.func25, Try.ntmps25
    go_wp2_with (go_at_call 55; refine (diAsked_any _ _ _ hm).mono ?_; rw [HU.out]; rintro e wq ⟨rfl, hwq⟩; replace hwq := hwq.symm; subst hwq)
    go_ret2
    rw [HZ.out, HB.out]
    exact ⟨rfl, Below.refl _ _⟩
  obtain ⟨m2, m1, _, _⟩ := dm_yes hu
  have HY : Hid (inB x 0 (m - 1) = y) := Lib.hid (by rw [← hy]; unfold inB dmB; rw [Bool.eq_iff_iff]; simp; omega)
  rcases v with _ | _
  · have HZ : Hid (paZ m s t x = 0) := Lib.hid (by unfold paZ; rw [HB.out]; rfl)
    go_enter Try.func25, Try.ntmps25
    go_wp2_with (first | (go_at_call 55; refine (diAsked_any _ _ _ hm).mono ?_; rw [HU.out]; rintro e wq ⟨rfl, hwq⟩; replace hwq := hwq.symm; subst hwq) | (go_at_call 62; refine (diStep_any _ _).mono ?_; rw [HV.out]; rintro e wq ⟨rfl, hwq⟩; replace hwq := hwq.symm; subst hwq))
    go_ret2
    rw [HZ.out, HB.out]
    exact ⟨rfl, Below.refl _ _⟩
  rcases y with _ | _
  · have HZ : Hid (paZ m s t x = 0) := Lib.hid (by unfold paZ; rw [HB.out]; rfl)
    clear hm
    go_enter Try.func25, Try.ntmps25
    go_wp2_with (first | (go_at_call 55; refine (diAsked_any _ _ _ (by omega)).mono ?_; rw [HU.out]; rintro e wq ⟨rfl, hwq⟩; replace hwq := hwq.symm; subst hwq) | (go_at_call 62; refine (diStep_any _ _).mono ?_; rw [HV.out]; rintro e wq ⟨rfl, hwq⟩; replace hwq := hwq.symm; subst hwq) | (go_at_call 63; refine (l1In_any _ _ _ _).mono ?_; rw [HY.out]; rintro e wq ⟨rfl, hwq⟩; replace hwq := hwq.symm; subst hwq))
    go_ret2
    rw [HZ.out, HB.out]
    exact ⟨rfl, Below.refl _ _⟩
  have HZ : Hid (paZ m s t x = psN m s (dirI t) x (absI t).toNat) := Lib.hid (by unfold paZ; rw [HB.out]; rfl)
  clear hm
  go_enter Try.func25, Try.ntmps25
  go_wp2_with (first | (go_at_call 55; refine (diAsked_any _ _ _ (by omega)).mono ?_; rw [HU.out]; rintro e wq ⟨rfl, hwq⟩; replace hwq := hwq.symm; subst hwq) | (go_at_call 62; refine (diStep_any _ _).mono ?_; rw [HV.out]; rintro e wq ⟨rfl, hwq⟩; replace hwq := hwq.symm; subst hwq) | (go_at_call 63; refine (l1In_any _ _ _ _).mono ?_; rw [HY.out]; rintro e wq ⟨rfl, hwq⟩; replace hwq := hwq.symm; subst hwq) | (go_at_call 64; refine (diPasses_any _ _ _ _ _ HU.out HV.out).mono ?_; rintro e wq ⟨rfl, hwq⟩; replace hwq := hwq.symm; subst hwq))
  go_ret2
  rw [HZ.out, HB.out]
  exact ⟨rfl, Below.refl _ _⟩

theorem DialAt.call {w0 W W' : World} {m r : Int} (h : DialAt w0 m r W) (hb : Below W.heap.size W W') : DialAt w0 m r W' :=
  ⟨by rw [hb.cell (p := ⟨w0.heap.size, 0, none⟩) h.2.2.2]; exact h.1, by rw [hb.cell (p := ⟨w0.heap.size, 1, none⟩) h.2.2.2]; exact h.2.1, bel_call h.2.2.1 hb, Nat.lt_of_lt_of_le h.2.2.2 hb.size⟩

set_option maxHeartbeats 1000000 in
theorem passesOf_any (m s t x : Int) (w : World) :
    Calls Try.prog 26 #[.int .i64 m, .int .i64 s, .int .i64 t, .int .i64 x] w fun e w' => e = .returned (.tuple #[.int .i64 (paZ m s t x), .bool (paB m s t x)]) ∧ Below w.heap.size w w' := by
  obtain ⟨u, hu⟩ : ∃ u, dmB m s = u := ⟨_, rfl⟩
  obtain ⟨v, hv⟩ : ∃ v, stepB t = v := ⟨_, rfl⟩
  obtain ⟨y, hy⟩ : ∃ y, dmB m x = y := ⟨_, rfl⟩
  have HU := Lib.hid hu
  have HV := Lib.hid hv
  have HY := Lib.hid hy
  have HB : Hid (paB m s t x = (u && (v && y))) := Lib.hid (by unfold paB; rw [hu, hv, hy])
  have D0 := Lib.hid (DialAt.new w m s)
  rcases u with _ | _
  · have HZ : Hid (paZ m s t x = 0) := Lib.hid (by unfold paZ; rw [HB.out]; rfl)
    go_enter Try.func26, Try.ntmps26
    go_wp2_with (go_at_call 58; refine (isValid_any _ _ _).mono ?_; rw [HU.out]; rintro e w1 ⟨rfl, hb1⟩)
    go_ret2
    rw [HZ.out, HB.out]
    exact ⟨rfl, bel_call D0.out.2.2.1 hb1⟩
  rcases y with _ | _
  · have HB2 : Hid (paB m s t x = false) := Lib.hid (by rw [HB.out]; cases v <;> rfl)
    have HZ : Hid (paZ m s t x = 0) := Lib.hid (by unfold paZ; rw [HB2.out]; rfl)
    go_enter Try.func26, Try.ntmps26
    go_wp2_with (first
      | (go_at_call_of 58 s; refine (isValid_any _ s _).mono ?_; rw [HU.out]; rintro e w1 ⟨rfl, hb1⟩; have D1 := Lib.hid (D0.out.call hb1); obtain ⟨d0, d1, _, _⟩ := D1.out)
      | (go_at_call 65; refine (reading_any _ _ _ _).mono ?_; rintro e w2 ⟨rfl, hb2⟩; have D2 := Lib.hid (D1.out.call hb2))
      | (go_at_call_of 58 x; refine (isValid_any _ x _).mono ?_; rw [HY.out]; rintro e w3 ⟨rfl, hb3⟩; have D3 := Lib.hid (D2.out.call hb3); obtain ⟨e0, e1, eB, ez⟩ := D3.out))
    go_ret2
    rw [HZ.out, HB2.out]
    exact ⟨rfl, D3.out.2.2.1⟩
  rcases v with _ | _
  · have HZ : Hid (paZ m s t x = 0) := Lib.hid (by unfold paZ; rw [HB.out]; rfl)
    go_enter Try.func26, Try.ntmps26
    go_wp2_with (first
      | (go_at_call_of 58 s; refine (isValid_any _ s _).mono ?_; rw [HU.out]; rintro e w1 ⟨rfl, hb1⟩; have D1 := Lib.hid (D0.out.call hb1); obtain ⟨d0, d1, _, _⟩ := D1.out)
      | (go_at_call 65; refine (reading_any _ _ _ _).mono ?_; rintro e w2 ⟨rfl, hb2⟩; have D2 := Lib.hid (D1.out.call hb2))
      | (go_at_call_of 58 x; refine (isValid_any _ x _).mono ?_; rw [HY.out]; rintro e w3 ⟨rfl, hb3⟩; have D3 := Lib.hid (D2.out.call hb3); obtain ⟨e0, e1, eB, ez⟩ := D3.out)
      | (go_at_call 66; refine (isStep_any _ _).mono ?_; rw [HV.out]; rintro e wq ⟨rfl, hwq⟩; replace hwq := hwq.symm; subst hwq))
    go_ret2
    rw [HZ.out, HB.out]
    exact ⟨rfl, D3.out.2.2.1⟩
  have HZ : Hid (paZ m s t x = psN m s (dirI t) x (absI t).toNat) := Lib.hid (by unfold paZ; rw [HB.out]; rfl)
  obtain ⟨m2, m1, s0, s1⟩ := dm_yes hu
  obtain ⟨_, _, x0, x1⟩ := dm_yes hy
  obtain ⟨t0, t1, t2⟩ := step_yes hv
  have hdir : dirI t = 1 ∨ dirI t = -1 := by unfold dirI; split <;> omega
  have HE : Hid (psN m s (dirI t) x (absI t).toNat = (absI t + m - fpI m s x (dirI t)) / m) := Lib.hid (by
    rw [psN_eq m2 hdir ⟨s0, s1⟩ ⟨x0, x1⟩]
    congr 2
    have : 0 ≤ absI t := by unfold absI; split <;> omega
    omega)
  obtain ⟨f0, f1⟩ := fpI_bd m2 hdir ⟨s0, s1⟩ ⟨x0, x1⟩
  have ha : 0 ≤ absI t ∧ absI t ≤ 1000 := by unfold absI; split <;> omega
  rw [HE.out] at HZ
  generalize hde : dirI t = d at *
  have HDE := Lib.hid hde
  clear hde
  generalize hfe : fpI m s x d = f at *
  have HFE := Lib.hid hfe
  clear hfe
  generalize hae : absI t = a at *
  have HAE := Lib.hid hae
  clear hae HE
  obtain ⟨a0, a1⟩ := ha
  have hn0 : ¬ m = 0 := by omega
  have hw1 : IntKind.i64.wrap (a + m) = a + m := IntWalk.i64_in _ (by omega)
  have hw2 : IntKind.i64.wrap (a + m - f) = a + m - f := IntWalk.i64_in _ (by omega)
  have hq : (a + m - f).tdiv m = (a + m - f) / m := Int.tdiv_eq_ediv_of_nonneg (by omega)
  have hw3 : IntKind.i64.wrap ((a + m - f) / m) = (a + m - f) / m := by
    have h1 : 0 ≤ (a + m - f) / m := Int.ediv_nonneg (by omega) (by omega)
    have h2 : (a + m - f) / m ≤ a + m - f := Int.ediv_le_self _ (by omega)
    exact IntWalk.i64_in _ (by omega)
  go_enter Try.func26, Try.ntmps26
  go_wp2_with (first
    | (go_at_call_of 58 s; refine (isValid_any _ s _).mono ?_; rw [HU.out]; rintro e w1 ⟨rfl, hb1⟩; have D1 := Lib.hid (D0.out.call hb1); obtain ⟨d0, d1, _, _⟩ := D1.out)
    | (go_at_call 65; refine (reading_any _ _ _ _).mono ?_; rintro e w2 ⟨rfl, hb2⟩; have D2 := Lib.hid (D1.out.call hb2))
    | (go_at_call_of 58 x; refine (isValid_any _ x _).mono ?_; rw [HY.out]; rintro e w3 ⟨rfl, hb3⟩; have D3 := Lib.hid (D2.out.call hb3); obtain ⟨e0, e1, eB, ez⟩ := D3.out)
    | (go_at_call 66; refine (isStep_any _ _).mono ?_; rw [HV.out]; rintro e wq ⟨rfl, hwq⟩; replace hwq := hwq.symm; subst hwq))
  have d0 := e0
  have d1 := e1
  have dB := eB
  have dz := ez
  clear e0 e1 eB ez
  go_region_held3 (fun w' => w'.cell? ⟨w.heap.size, 0, none⟩ = some (.int .i64 m) ∧ w'.cell? ⟨w.heap.size, 1, none⟩ = some (.int .i64 s) ∧ Below w.heap.size w w' ∧ w.heap.size < w'.heap.size) (first | assumption | exact ⟨d0, d1, bel_drew dB, dz⟩ | go_keep)
    (first | (go_at_call 67; refine (sizeOf_any _ _ (by omega)).mono ?_; rw [HAE.out]; rintro e w4 ⟨rfl, rfl⟩) | (go_at_call 69; refine (directionOf_any _ _).mono ?_; rw [HDE.out]; rintro e w5 ⟨rfl, rfl⟩) | (go_at_call 68; refine (call_held2 (by assumption) (firstPass_any _ _ _ _ _ HU.out HY.out hdir)).mono ?_; rw [HFE.out]; rintro e w6 ⟨rfl, hS6⟩))
  all_goals go_wp2
  all_goals go_ret2
  all_goals rw [HZ.out, HB.out]
  all_goals exact ⟨rfl, hS6.2.2.1⟩

end Go.Proofs.Ytfcljanechlmkaa
