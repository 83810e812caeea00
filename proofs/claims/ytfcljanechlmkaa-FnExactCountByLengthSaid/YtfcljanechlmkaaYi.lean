/- Numbers to be tried, and how many codes have them alone, as both programs reckon them. No conditions. -/
import Derived.Test.YtfcljanechlmkaaYh
namespace Go.Proofs.Ytfcljanechlmkaa
open Go.ChangeShapes Go.WideShapes Go.ChangeAt Go.RowKit Go.Joins

/-- The first j numbers to be tried. -/
def trL (m k : Int) : Nat → List Int
  | 0 => []
  | j + 1 => trL m k j ++ [lesI ((j : Int) * (2 * k + 1) + k) (m - 1)]

theorem trL_length (m k : Int) (j : Nat) : (trL m k j).length = j := by
  induction j with
  | zero => rfl
  | succ j ih => rw [trL, List.length_append, ih]; rfl

/-- How many numbers are to be tried. -/
def trN (m k : Int) : Nat := ((m + 2 * k) / (2 * k + 1)).toNat

theorem trN_lt {m k : Int} (hm : 2 ≤ m) (hk : 0 ≤ k) (j : Nat) : (j : Int) * (2 * k + 1) < m ↔ j < trN m k := by
  unfold trN
  have h0 : 0 ≤ (m + 2 * k) / (2 * k + 1) := Int.ediv_nonneg (by omega) (by omega)
  have h1 : (j : Int) + 1 ≤ (m + 2 * k) / (2 * k + 1) ↔ ((j : Int) + 1) * (2 * k + 1) ≤ m + 2 * k := Int.le_ediv_iff_mul_le (by omega)
  rw [Int.add_mul, Int.one_mul] at h1
  generalize (j : Int) * (2 * k + 1) = x at h1 ⊢
  omega

theorem trN_bd {m k : Int} (hm : 2 ≤ m) (hm1 : m ≤ 100) (hk : 0 ≤ k) : trN m k ≤ 100 := by
  rcases Nat.lt_or_ge 100 (trN m k) with h | h
  · exfalso
    have := (trN_lt hm hk 100).2 h
    have h2 : (1 : Int) * 100 ≤ (2 * k + 1) * 100 := Int.mul_le_mul_of_nonneg_right (by omega) (by omega)
    rw [Int.mul_comm] at this
    omega
  · exact h

/-- Whether numbers to be tried are told, and which. -/
def toB (m k : Int) : Bool := marksB m && slackB k

def toZ (m k : Int) : List Int := if toB m k then trL m k (trN m k) else []

theorem tries_step {m k : Int} {j : Nat} : trL m k (j + 1) = trL m k j ++ [lesI ((j : Int) * (2 * k + 1) + k) (m - 1)] := rfl

theorem tries_next {k : Int} {j : Nat} : ((j + 1 : Nat) : Int) * (2 * k + 1) = (j : Int) * (2 * k + 1) + (2 * k + 1) := by
  rw [Int.natCast_add, Int.add_mul]; simp

/-- A row of numbers handed back. -/
def IntsR (w : World) (xs : List Int) (e : Ending) (w' : World) : Prop :=
  ∃ A c, e = .returned (.slice A xs.length c) ∧ LI w' w.heap.size w'.heap.size A xs ∧ Below w.heap.size w w'

theorem intsR_mk {w w' : World} {xs : List Int} {e : Ending} {A : Option Addr} {n c : Nat} (he : e = .returned (.slice A n c)) (hn : xs.length = n) (hL : LI w' w.heap.size w'.heap.size A xs) (hb : Below w.heap.size w w') : IntsR w xs e w' :=
  ⟨A, c, by rw [he, hn], hL, hb⟩

set_option maxHeartbeats 1000000 in
theorem diTries_any (m k : Int) (w : World) (hM : marksB m = true) (hK : slackB k = true) :
    Calls Try.prog 95 #[.int .i64 m, .int .i64 k] w (IntsR w (trL m k (trN m k))) := by
  obtain ⟨i0, hi, hy0, hy1, hy2⟩ := info_parts info_int
  obtain ⟨m2, m1⟩ := marks_yes hM
  obtain ⟨k0, k1⟩ := slack_yes hK
  have HLT : Hid (∀ j : Nat, (j : Int) * (2 * k + 1) < m ↔ j < trN m k) := Lib.hid (trN_lt m2 k0)
  have hN := trN_bd m2 m1 k0
  generalize trN m k = N at HLT hN
  go_enter Try.func95, Try.ntmps95
  go_wp2_with fail
  go_loopw [5, 6] (fun v i wr => ∃ (j : Nat) (x : Int), j ≤ N ∧ i = .int .i64 x ∧ x = (j : Int) * (2 * k + 1) ∧ wr.ownsRow w.heap.size 3 1 v j (iv (trL m k j)) ∧ Below w.heap.size w wr) (fun _ i _ => (m - intOf i).toNat)
  case atStart => exact ⟨0, 0, by omega, rfl, by simp, World.ownsRow_nil _ _ _ _, Below.refl _ _⟩
  case round =>
    obtain ⟨j, x, hj, rfl, hx, hO, hB⟩ := hrel
    have HO := Lib.hid hO
    have HBr := Lib.hid hB
    have HLJ := HLT.out j
    rw [← hx] at HLJ
    have x0 : 0 ≤ x := by rw [hx]; exact Int.mul_nonneg (by omega) (by omega)
    have HX := Lib.hid hx
    clear hO hB hx
    by_cases hlt : x < m
    · have hjN := HLJ.1 hlt
      have HS : Hid (trL m k (j + 1) = trL m k j ++ [lesI (x + k) (m - 1)]) := Lib.hid (by rw [HX.out]; exact tries_step)
      have HN : Hid (((j + 1 : Nat) : Int) * (2 * k + 1) = x + (2 * k + 1)) := Lib.hid (by rw [HX.out]; exact tries_next)
      obtain ⟨q, hq⟩ : ∃ q, lesI (x + k) (m - 1) = q := ⟨_, rfl⟩
      rw [hq] at HS
      have HQ := Lib.hid hq
      have hsz := HBr.out.size
      clear hq HLJ
      go_wp2_with (first
        | (go_at_call 86; refine (l1Least_m _ _ _).mono ?_; rw [HQ.out]; rintro e wq ⟨rfl, hwq⟩; replace hwq := hwq.symm; subst hwq)
        | (at_builtin; refine wpList_append_own _ rfl _ _ 22 rfl w.heap.size 3 i0 (.int .i64 0) 1 8 Try.underlying22 hi hy0 hy1 hy2 rfl (by decide) _ _ _ rfl (HO.out.alloc _) ⟨wr.heap.size, 0, none⟩ 1 1 [.int .i64 q] rfl rfl (new_one rfl) (by simp [Value.oneCell']) (by unfold maxLen; omega) (by omega) (by simp; omega) ?_; intro v9 w9 hown9 hgrow9 hiff9; clear hiff9))
      have HO9 : Hid (w9.ownsRow w.heap.size 3 1 v9 (j + 1) (iv (trL m k (j + 1)))) := Lib.hid (by rw [HS.out, iv, List.map_append]; exact hown9)
      have HB9 : Hid (Below w.heap.size w w9) := Lib.hid ((HBr.out.alloc hsz _).grown hgrow9 (by simp; omega) (fun j hj => (HO.out.lt j hj).1))
      clear hown9 hgrow9
      go_wp2_with fail
      go_roundw
      case rel => exact ⟨j + 1, x + (2 * k + 1), by omega, by first | rfl | (congr 1; omega), by rw [HN.out], HO9.out, HB9.out⟩
      case measure => simp [intOf]; omega
    · have hjN : j = N := by
        have : ¬ j < N := fun h => hlt (HLJ.2 h)
        omega
      subst hjN
      obtain ⟨A9, c9, hv, hL⟩ := LI.of_row (xs := trL m k j) (by rw [trL_length]; exact HO.out) (by rw [trL_length]; omega)
      rw [trL_length] at hv
      subst hv
      go_wp2_with fail
      go_ret
      exact intsR_mk rfl (trL_length _ _ _) hL HBr.out

theorem specTriesOf_any (m k : Int) (w : World) :
    Calls Try.prog 53 #[.int .i64 m, .int .i64 k] w (IntsL w (toZ m k) (toB m k)) := by
  obtain ⟨u, hu⟩ : ∃ u, toB m k = u := ⟨_, rfl⟩
  have HB : Hid (toB m k = u) := Lib.hid hu
  have HU : Hid ((marksB m && (slackB k && countB 1)) = u) := Lib.hid (by rw [← hu]; unfold toB; rw [show countB 1 = true from rfl, Bool.and_true])
  rcases u with _ | _
  · have HZ : Hid (toZ m k = []) := Lib.hid (by unfold toZ; rw [HB.out]; rfl)
    go_enter Try.func53, Try.ntmps53
    go_wp2_with (go_at_call 89; refine (diSlack_any _ _ _ _).mono ?_; rw [HU.out]; rintro e wq ⟨rfl, hwq⟩; replace hwq := hwq.symm; subst hwq)
    go_ret2
    rw [HZ.out, HB.out]
    exact ints_none (Below.refl _ _)
  have HZ : Hid (toZ m k = trL m k (trN m k)) := Lib.hid (by unfold toZ; rw [HB.out]; rfl)
  unfold toB at hu
  rw [Bool.and_eq_true] at hu
  have HM := Lib.hid hu.1
  have HK := Lib.hid hu.2
  clear hu
  go_enter Try.func53, Try.ntmps53
  go_wp2_with (first | (go_at_call 89; refine (diSlack_any _ _ _ _).mono ?_; rw [HU.out]; rintro e wq ⟨rfl, hwq⟩; replace hwq := hwq.symm; subst hwq) | (go_at_call 95; refine (diTries_any _ _ _ HM.out HK.out).mono ?_; rintro e w2 ⟨A2, c2, rfl, hL2, hb2⟩))
  go_ret2
  rw [HZ.out, HB.out]
  exact ints_mk rfl rfl hL2 hb2

set_option maxHeartbeats 1000000 in
theorem triesOf_any (m k : Int) (w : World) :
    Calls Try.prog 54 #[.int .i64 m, .int .i64 k] w (IntsL w (toZ m k) (toB m k)) := by
  obtain ⟨i0, hi, hy0, hy1, hy2⟩ := info_parts info_int
  obtain ⟨u, hu⟩ : ∃ u, marksB m = u := ⟨_, rfl⟩
  obtain ⟨v, hv⟩ : ∃ v, slackB k = v := ⟨_, rfl⟩
  have HM := Lib.hid hu
  have HK := Lib.hid hv
  have HB : Hid (toB m k = (u && v)) := Lib.hid (by unfold toB; rw [hu, hv])
  rcases u with _ | _
  · have HZ : Hid (toZ m k = []) := Lib.hid (by unfold toZ; rw [HB.out]; rfl)
    go_enter Try.func54, Try.ntmps54
    go_wp2_with (go_at_call 91; refine (areMarks_any _ _).mono ?_; rw [HM.out]; rintro e wq ⟨rfl, hwq⟩; replace hwq := hwq.symm; subst hwq)
    go_ret2
    rw [HZ.out, HB.out]
    exact ints_none (Below.refl _ _)
  rcases v with _ | _
  · have HZ : Hid (toZ m k = []) := Lib.hid (by unfold toZ; rw [HB.out]; rfl)
    go_enter Try.func54, Try.ntmps54
    go_wp2_with (first | (go_at_call 91; refine (areMarks_any _ _).mono ?_; rw [HM.out]; rintro e wq ⟨rfl, hwq⟩; replace hwq := hwq.symm; subst hwq) | (go_at_call 87; refine (isSlack_any _ _).mono ?_; rw [HK.out]; rintro e wq ⟨rfl, hwq⟩; replace hwq := hwq.symm; subst hwq))
    go_ret2
    rw [HZ.out, HB.out]
    exact ints_none (Below.refl _ _)
  have HZ : Hid (toZ m k = trL m k (trN m k)) := Lib.hid (by unfold toZ; rw [HB.out]; rfl)
  obtain ⟨m2, m1⟩ := marks_yes hu
  obtain ⟨k0, k1⟩ := slack_yes hv
  have HLT : Hid (∀ j : Nat, (j : Int) * (2 * k + 1) < m ↔ j < trN m k) := Lib.hid (trN_lt m2 k0)
  have hN := trN_bd m2 m1 k0
  generalize trN m k = N at HLT hN HZ
  clear hu hv
  go_enter Try.func54, Try.ntmps54
  go_wp2_with (first | (go_at_call 91; refine (areMarks_any _ _).mono ?_; rw [HM.out]; rintro e wq ⟨rfl, hwq⟩; replace hwq := hwq.symm; subst hwq) | (go_at_call 87; refine (isSlack_any _ _).mono ?_; rw [HK.out]; rintro e wq ⟨rfl, hwq⟩; replace hwq := hwq.symm; subst hwq))
  go_loopw [6, 7] (fun v i wr => ∃ (j : Nat) (x : Int), j ≤ N ∧ i = .int .i64 x ∧ x = (j : Int) * (2 * k + 1) ∧ wr.ownsRow w.heap.size 3 1 v j (iv (trL m k j)) ∧ Below w.heap.size w wr) (fun _ i _ => (m - intOf i).toNat)
  case atStart => exact ⟨0, 0, by omega, rfl, by simp, World.ownsRow_nil _ _ _ _, Below.refl _ _⟩
  case round =>
    obtain ⟨j, x, hj, rfl, hx, hO, hB⟩ := hrel
    have HO := Lib.hid hO
    have HBr := Lib.hid hB
    have HLJ := HLT.out j
    rw [← hx] at HLJ
    have x0 : 0 ≤ x := by rw [hx]; exact Int.mul_nonneg (by omega) (by omega)
    have HX := Lib.hid hx
    clear hO hB hx
    by_cases hlt : x < m
    · have hjN := HLJ.1 hlt
      have HS : Hid (trL m k (j + 1) = trL m k j ++ [lesI (x + k) (m - 1)]) := Lib.hid (by rw [HX.out]; exact tries_step)
      have HN : Hid (((j + 1 : Nat) : Int) * (2 * k + 1) = x + (2 * k + 1)) := Lib.hid (by rw [HX.out]; exact tries_next)
      obtain ⟨q, hq, hq2⟩ : ∃ q, Hid (lesI (x + k) (m - 1) = q) ∧ ((x + k < m - 1 ∧ q = x + k) ∨ (x + k = m - 1 ∧ q = m - 1) ∨ (m - 1 < x + k ∧ q = m - 1)) := ⟨lesI (x + k) (m - 1), Lib.hid rfl, by unfold lesI; split <;> omega⟩
      rw [hq.out] at HS
      have hsz := HBr.out.size
      clear HLJ
      have HQ2 : Hid ((x + k < m - 1 ∧ q = x + k) ∨ (x + k = m - 1 ∧ q = m - 1) ∨ (m - 1 < x + k ∧ q = m - 1)) := Lib.hid hq2
      clear hq2
      have hw1 : IntKind.i64.wrap (x + k) = x + k := IntWalk.i64_in _ (by omega)
      rcases HQ2.out with ⟨hc, hqe⟩ | ⟨hc, hqe⟩ | ⟨hc, hqe⟩
      all_goals
        rw [hqe] at HS
        clear hqe
        go_wp2_with (first
          | (go_at_call 94; refine (nearBy_any _ _ HK.out).mono ?_; rintro e wq ⟨rfl, hwq⟩; replace hwq := hwq.symm; subst hwq)
          | (at_builtin; refine wpList_append_own _ rfl _ _ 22 rfl w.heap.size 3 i0 (.int .i64 0) 1 8 Try.underlying22 hi hy0 hy1 hy2 rfl (by decide) _ _ _ rfl (HO.out.alloc _) ⟨wr.heap.size, 0, none⟩ 1 1 _ rfl rfl (new_one rfl) (by simp [Value.oneCell']) (by unfold maxLen; omega) (by omega) (by simp; omega) ?_; intro v9 w9 hown9 hgrow9 hiff9; clear hiff9))
        have HO9 : Hid (w9.ownsRow w.heap.size 3 1 v9 (j + 1) (iv (trL m k (j + 1)))) := Lib.hid (by rw [HS.out, iv, List.map_append]; exact hown9)
        have HB9 : Hid (Below w.heap.size w w9) := Lib.hid ((HBr.out.alloc hsz _).grown hgrow9 (by simp; omega) (fun j hj => (HO.out.lt j hj).1))
        clear hown9 hgrow9
        refine ⟨⟨j + 1, x + (2 * k + 1), by omega, rfl, by rw [HN.out], HO9.out, HB9.out⟩, ?_⟩
        simp [intOf]; omega
    · have hjN : j = N := by
        have : ¬ j < N := fun h => hlt (HLJ.2 h)
        omega
      subst hjN
      obtain ⟨A9, c9, hv, hL⟩ := LI.of_row (xs := trL m k j) (by rw [trL_length]; exact HO.out) (by rw [trL_length]; omega)
      rw [trL_length] at hv
      subst hv
      go_wp2_with fail
      go_ret2
      rw [HZ.out, HB.out]
      exact ints_mk rfl (trL_length _ _ _) hL HBr.out

/-- Whether it is told how many codes have them alone, and how many. -/
def ctB (m k n : Int) : Bool := toB m k && countB n

def ctZ (m k n : Int) : Int := if ctB m k n then powN (trN m k) n.toNat else 0

theorem ctB_cc (m k n : Int) : ctB m k n = (marksB m && (slackB k && countB n)) := by
  unfold ctB toB
  rw [Bool.and_assoc]

theorem specCountTries_any (m k n : Int) (w : World) :
    Calls Try.prog 51 #[.int .i64 m, .int .i64 k, .int .i64 n] w fun e w' => e = .returned (.tuple #[.int .i64 (ctZ m k n), .bool (ctB m k n)]) ∧ Below w.heap.size w w' := by
  obtain ⟨u, hu⟩ : ∃ u, ctB m k n = u := ⟨_, rfl⟩
  have HB : Hid (ctB m k n = u) := Lib.hid hu
  have HU : Hid ((marksB m && (slackB k && countB n)) = u) := Lib.hid (by rw [← ctB_cc]; exact hu)
  rcases u with _ | _
  · have HZ : Hid (ctZ m k n = 0) := Lib.hid (by unfold ctZ; rw [HB.out]; rfl)
    go_enter Try.func51, Try.ntmps51
    go_wp2_with (go_at_call 89; refine (diSlack_any _ _ _ _).mono ?_; rw [HU.out]; rintro e wq ⟨rfl, hwq⟩; replace hwq := hwq.symm; subst hwq)
    go_ret2
    rw [HZ.out, HB.out]
    exact ⟨rfl, Below.refl _ _⟩
  have HZ : Hid (ctZ m k n = powN (trN m k) n.toNat) := Lib.hid (by unfold ctZ; rw [HB.out]; rfl)
  rw [ctB_cc, Bool.and_eq_true, Bool.and_eq_true] at hu
  obtain ⟨h1, h2, h3⟩ := hu
  have HM := Lib.hid h1
  have HK := Lib.hid h2
  have hN := trN_bd (marks_yes h1).1 (marks_yes h1).2 (slack_yes h2).1
  have := count_yes h3
  obtain ⟨t, rfl⟩ : ∃ t : Nat, n = t := ⟨n.toNat, by omega⟩
  rw [Int.toNat_natCast] at HZ
  have HL := Lib.hid (trL_length m k (trN m k))
  clear h1 h2 h3
  obtain ⟨N, hNe⟩ : ∃ N, trN m k = N := ⟨_, rfl⟩
  have HN := Lib.hid hNe
  rw [hNe] at hN HZ
  clear hNe
  go_enter Try.func51, Try.ntmps51
  go_wp2_with (first | (go_at_call 89; refine (diSlack_any _ _ _ _).mono ?_; rw [HU.out]; rintro e wq ⟨rfl, hwq⟩; replace hwq := hwq.symm; subst hwq) | (go_at_call 95; refine (diTries_any _ _ _ HM.out HK.out).mono ?_; rintro e w2 ⟨A2, c2, rfl, _, hb2⟩; rw [HL.out, HN.out]) | (go_at_call 90; refine (diPower_any _ t _ (by omega) (by omega) (by omega) (by omega)).mono ?_; rintro e wq ⟨rfl, hwq⟩; replace hwq := hwq.symm; subst hwq))
  go_ret2
  rw [HZ.out, HB.out]
  exact ⟨rfl, hb2⟩

theorem countTries_any (m k n : Int) (w : World) :
    Calls Try.prog 52 #[.int .i64 m, .int .i64 k, .int .i64 n] w fun e w' => e = .returned (.tuple #[.int .i64 (ctZ m k n), .bool (ctB m k n)]) ∧ Below w.heap.size w w' := by
  obtain ⟨u, hu⟩ : ∃ u, toB m k = u := ⟨_, rfl⟩
  obtain ⟨v, hv⟩ : ∃ v, countB n = v := ⟨_, rfl⟩
  have HU := Lib.hid hu
  have HV := Lib.hid hv
  have HB : Hid (ctB m k n = (u && v)) := Lib.hid (by unfold ctB; rw [hu, hv])
  obtain ⟨N, hNe⟩ : ∃ N, (toZ m k).length = N := ⟨_, rfl⟩
  have HN := Lib.hid hNe
  rcases u with _ | _
  · have HZ : Hid (ctZ m k n = 0) := Lib.hid (by unfold ctZ; rw [HB.out]; rfl)
    clear hNe
    go_enter Try.func52, Try.ntmps52
    go_wp2_with (go_at_call 54; refine (triesOf_any _ _ _).mono ?_; rw [HU.out]; rintro e w2 ⟨A2, c2, rfl, _, hb2⟩)
    go_ret2
    rw [HZ.out, HB.out]
    exact ⟨rfl, hb2⟩
  rcases v with _ | _
  · have HZ : Hid (ctZ m k n = 0) := Lib.hid (by unfold ctZ; rw [HB.out]; rfl)
    clear hNe
    go_enter Try.func52, Try.ntmps52
    go_wp2_with (first | (go_at_call 54; refine (triesOf_any _ _ _).mono ?_; rw [HU.out]; rintro e w2 ⟨A2, c2, rfl, _, hb2⟩) | (go_at_call 92; refine (isAskedCount_any _ _).mono ?_; rw [HV.out]; rintro e wq ⟨rfl, hwq⟩; replace hwq := hwq.symm; subst hwq))
    go_ret2
    rw [HZ.out, HB.out]
    exact ⟨rfl, hb2⟩
  have hz : toZ m k = trL m k (trN m k) := by unfold toZ; rw [hu]; rfl
  rw [hz, trL_length] at hNe
  have HZ : Hid (ctZ m k n = powN N n.toNat) := Lib.hid (by unfold ctZ; rw [HB.out, hNe]; rfl)
  unfold toB at hu
  rw [Bool.and_eq_true] at hu
  have hN := trN_bd (marks_yes hu.1).1 (marks_yes hu.1).2 (slack_yes hu.2).1
  rw [hNe] at hN
  have := count_yes hv
  obtain ⟨t, rfl⟩ : ∃ t : Nat, n = t := ⟨n.toNat, by omega⟩
  rw [Int.toNat_natCast] at HZ
  clear hu hv hNe hz
  go_enter Try.func52, Try.ntmps52
  go_wp2_with (first | (go_at_call 54; refine (triesOf_any _ _ _).mono ?_; rw [HU.out]; rintro e w2 ⟨A2, c2, rfl, _, hb2⟩; rw [HN.out]) | (go_at_call 92; refine (isAskedCount_any _ _).mono ?_; rw [HV.out]; rintro e wq ⟨rfl, hwq⟩; replace hwq := hwq.symm; subst hwq) | (go_at_call 93; refine (power_any _ t _ (by omega) (by omega) (by omega)).mono ?_; rintro e wq ⟨rfl, hwq⟩; replace hwq := hwq.symm; subst hwq))
  go_ret2
  rw [HZ.out, HB.out]
  exact ⟨rfl, hb2⟩

end Go.Proofs.Ytfcljanechlmkaa
