/- Codes that are close, as both programs ask it. For lists of at most 1048576 numbers. -/
import Derived.Test.YtfcljanechlmkaaYh
namespace Go.Proofs.Ytfcljanechlmkaa
open Go.ChangeShapes Go.WideShapes Go.ChangeAt Go.RowKit Go.Joins

/-- Two numbers are near to each other. -/
def nearB (m k x y : Int) : Bool := decide (lesI (modI m (x - y)) (m - modI m (x - y)) ≤ k)

/-- The first j numbers are. -/
def nearN (m k : Int) (xs ys : List Int) : Nat → Bool
  | 0 => true
  | j + 1 => nearN m k xs ys j && nearB m k (xs.getD j 0) (ys.getD j 0)

def acB (m k : Int) (xs ys : List Int) : Bool := slackB k && (codeB m xs && (codeB m ys && decide (xs.length = ys.length)))

def acZ (m k : Int) (xs ys : List Int) : Bool := acB m k xs ys && nearN m k xs ys xs.length

theorem nearN_no {m k : Int} {xs ys : List Int} {j : Nat} (h : nearB m k (xs.getD j 0) (ys.getD j 0) = false) : ∀ n, j < n → nearN m k xs ys n = false
  | 0, hn => by omega
  | n + 1, hn => by
    rw [nearN]
    by_cases e : j = n
    · subst e; rw [h, Bool.and_false]
    · rw [nearN_no h n (by omega), Bool.false_and]

theorem code_at {m : Int} {xs : List Int} (h : codeB m xs = true) {k : Nat} (hk : k < xs.length) : 2 ≤ m ∧ m ≤ 100 ∧ 0 ≤ xs.getD k 0 ∧ xs.getD k 0 < m := by
  unfold codeB at h
  rw [Bool.and_eq_true, List.all_eq_true] at h
  have := h.2 xs[k] (List.getElem_mem _)
  simp only [List.getD, List.getElem?_eq_getElem hk, Option.getD_some]
  exact dm_yes this

theorem code_len {m : Int} {xs : List Int} (h : codeB m xs = true) : 1 ≤ xs.length ∧ xs.length ≤ 12 := by
  unfold codeB at h
  rw [Bool.and_eq_true, decide_eq_true_eq] at h
  exact h.1

theorem code_marks {m : Int} {xs : List Int} (h : codeB m xs = true) : marksB m = true := by
  have := code_at h (k := 0) (code_len h).1
  exact decide_eq_true ⟨this.1, this.2.1⟩

/-- Back and forth. -/
theorem near_back {m x y : Int} (hx : 0 ≤ x ∧ x < m) (hy : 0 ≤ y ∧ y < m) : lesI (modI m (y - x)) (m - modI m (y - x)) = lesI (modI m (x - y)) (m - modI m (x - y)) := by
  have h1 : modI m (x - y) = if y ≤ x then x - y else x - y + m := by
    unfold modI
    split
    · exact Int.emod_eq_of_lt (by omega) (by omega)
    · rw [← Int.add_emod_right]; exact Int.emod_eq_of_lt (by omega) (by omega)
  have h3 : modI m (y - x) = if x ≤ y then y - x else y - x + m := by
    unfold modI
    split
    · exact Int.emod_eq_of_lt (by omega) (by omega)
    · rw [← Int.add_emod_right]; exact Int.emod_eq_of_lt (by omega) (by omega)
  rw [h1, h3]
  unfold lesI
  split <;> split <;> split <;> split <;> omega

set_option maxHeartbeats 2000000 in
theorem specAreClose_any (m k : Int) (A1 A2 : Option Addr) (n1 c1 n2 c2 : Nat) (xs ys : List Int) (w : World) (hm1 : n1 ≤ 1048576) (hm2 : n2 ≤ 1048576) (h1 : IntsA w A1 n1 xs) (h2 : IntsA w A2 n2 ys) :
    Calls Try.prog 47 #[.int .i64 m, .int .i64 k, .slice A1 n1 c1, .slice A2 n2 c2] w fun e w' => e = .returned (.tuple #[.bool (acZ m k xs ys), .bool (acB m k xs ys)]) ∧ Below w.heap.size w w' := by
  have HL1 := Lib.hid h1.len
  have HL2 := Lib.hid h2.len
  have HA1 := Lib.hid h1
  have HA2 := Lib.hid h2
  clear h1 h2
  obtain ⟨u, hu⟩ : ∃ u, marksB m = u := ⟨_, rfl⟩
  obtain ⟨v, hv⟩ : ∃ v, slackB k = v := ⟨_, rfl⟩
  obtain ⟨p, hp⟩ : ∃ p, codeB m xs = p := ⟨_, rfl⟩
  obtain ⟨q, hq⟩ : ∃ q, codeB m ys = q := ⟨_, rfl⟩
  have HU := Lib.hid hu
  have HV : Hid (inB k 0 100 = v) := Lib.hid hv
  have HP := Lib.hid hp
  have HQ := Lib.hid hq
  have HB : Hid (acB m k xs ys = (v && (p && (q && decide (n1 = n2))))) := Lib.hid (by unfold acB; rw [hv, hp, hq, HL1.out, HL2.out])
  have HZ : Hid (acZ m k xs ys = (acB m k xs ys && nearN m k xs ys n1)) := Lib.hid (by unfold acZ; rw [HL1.out])
  rcases u with _ | _
  · have hpf : p = false := by
      rcases p with _ | _
      · rfl
      · exact absurd (code_marks hp) (by rw [hu]; simp)
    subst hpf
    have HB2 : Hid (acB m k xs ys = false) := Lib.hid (by rw [HB.out]; cases v <;> rfl)
    go_enter Try.func47, Try.ntmps47
    go_wp2_with (go_at_call 85; refine (diMarks_any _ _).mono ?_; rw [HU.out]; rintro e wq ⟨rfl, hwq⟩; replace hwq := hwq.symm; subst hwq)
    go_ret2
    rw [HZ.out, HB2.out]
    exact ⟨rfl, Below.refl _ _⟩
  have HMM := Lib.hid hu
  rcases v with _ | _
  · go_enter Try.func47, Try.ntmps47
    go_wp2_with (first | (go_at_call 85; refine (diMarks_any _ _).mono ?_; rw [HU.out]; rintro e wq ⟨rfl, hwq⟩; replace hwq := hwq.symm; subst hwq) | (go_at_call 63; refine (l1In_any _ _ _ _).mono ?_; rw [HV.out]; rintro e wq ⟨rfl, hwq⟩; replace hwq := hwq.symm; subst hwq))
    go_ret2
    rw [HZ.out, HB.out]
    exact ⟨rfl, Below.refl _ _⟩
  rcases p with _ | _
  · go_enter Try.func47, Try.ntmps47
    go_wp2_with (first | (go_at_call 85; refine (diMarks_any _ _).mono ?_; rw [HU.out]; rintro e wq ⟨rfl, hwq⟩; replace hwq := hwq.symm; subst hwq) | (go_at_call 63; refine (l1In_any _ _ _ _).mono ?_; rw [HV.out]; rintro e wq ⟨rfl, hwq⟩; replace hwq := hwq.symm; subst hwq) | (go_at_call_of 70 n1; refine (diCode_any _ _ n1 _ xs _ hm1 HMM.out HA1.out).mono ?_; rw [HP.out]; rintro e wq ⟨rfl, hwq⟩; replace hwq := hwq.symm; subst hwq))
    go_ret2
    rw [HZ.out, HB.out]
    exact ⟨rfl, Below.refl _ _⟩
  rcases q with _ | _
  · go_enter Try.func47, Try.ntmps47
    go_wp2_with (first | (go_at_call 85; refine (diMarks_any _ _).mono ?_; rw [HU.out]; rintro e wq ⟨rfl, hwq⟩; replace hwq := hwq.symm; subst hwq) | (go_at_call 63; refine (l1In_any _ _ _ _).mono ?_; rw [HV.out]; rintro e wq ⟨rfl, hwq⟩; replace hwq := hwq.symm; subst hwq) | (go_at_call_of 70 n1; refine (diCode_any _ _ n1 _ xs _ hm1 HMM.out HA1.out).mono ?_; rw [HP.out]; rintro e wq ⟨rfl, hwq⟩; replace hwq := hwq.symm; subst hwq) | (go_at_call_of 70 n2; refine (diCode_any _ _ n2 _ ys _ hm2 HMM.out HA2.out).mono ?_; rw [HQ.out]; rintro e wq ⟨rfl, hwq⟩; replace hwq := hwq.symm; subst hwq))
    go_ret2
    rw [HZ.out, HB.out]
    exact ⟨rfl, Below.refl _ _⟩
  by_cases hn : n1 = n2
  · subst hn
    have HBt : Hid (acB m k xs ys = true) := Lib.hid (by rw [HB.out, decide_eq_true rfl]; rfl)
    obtain ⟨m2, m1⟩ := marks_yes hu
    have hl := (code_len hp).2
    rw [HL1.out] at hl
    clear hu hv hp hq
    go_enter Try.func47, Try.ntmps47
    go_wp2_with (first | (go_at_call 85; refine (diMarks_any _ _).mono ?_; rw [HU.out]; rintro e wq ⟨rfl, hwq⟩; replace hwq := hwq.symm; subst hwq) | (go_at_call 63; refine (l1In_any _ _ _ _).mono ?_; rw [HV.out]; rintro e wq ⟨rfl, hwq⟩; replace hwq := hwq.symm; subst hwq) | (go_at_call_of 70 A1; refine (diCode_any _ _ n1 _ xs _ hm1 HMM.out HA1.out).mono ?_; rw [HP.out]; rintro e wq ⟨rfl, hwq⟩; replace hwq := hwq.symm; subst hwq) | (go_at_call_of 70 A2; refine (diCode_any _ _ n1 _ ys _ hm2 HMM.out HA2.out).mono ?_; rw [HQ.out]; rintro e wq ⟨rfl, hwq⟩; replace hwq := hwq.symm; subst hwq))
    go_loop [42] (fun i => ∃ j : Nat, j ≤ n1 ∧ i = .int .i64 j ∧ nearN m k xs ys j = true) (fun i => n1 - (intOf i).toNat)
    case atStart => exact ⟨0, by omega, rfl, rfl⟩
    case round =>
      obtain ⟨j, hj, rfl, hN⟩ := hrel
      have HN := Lib.hid hN
      clear hN
      by_cases hlt : j < n1
      · obtain ⟨b1, o1, rfl, hb1, hc1⟩ := HA1.out.at_.resolve_left (by omega)
        obtain ⟨b2, o2, rfl, hb2, hc2⟩ := HA2.out.at_.resolve_left (by omega)
        have p1 := hc1 j hlt
        have p2 := hc2 j hlt
        obtain ⟨_, _, x0, x1⟩ := code_at HP.out (k := j) (by rw [HL1.out]; exact hlt)
        obtain ⟨_, _, y0, y1⟩ := code_at HQ.out (k := j) (by rw [HL2.out]; exact hlt)
        have HS : Hid (nearN m k xs ys (j + 1) = (nearN m k xs ys j && nearB m k (xs.getD j 0) (ys.getD j 0))) := Lib.hid rfl
        have HNO := Lib.hid (fun h => nearN_no (m := m) (k := k) (xs := xs) (ys := ys) (j := j) h n1 hlt)
        obtain ⟨x, hx⟩ : ∃ x, xs.getD j 0 = x := ⟨_, rfl⟩
        obtain ⟨y, hy⟩ : ∃ y, ys.getD j 0 = y := ⟨_, rfl⟩
        rw [hx] at p1 x0 x1 HS HNO
        rw [hy] at p2 y0 y1 HS HNO
        clear hx hy hc1 hc2
        obtain ⟨z, hz⟩ : ∃ z, modI m (x - y) = z := ⟨_, rfl⟩
        have hzb := modI_bd m2 (x - y)
        rw [hz] at hzb
        have HZ1 := Lib.hid hz
        obtain ⟨l, hl⟩ : ∃ l, lesI z (m - z) = l := ⟨_, rfl⟩
        have HLE := Lib.hid hl
        have HNB : Hid (nearB m k x y = decide (l ≤ k)) := Lib.hid (by unfold nearB; rw [hz, hl])
        clear hz hl
        by_cases hlk : l ≤ k
        · have HNX : Hid (nearN m k xs ys (j + 1) = true) := Lib.hid (by rw [HS.out, HN.out, HNB.out, decide_eq_true hlk]; rfl)
          go_wp2_with (first | (go_at_call 57; refine (l1Mod_m _ _ _ m2 m1).mono ?_; rw [HZ1.out]; rintro e wq ⟨rfl, hwq⟩; replace hwq := hwq.symm; subst hwq) | (go_at_call 86; refine (l1Least_m _ _ _).mono ?_; rw [HLE.out]; rintro e wq ⟨rfl, hwq⟩; replace hwq := hwq.symm; subst hwq))
          go_round
          case rel => exact ⟨j + 1, by omega, by go_num, HNX.out⟩
          case measure => simp [intOf]; try omega
        · have HNX : Hid (nearN m k xs ys n1 = false) := Lib.hid (HNO.out (by rw [HNB.out, decide_eq_false hlk]))
          go_wp2_with (first | (go_at_call 57; refine (l1Mod_m _ _ _ m2 m1).mono ?_; rw [HZ1.out]; rintro e wq ⟨rfl, hwq⟩; replace hwq := hwq.symm; subst hwq) | (go_at_call 86; refine (l1Least_m _ _ _).mono ?_; rw [HLE.out]; rintro e wq ⟨rfl, hwq⟩; replace hwq := hwq.symm; subst hwq))
          go_ret2
          rw [HZ.out, HBt.out, HNX.out]
          exact ⟨rfl, Below.refl _ _⟩
      · obtain rfl : j = n1 := by omega
        go_wp2_with fail
        go_ret2
        rw [HZ.out, HBt.out, HN.out]
        exact ⟨rfl, Below.refl _ _⟩
  · have HB2 : Hid (acB m k xs ys = false) := Lib.hid (by rw [HB.out, decide_eq_false hn]; rfl)
    have hl1 := (code_len hp).2
    have hl2 := (code_len hq).2
    rw [HL1.out] at hl1
    rw [HL2.out] at hl2
    have hni : ¬ (n1 : Int) = (n2 : Int) := by omega
    go_enter Try.func47, Try.ntmps47
    go_wp2_with (first | (go_at_call 85; refine (diMarks_any _ _).mono ?_; rw [HU.out]; rintro e wq ⟨rfl, hwq⟩; replace hwq := hwq.symm; subst hwq) | (go_at_call 63; refine (l1In_any _ _ _ _).mono ?_; rw [HV.out]; rintro e wq ⟨rfl, hwq⟩; replace hwq := hwq.symm; subst hwq) | (go_at_call_of 70 n1; refine (diCode_any _ _ n1 _ xs _ hm1 HMM.out HA1.out).mono ?_; rw [HP.out]; rintro e wq ⟨rfl, hwq⟩; replace hwq := hwq.symm; subst hwq) | (go_at_call_of 70 n2; refine (diCode_any _ _ n2 _ ys _ hm2 HMM.out HA2.out).mono ?_; rw [HQ.out]; rintro e wq ⟨rfl, hwq⟩; replace hwq := hwq.symm; subst hwq))
    go_ret2
    rw [HZ.out, HB2.out]
    exact ⟨rfl, Below.refl _ _⟩

set_option maxHeartbeats 2000000 in
theorem areClose_any (m k : Int) (A1 A2 : Option Addr) (n1 c1 n2 c2 : Nat) (xs ys : List Int) (w : World) (hm1 : n1 ≤ 1048576) (hm2 : n2 ≤ 1048576) (h1 : IntsA w A1 n1 xs) (h2 : IntsA w A2 n2 ys) :
    Calls Try.prog 48 #[.int .i64 m, .int .i64 k, .slice A1 n1 c1, .slice A2 n2 c2] w fun e w' => e = .returned (.tuple #[.bool (acZ m k xs ys), .bool (acB m k xs ys)]) ∧ Below w.heap.size w w' := by
  have HL1 := Lib.hid h1.len
  have HL2 := Lib.hid h2.len
  have HA1 := Lib.hid h1
  have HA2 := Lib.hid h2
  clear h1 h2
  obtain ⟨v, hv⟩ : ∃ v, slackB k = v := ⟨_, rfl⟩
  obtain ⟨p, hp⟩ : ∃ p, codeB m xs = p := ⟨_, rfl⟩
  obtain ⟨q, hq⟩ : ∃ q, codeB m ys = q := ⟨_, rfl⟩
  have HV := Lib.hid hv
  have HP := Lib.hid hp
  have HQ := Lib.hid hq
  have HB : Hid (acB m k xs ys = (v && (p && (q && decide (n1 = n2))))) := Lib.hid (by unfold acB; rw [hv, hp, hq, HL1.out, HL2.out])
  have HZ : Hid (acZ m k xs ys = (acB m k xs ys && nearN m k xs ys n1)) := Lib.hid (by unfold acZ; rw [HL1.out])
  rcases v with _ | _
  · go_enter Try.func48, Try.ntmps48
    go_wp2_with (go_at_call 87; refine (isSlack_any _ _).mono ?_; rw [HV.out]; rintro e wq ⟨rfl, hwq⟩; replace hwq := hwq.symm; subst hwq)
    go_ret2
    rw [HZ.out, HB.out]
    exact ⟨rfl, Below.refl _ _⟩
  rcases p with _ | _
  · go_enter Try.func48, Try.ntmps48
    go_wp2_with (first | (go_at_call 87; refine (isSlack_any _ _).mono ?_; rw [HV.out]; rintro e wq ⟨rfl, hwq⟩; replace hwq := hwq.symm; subst hwq) | (go_at_call_of 72 n1; refine (isDialCode_any _ _ n1 _ xs _ hm1 HA1.out).mono ?_; rw [HP.out]; rintro e w1 ⟨rfl, hb1⟩; have HB1 := Lib.hid (show Below w.heap.size w w1 from hb1); have HA2w := Lib.hid (HA2.out.below hb1); clear hb1))
    go_ret2
    rw [HZ.out, HB.out]
    exact ⟨rfl, HB1.out⟩
  by_cases hn : n1 = n2
  · subst hn
    rcases q with _ | _
    · go_enter Try.func48, Try.ntmps48
      go_wp2_with (first | (go_at_call 87; refine (isSlack_any _ _).mono ?_; rw [HV.out]; rintro e wq ⟨rfl, hwq⟩; replace hwq := hwq.symm; subst hwq) | (go_at_call_of 72 A1; refine (isDialCode_any _ _ n1 _ xs _ hm1 HA1.out).mono ?_; rw [HP.out]; rintro e w1 ⟨rfl, hb1⟩; have HB1 := Lib.hid (show Below w.heap.size w w1 from hb1); have HA2w := Lib.hid (HA2.out.below hb1); clear hb1) | (go_at_call_of 72 A2; refine (isDialCode_any _ _ n1 _ ys _ hm2 HA2w.out).mono ?_; rw [HQ.out]; rintro e w2 ⟨rfl, hb2⟩; have HB2w := Lib.hid (bel_call HB1.out hb2); clear hb2))
      go_ret2
      rw [HZ.out, HB.out]
      exact ⟨rfl, HB2w.out⟩
    have HBt : Hid (acB m k xs ys = true) := Lib.hid (by rw [HB.out, decide_eq_true rfl]; rfl)
    obtain ⟨m2, m1⟩ := marks_yes (code_marks hp)
    have hl := (code_len hp).2
    rw [HL1.out] at hl
    clear hv hp hq
    go_enter Try.func48, Try.ntmps48
    go_wp2_with (first | (go_at_call 87; refine (isSlack_any _ _).mono ?_; rw [HV.out]; rintro e wq ⟨rfl, hwq⟩; replace hwq := hwq.symm; subst hwq) | (go_at_call_of 72 A1; refine (isDialCode_any _ _ n1 _ xs _ hm1 HA1.out).mono ?_; rw [HP.out]; rintro e w1 ⟨rfl, hb1⟩; have HB1 := Lib.hid (show Below w.heap.size w w1 from hb1); have HA2w := Lib.hid (HA2.out.below hb1); clear hb1) | (go_at_call_of 72 A2; refine (isDialCode_any _ _ n1 _ ys _ hm2 HA2w.out).mono ?_; rw [HQ.out]; rintro e w2 ⟨rfl, hb2⟩; have HB2w := Lib.hid (bel_call HB1.out hb2); clear hb2))
    clear HA2w HB1
    go_loopw [37] (fun i wr => ∃ j : Nat, j ≤ n1 ∧ i = .int .i64 j ∧ nearN m k xs ys j = true ∧ Below w.heap.size w wr) (fun i _ => n1 - (intOf i).toNat)
    case atStart => exact ⟨0, by omega, rfl, rfl, HB2w.out⟩
    case round =>
      clear HB2w
      obtain ⟨j, hj, rfl, hN, hB⟩ := hrel
      have HN := Lib.hid hN
      have HBr := Lib.hid hB
      clear hN hB
      by_cases hlt : j < n1
      · obtain ⟨b1, o1, rfl, hb1, hc1⟩ := (HA1.out.below HBr.out).at_.resolve_left (by omega)
        obtain ⟨b2, o2, rfl, hb2, hc2⟩ := (HA2.out.below HBr.out).at_.resolve_left (by omega)
        have p1 := hc1 j hlt
        have p2 := hc2 j hlt
        obtain ⟨_, _, x0, x1⟩ := code_at HP.out (k := j) (by rw [HL1.out]; exact hlt)
        obtain ⟨_, _, y0, y1⟩ := code_at HQ.out (k := j) (by rw [HL2.out]; exact hlt)
        have HS : Hid (nearN m k xs ys (j + 1) = (nearN m k xs ys j && nearB m k (xs.getD j 0) (ys.getD j 0))) := Lib.hid rfl
        have HNO := Lib.hid (fun h => nearN_no (m := m) (k := k) (xs := xs) (ys := ys) (j := j) h n1 hlt)
        obtain ⟨x, hx⟩ : ∃ x, xs.getD j 0 = x := ⟨_, rfl⟩
        obtain ⟨y, hy⟩ : ∃ y, ys.getD j 0 = y := ⟨_, rfl⟩
        rw [hx] at p1 x0 x1 HS HNO
        rw [hy] at p2 y0 y1 HS HNO
        clear hx hy hc1 hc2
        obtain ⟨z, hz⟩ : ∃ z, modI m (y - x) = z := ⟨_, rfl⟩
        have hzb := modI_bd m2 (y - x)
        have hnb := near_back (m := m) ⟨x0, x1⟩ ⟨y0, y1⟩
        rw [hz] at hzb hnb
        obtain ⟨hz0, hz1⟩ := hzb
        have HZ1 := Lib.hid hz
        obtain ⟨l, hl, hl2⟩ : ∃ l, lesI z (m - z) = l ∧ ((z < m - z ∧ z < m - z ∧ l = z) ∨ (z ≤ m - z ∧ m - z ≤ z ∧ l = m - z) ∨ (m - z < z ∧ m - z < z ∧ l = m - z)) := ⟨_, rfl, by unfold lesI; split <;> omega⟩
        have HNB : Hid (nearB m k x y = decide (l ≤ k)) := Lib.hid (by unfold nearB; rw [← hnb, hl])
        clear hz hl hnb
        by_cases hlk : l ≤ k
        · have HNX : Hid (nearN m k xs ys (j + 1) = true) := Lib.hid (by rw [HS.out, HN.out, HNB.out, decide_eq_true hlk]; rfl)
          rcases hl2 with ⟨hc, hc', rfl⟩ | ⟨hc, hc', rfl⟩ | ⟨hc, hc', rfl⟩
          all_goals
            try have hk2 : z ≤ k := by omega
            go_wp2_with (go_at_call 88; refine (around_any _ _ _ _ m2 m1).mono ?_; rw [HZ1.out]; rintro e w3 ⟨rfl, hb3⟩; have HB3 := Lib.hid (bel_call HBr.out hb3); clear hb3)
            go_roundw
            case rel => exact ⟨j + 1, by omega, by go_num, HNX.out, HB3.out⟩
            case measure => simp [intOf]; try omega
        · have HNX : Hid (nearN m k xs ys n1 = false) := Lib.hid (HNO.out (by rw [HNB.out, decide_eq_false hlk]))
          rcases hl2 with ⟨hc, hc', rfl⟩ | ⟨hc, hc', rfl⟩ | ⟨hc, hc', rfl⟩
          all_goals
            try have hk2 : ¬ z ≤ k := by omega
            go_wp2_with (go_at_call 88; refine (around_any _ _ _ _ m2 m1).mono ?_; rw [HZ1.out]; rintro e w3 ⟨rfl, hb3⟩; have HB3 := Lib.hid (bel_call HBr.out hb3); clear hb3)
            go_ret2
            rw [HZ.out, HBt.out, HNX.out]
            exact ⟨rfl, HB3.out⟩
      · obtain rfl : j = n1 := by omega
        go_wp2_with fail
        go_ret2
        rw [HZ.out, HBt.out, HN.out]
        exact ⟨rfl, HBr.out⟩
  · have HB2 : Hid (acB m k xs ys = false) := Lib.hid (by rw [HB.out, decide_eq_false hn]; cases q <;> rfl)
    rcases q with _ | _
    · go_enter Try.func48, Try.ntmps48
      go_wp2_with (first | (go_at_call 87; refine (isSlack_any _ _).mono ?_; rw [HV.out]; rintro e wq ⟨rfl, hwq⟩; replace hwq := hwq.symm; subst hwq) | (go_at_call_of 72 n1; refine (isDialCode_any _ _ n1 _ xs _ hm1 HA1.out).mono ?_; rw [HP.out]; rintro e w1 ⟨rfl, hb1⟩; have HB1 := Lib.hid (show Below w.heap.size w w1 from hb1); have HA2w := Lib.hid (HA2.out.below hb1); clear hb1) | (go_at_call_of 72 n2; refine (isDialCode_any _ _ n2 _ ys _ hm2 HA2w.out).mono ?_; rw [HQ.out]; rintro e w2 ⟨rfl, hb2⟩; have HB2w := Lib.hid (bel_call HB1.out hb2); clear hb2))
      go_ret2
      rw [HZ.out, HB2.out]
      exact ⟨rfl, HB2w.out⟩
    have hl1 := (code_len hp).2
    have hl2 := (code_len hq).2
    rw [HL1.out] at hl1
    rw [HL2.out] at hl2
    have hni : ¬ (n1 : Int) = (n2 : Int) := by omega
    go_enter Try.func48, Try.ntmps48
    go_wp2_with (first | (go_at_call 87; refine (isSlack_any _ _).mono ?_; rw [HV.out]; rintro e wq ⟨rfl, hwq⟩; replace hwq := hwq.symm; subst hwq) | (go_at_call_of 72 n1; refine (isDialCode_any _ _ n1 _ xs _ hm1 HA1.out).mono ?_; rw [HP.out]; rintro e w1 ⟨rfl, hb1⟩; have HB1 := Lib.hid (show Below w.heap.size w w1 from hb1); have HA2w := Lib.hid (HA2.out.below hb1); clear hb1) | (go_at_call_of 72 n2; refine (isDialCode_any _ _ n2 _ ys _ hm2 HA2w.out).mono ?_; rw [HQ.out]; rintro e w2 ⟨rfl, hb2⟩; have HB2w := Lib.hid (bel_call HB1.out hb2); clear hb2))
    go_ret2
    rw [HZ.out, HB2.out]
    exact ⟨rfl, HB2w.out⟩

end Go.Proofs.Ytfcljanechlmkaa
