/- Whether steps are the opening turns of a code, and the code that is told by them. For lists of at most 1048576 numbers. -/
import Derived.Test.YtfcljanechlmkaaYn
namespace Go.Proofs.Ytfcljanechlmkaa
open Go.ChangeShapes Go.WideShapes Go.ChangeAt Go.RowKit Go.Joins

/-- The first k numbers are the same. -/
def smN (xs ys : List Int) : Nat → Bool
  | 0 => true
  | k + 1 => smN xs ys k && decide (xs.getD k 0 = ys.getD k 0)

def smB (xs ys : List Int) : Bool := decide (xs.length = ys.length) && smN xs ys xs.length

theorem smN_no {xs ys : List Int} {j : Nat} (h : xs.getD j 0 ≠ ys.getD j 0) : ∀ n, j < n → smN xs ys n = false
  | 0, hn => by omega
  | n + 1, hn => by
    rw [smN]
    by_cases e : j = n
    · subst e; rw [decide_eq_false h, Bool.and_false]
    · rw [smN_no h n (by omega), Bool.false_and]

theorem smN_at {xs ys : List Int} : ∀ n, smN xs ys n = true → ∀ j, j < n → xs.getD j 0 = ys.getD j 0
  | 0, _, j, hj => by omega
  | n + 1, h, j, hj => by
    rw [smN, Bool.and_eq_true, decide_eq_true_eq] at h
    by_cases e : j = n
    · subst e; exact h.2
    · exact smN_at n h.1 j (by omega)

theorem sm_eq {xs ys : List Int} (h : smB xs ys = true) : xs = ys := by
  unfold smB at h
  rw [Bool.and_eq_true, decide_eq_true_eq] at h
  exact ext_at h.1 (smN_at _ h.2)

theorem l1Same_any (A1 A2 : Option Addr) (n1 c1 n2 c2 : Nat) (xs ys : List Int) (w : World) (hm1 : n1 ≤ 1048576) (hm2 : n2 ≤ 1048576) (h1 : IntsA w A1 n1 xs) (h2 : IntsA w A2 n2 ys) :
    Calls Try.prog 74 #[.slice A1 n1 c1, .slice A2 n2 c2] w fun e w' => e = .returned (.bool (smB xs ys)) ∧ Below w.heap.size w w' := by
  have HL1 := Lib.hid h1.len
  have HL2 := Lib.hid h2.len
  have HA1 := Lib.hid h1
  have HA2 := Lib.hid h2
  clear h1 h2
  by_cases hn : n1 = n2
  · subst hn
    have HB : Hid (smB xs ys = smN xs ys n1) := Lib.hid (by unfold smB; rw [HL1.out, HL2.out, decide_eq_true rfl]; rfl)
    go_enter Try.func74, Try.ntmps74
    go_wp2_with fail
    go_loopw [13] (fun i wr => ∃ k : Nat, k ≤ n1 ∧ i = .int .i64 k ∧ smN xs ys k = true ∧ Below w.heap.size w wr) (fun i _ => n1 - (intOf i).toNat)
    case atStart => exact ⟨0, by omega, rfl, rfl, Below.refl _ _⟩
    case round =>
      obtain ⟨k, hk, rfl, hN, hB⟩ := hrel
      have HN := Lib.hid hN
      have HBr := Lib.hid hB
      clear hN hB
      by_cases hlt : k < n1
      · obtain ⟨b1, o1, rfl, hb1, hc1⟩ := (HA1.out.below HBr.out).at_.resolve_left (by omega)
        obtain ⟨b2, o2, rfl, hb2, hc2⟩ := (HA2.out.below HBr.out).at_.resolve_left (by omega)
        have p1 := hc1 k hlt
        have p2 := hc2 k hlt
        have HS : Hid (smN xs ys (k + 1) = (smN xs ys k && decide (xs.getD k 0 = ys.getD k 0))) := Lib.hid rfl
        have HNO := Lib.hid (fun h => smN_no (xs := xs) (ys := ys) (j := k) h n1 hlt)
        generalize xs.getD k 0 = x at p1 HS HNO
        generalize ys.getD k 0 = y at p2 HS HNO
        clear hc1 hc2
        by_cases hxy : x = y
        · have HX : Hid (smN xs ys (k + 1) = true) := Lib.hid (by rw [HS.out, HN.out, decide_eq_true hxy]; rfl)
          subst hxy
          go_wp2_with fail
          go_region
          all_goals
            go_wp2_with fail
            go_roundw
            case rel => exact ⟨k + 1, by omega, by go_num, HX.out, bel_drew HBr.out⟩
            case measure => simp [intOf]; omega
        · have HX : Hid (smB xs ys = false) := Lib.hid (by rw [HB.out]; exact HNO.out hxy)
          go_wp2_with fail
          go_region
          all_goals
            go_wp2_with fail
            go_ret
            exact ⟨ret_bool HX.out.symm, bel_drew HBr.out⟩
      · obtain rfl : k = n1 := by omega
        go_wp2_with fail
        go_ret
        exact ⟨ret_bool (by rw [HB.out, HN.out]), HBr.out⟩
  · have HX : Hid (smB xs ys = false) := Lib.hid (by unfold smB; rw [HL1.out, HL2.out, decide_eq_false hn]; rfl)
    have hni : ¬ (n1 : Int) = (n2 : Int) := by omega
    go_enter Try.func74, Try.ntmps74
    go_wp2_with fail
    go_ret
    exact ⟨ret_bool HX.out.symm, Below.refl _ _⟩

theorem equalI_any (A1 A2 : Option Addr) (n1 c1 n2 c2 : Nat) (xs ys : List Int) (w : World) (hm1 : n1 ≤ 1048576) (hm2 : n2 ≤ 1048576) (h1 : IntsA w A1 n1 xs) (h2 : IntsA w A2 n2 ys) :
    Calls Try.prog 75 #[.slice A1 n1 c1, .slice A2 n2 c2] w fun e w' => e = .returned (.bool (smB xs ys)) ∧ Below w.heap.size w w' := by
  have HL1 := Lib.hid h1.len
  have HL2 := Lib.hid h2.len
  have HA1 := Lib.hid h1
  have HA2 := Lib.hid h2
  clear h1 h2
  by_cases hn : n1 = n2
  · subst hn
    have HB : Hid (smB xs ys = smN xs ys n1) := Lib.hid (by unfold smB; rw [HL1.out, HL2.out, decide_eq_true rfl]; rfl)
    go_enter Try.func75, Try.ntmps75
    go_wp2_with fail
    go_loopw [13] (fun i wr => ∃ k : Nat, k ≤ n1 ∧ i = .int .i64 k ∧ smN xs ys k = true ∧ Below w.heap.size w wr) (fun i _ => n1 - (intOf i).toNat)
    case atStart => exact ⟨0, by omega, rfl, rfl, Below.refl _ _⟩
    case round =>
      obtain ⟨k, hk, rfl, hN, hB⟩ := hrel
      have HN := Lib.hid hN
      have HBr := Lib.hid hB
      clear hN hB
      by_cases hlt : k < n1
      · obtain ⟨b1, o1, rfl, hb1, hc1⟩ := (HA1.out.below HBr.out).at_.resolve_left (by omega)
        obtain ⟨b2, o2, rfl, hb2, hc2⟩ := (HA2.out.below HBr.out).at_.resolve_left (by omega)
        have p1 := hc1 k hlt
        have p2 := hc2 k hlt
        have HS : Hid (smN xs ys (k + 1) = (smN xs ys k && decide (xs.getD k 0 = ys.getD k 0))) := Lib.hid rfl
        have HNO := Lib.hid (fun h => smN_no (xs := xs) (ys := ys) (j := k) h n1 hlt)
        generalize xs.getD k 0 = x at p1 HS HNO
        generalize ys.getD k 0 = y at p2 HS HNO
        clear hc1 hc2
        by_cases hxy : x = y
        · have HX : Hid (smN xs ys (k + 1) = true) := Lib.hid (by rw [HS.out, HN.out, decide_eq_true hxy]; rfl)
          subst hxy
          go_wp2_with fail
          go_region
          all_goals
            go_wp2_with fail
            go_roundw
            case rel => exact ⟨k + 1, by omega, by go_num, HX.out, bel_drew HBr.out⟩
            case measure => simp [intOf]; omega
        · have HX : Hid (smB xs ys = false) := Lib.hid (by rw [HB.out]; exact HNO.out hxy)
          go_wp2_with fail
          go_region
          all_goals
            go_wp2_with fail
            go_ret
            exact ⟨ret_bool HX.out.symm, bel_drew HBr.out⟩
      · obtain rfl : k = n1 := by omega
        go_wp2_with fail
        go_ret
        exact ⟨ret_bool (by rw [HB.out, HN.out]), HBr.out⟩
  · have HX : Hid (smB xs ys = false) := Lib.hid (by unfold smB; rw [HL1.out, HL2.out, decide_eq_false hn]; rfl)
    have hni : ¬ (n1 : Int) = (n2 : Int) := by omega
    go_enter Try.func75, Try.ntmps75
    go_wp2_with fail
    go_ret
    exact ⟨ret_bool HX.out.symm, Below.refl _ _⟩

/-- Whether it is told whether steps are the opening turns of a code, and whether they are. -/
def ioB (m s : Int) (xs ys : List Int) : Bool := dcB m s xs && stepsB ys

def ioZ (m s : Int) (xs ys : List Int) : Bool := ioB m s xs ys && smB (opL m s xs xs.length xs.length) ys

theorem specIsOpening_any (m s : Int) (A1 A2 : Option Addr) (n1 c1 n2 c2 : Nat) (xs ys : List Int) (w : World) (hm : -9223372036854775808 ≤ m ∧ m ≤ 9223372036854775807) (hm1 : n1 ≤ 1048576) (hm2 : n2 ≤ 1048576) (h1 : IntsA w A1 n1 xs) (h2 : IntsA w A2 n2 ys) :
    Calls Try.prog 33 #[.int .i64 m, .int .i64 s, .slice A1 n1 c1, .slice A2 n2 c2] w fun e w' => e = .returned (.tuple #[.bool (ioZ m s xs ys), .bool (ioB m s xs ys)]) ∧ Below w.heap.size w w' := by
  have HL1 := Lib.hid h1.len
  have HA1 := Lib.hid h1
  have HA2 := Lib.hid h2
  clear h1 h2
  obtain ⟨u, hu⟩ : ∃ u, dmB m s = u := ⟨_, rfl⟩
  obtain ⟨v, hv⟩ : ∃ v, codeB m xs = v := ⟨_, rfl⟩
  obtain ⟨y, hy⟩ : ∃ y, stepsB ys = y := ⟨_, rfl⟩
  have HU := Lib.hid hu
  have HV := Lib.hid hv
  have HY := Lib.hid hy
  have HB : Hid (ioB m s xs ys = ((u && v) && y)) := Lib.hid (by unfold ioB dcB; rw [hu, hv, hy])
  have HZ : Hid (ioZ m s xs ys = (((u && v) && y) && smB (opL m s xs n1 n1) ys)) := Lib.hid (by unfold ioZ; rw [HB.out, HL1.out])
  rcases u with _ | _
  · go_enter Try.func33, Try.ntmps33
    go_wp2_with (go_at_call 55; refine (diAsked_any _ _ _ hm).mono ?_; rw [HU.out]; rintro e wq ⟨rfl, hwq⟩; replace hwq := hwq.symm; subst hwq)
    go_ret2
    rw [HZ.out, HB.out]
    exact ⟨rfl, Below.refl _ _⟩
  obtain ⟨m2, m1, _, _⟩ := dm_yes hu
  have HM : Hid (marksB m = true) := Lib.hid (decide_eq_true ⟨m2, m1⟩)
  clear hm
  rcases v with _ | _
  · go_enter Try.func33, Try.ntmps33
    go_wp2_with (first | (go_at_call 55; refine (diAsked_any _ _ _ (by omega)).mono ?_; rw [HU.out]; rintro e wq ⟨rfl, hwq⟩; replace hwq := hwq.symm; subst hwq) | (go_at_call 70; refine (diCode_any _ _ _ _ xs _ hm1 HM.out HA1.out).mono ?_; rw [HV.out]; rintro e wq ⟨rfl, hwq⟩; replace hwq := hwq.symm; subst hwq))
    go_ret2
    rw [HZ.out, HB.out]
    exact ⟨rfl, Below.refl _ _⟩
  rcases y with _ | _
  · go_enter Try.func33, Try.ntmps33
    go_wp2_with (first | (go_at_call 55; refine (diAsked_any _ _ _ (by omega)).mono ?_; rw [HU.out]; rintro e wq ⟨rfl, hwq⟩; replace hwq := hwq.symm; subst hwq) | (go_at_call 70; refine (diCode_any _ _ _ _ xs _ hm1 HM.out HA1.out).mono ?_; rw [HV.out]; rintro e wq ⟨rfl, hwq⟩; replace hwq := hwq.symm; subst hwq) | (go_at_call 56; refine (diSteps_any _ _ _ ys _ hm2 HA2.out).mono ?_; rw [HY.out]; rintro e wq ⟨rfl, hwq⟩; replace hwq := hwq.symm; subst hwq))
    go_ret2
    rw [HZ.out, HB.out]
    exact ⟨rfl, Below.refl _ _⟩
  have HOL := Lib.hid (opL_length m s xs n1 n1)
  obtain ⟨L, hL⟩ : ∃ L, opL m s xs n1 n1 = L := ⟨_, rfl⟩
  have HLE := Lib.hid hL
  rw [hL] at HOL HZ
  clear hL
  go_enter Try.func33, Try.ntmps33
  go_wp2_with (first | (go_at_call 55; refine (diAsked_any _ _ _ (by omega)).mono ?_; rw [HU.out]; rintro e wq ⟨rfl, hwq⟩; replace hwq := hwq.symm; subst hwq) | (go_at_call 70; refine (diCode_any _ _ _ _ xs _ hm1 HM.out HA1.out).mono ?_; rw [HV.out]; rintro e wq ⟨rfl, hwq⟩; replace hwq := hwq.symm; subst hwq) | (go_at_call 56; refine (diSteps_any _ _ _ ys _ hm2 HA2.out).mono ?_; rw [HY.out]; rintro e wq ⟨rfl, hwq⟩; replace hwq := hwq.symm; subst hwq) | (go_at_call 71; refine (diOpen_any _ _ _ _ _ xs _ hm1 HU.out HV.out HA1.out).mono ?_; rw [HLE.out]; rintro e w2 ⟨A3, c3, rfl, hL2, hb2⟩; rw [HOL.out]; have HI2 := Lib.hid (hL2.ints_n HOL.out); have HB2 := Lib.hid hb2; clear hL2 hb2) | (go_at_call 74; refine (l1Same_any _ _ _ _ _ _ L ys _ hm1 hm2 HI2.out (HA2.out.below HB2.out)).mono ?_; rintro e w3 ⟨rfl, hb3⟩))
  go_ret2
  rw [HZ.out, HB.out]
  exact ⟨rfl, bel_call HB2.out hb3⟩

theorem opB_of {m s : Int} {xs ys : List Int} (hd : dcB m s xs = true) (hy : stepsB ys = true) : (opB m s xs && smB (opZ m s xs) ys) = smB (opL m s xs xs.length xs.length) ys := by
  rcases h : stepsB (opL m s xs xs.length xs.length) with _ | _
  · have h1 : opB m s xs = false := by unfold opB; rw [h, Bool.and_false]
    rw [h1, Bool.false_and]
    rcases h2 : smB (opL m s xs xs.length xs.length) ys with _ | _
    · rfl
    · rw [sm_eq h2, hy] at h
      cases h
  · have h1 : opB m s xs = true := by unfold opB; rw [h, hd]; rfl
    have h3 : opZ m s xs = opL m s xs xs.length xs.length := by unfold opZ; rw [h1]; rfl
    rw [h1, h3, Bool.true_and]

theorem isOpening_any (m s : Int) (A1 A2 : Option Addr) (n1 c1 n2 c2 : Nat) (xs ys : List Int) (w : World) (hm1 : n1 ≤ 1048576) (hm2 : n2 ≤ 1048576) (h1 : IntsA w A1 n1 xs) (h2 : IntsA w A2 n2 ys) :
    Calls Try.prog 34 #[.int .i64 m, .int .i64 s, .slice A1 n1 c1, .slice A2 n2 c2] w fun e w' => e = .returned (.tuple #[.bool (ioZ m s xs ys), .bool (ioB m s xs ys)]) ∧ Below w.heap.size w w' := by
  have HA1 := Lib.hid h1
  have HA2 := Lib.hid h2
  clear h1 h2
  obtain ⟨u, hu⟩ : ∃ u, dmB m s = u := ⟨_, rfl⟩
  obtain ⟨v, hv⟩ : ∃ v, codeB m xs = v := ⟨_, rfl⟩
  obtain ⟨y, hy⟩ : ∃ y, stepsB ys = y := ⟨_, rfl⟩
  have HU := Lib.hid hu
  have HV := Lib.hid hv
  have HY := Lib.hid hy
  have HB : Hid (ioB m s xs ys = ((u && v) && y)) := Lib.hid (by unfold ioB dcB; rw [hu, hv, hy])
  have HZ : Hid (ioZ m s xs ys = (((u && v) && y) && smB (opL m s xs xs.length xs.length) ys)) := Lib.hid (by unfold ioZ; rw [HB.out])
  have V1 := Lib.hid (isValid_any m s w)
  rcases u with _ | _
  · go_enter Try.func34, Try.ntmps34
    go_wp2_with (go_at_call 58; refine (isValid_any _ _ _).mono ?_; rw [HU.out]; rintro e w1 ⟨rfl, hb1⟩)
    go_ret2
    rw [HZ.out, HB.out]
    exact ⟨rfl, hb1⟩
  rcases v with _ | _
  · go_enter Try.func34, Try.ntmps34
    go_wp2_with (first | (go_at_call 58; refine (isValid_any _ _ _).mono ?_; rw [HU.out]; rintro e w1 ⟨rfl, hb1⟩; have HB1 := Lib.hid hb1; have HX1 := Lib.hid (HA1.out.below hb1)) | (go_at_call 72; refine (isDialCode_any _ _ _ _ xs _ hm1 HX1.out).mono ?_; rw [HV.out]; rintro e w2 ⟨rfl, hb2⟩; have HB2 := Lib.hid (bel_call HB1.out hb2)))
    go_ret2
    rw [HZ.out, HB.out]
    exact ⟨rfl, HB2.out⟩
  rcases y with _ | _
  · go_enter Try.func34, Try.ntmps34
    go_wp2_with (first | (go_at_call 58; refine (isValid_any _ _ _).mono ?_; rw [HU.out]; rintro e w1 ⟨rfl, hb1⟩; have HB1 := Lib.hid hb1; have HX1 := Lib.hid (HA1.out.below hb1)) | (go_at_call 72; refine (isDialCode_any _ _ _ _ xs _ hm1 HX1.out).mono ?_; rw [HV.out]; rintro e w2 ⟨rfl, hb2⟩; have HB2 := Lib.hid (bel_call HB1.out hb2)) | (go_at_call 59; refine (areSteps_any _ _ _ ys _ hm2 (HA2.out.below HB2.out)).mono ?_; rw [HY.out]; rintro e wq ⟨rfl, hwq⟩; replace hwq := hwq.symm; subst hwq))
    go_ret2
    rw [HZ.out, HB.out]
    exact ⟨rfl, HB2.out⟩
  have hd : dcB m s xs = true := by unfold dcB; rw [hu, hv]; rfl
  have HQ : Hid (ioZ m s xs ys = (opB m s xs && smB (opZ m s xs) ys)) := Lib.hid (by rw [HZ.out, opB_of hd hy]; rfl)
  obtain ⟨q, hq⟩ : ∃ q, opB m s xs = q := ⟨_, rfl⟩
  obtain ⟨L, hL⟩ : ∃ L, opZ m s xs = L := ⟨_, rfl⟩
  have HQB := Lib.hid hq
  have HLE := Lib.hid hL
  have hl12 := steps_len (opZ_steps m s xs)
  rw [hL] at hl12
  rw [hq, hL] at HQ
  clear hd hq hL hu hv hy
  obtain ⟨N, hN⟩ : ∃ N, L.length = N := ⟨_, rfl⟩
  have HN := Lib.hid hN
  rw [hN] at hl12
  clear hN
  rcases q with _ | _
  all_goals
    go_enter Try.func34, Try.ntmps34
    go_wp2_with (first | (go_at_call 58; refine (isValid_any _ _ _).mono ?_; rw [HU.out]; rintro e w1 ⟨rfl, hb1⟩; have HB1 := Lib.hid hb1; have HX1 := Lib.hid (HA1.out.below hb1)) | (go_at_call 72; refine (isDialCode_any _ _ _ _ xs _ hm1 HX1.out).mono ?_; rw [HV.out]; rintro e w2 ⟨rfl, hb2⟩; have HB2 := Lib.hid (bel_call HB1.out hb2)) | (go_at_call 59; refine (areSteps_any _ _ _ ys _ hm2 (HA2.out.below HB2.out)).mono ?_; rw [HY.out]; rintro e wq ⟨rfl, hwq⟩; replace hwq := hwq.symm; subst hwq) | (go_at_call 28; refine (opening_any _ _ _ _ _ xs _ hm1 (HA1.out.below HB2.out)).mono ?_; rw [HQB.out, HLE.out]; rintro e w3 ⟨A3, c3, rfl, hL3, hb3⟩; rw [HN.out]; have HI3 := Lib.hid (hL3.ints_n HN.out); have HB3 := Lib.hid (bel_call HB2.out hb3); clear hL3 hb3) | (go_at_call 75; refine (equalI_any _ _ _ _ _ _ L ys _ (by omega) hm2 HI3.out (HA2.out.below HB3.out)).mono ?_; rintro e w4 ⟨rfl, hb4⟩; have HB4 := Lib.hid (bel_call HB3.out hb4); clear hb4))
    go_ret2
    rw [HQ.out, HB.out]
    first | exact ⟨rfl, HB4.out⟩ | exact ⟨rfl, HB3.out⟩

end Go.Proofs.Ytfcljanechlmkaa
