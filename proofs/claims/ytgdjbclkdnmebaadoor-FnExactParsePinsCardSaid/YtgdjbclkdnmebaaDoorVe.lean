/- Which pins there are: the program's and the model's answer. For at most 1048576 numbers. -/
import Derived.Test.YtgdjbclkdnmebaaDoorVd
namespace Go.Proofs.YtgdjbclkdnmebaaDoor
open Go.ChangeShapes Go.WideShapes Go.ChangeAt Go.RowKit Go.Joins

theorem areDepths_any (n : Int) (w : World) :
    Calls Tryd.prog 62 #[.int .i64 n] w fun e w' => e = .returned (.bool (inB n 1 9)) ∧ w' = w := by
  go_enter Tryd.func62, Tryd.ntmps62
  go_wp2
  all_goals go_ret
  all_goals refine ⟨ret_bool ?_, rfl⟩
  all_goals (unfold inB; rw [Bool.eq_iff_iff]; simp; try omega)

theorem arePlaces_any (n : Int) (w : World) :
    Calls Tryd.prog 63 #[.int .i64 n] w fun e w' => e = .returned (.bool (inB n 1 7)) ∧ w' = w := by
  go_enter Tryd.func63, Tryd.ntmps63
  go_wp2
  all_goals go_ret
  all_goals refine ⟨ret_bool ?_, rfl⟩
  all_goals (unfold inB; rw [Bool.eq_iff_iff]; simp; try omega)

theorem pinsB_no1 {d : Int} {ks : List (List Int)} (h : inB d 1 9 = false) : pinsB d ks = false := by unfold pinsB; rw [h]; rfl

theorem pinsB_no2 {d : Int} {ks : List (List Int)} (h : inB (ks.length : Int) 1 7 = false) : pinsB d ks = false := by unfold pinsB; rw [h, Bool.and_false]; rfl

set_option maxHeartbeats 2000000 in
theorem keGood_any (d : Int) (A : Option Addr) (n c : Nat) (ks : List (List Int)) (w : World) (hm : n + lensAt ks n ≤ 1048576) (hA : KnobsA w A n ks) :
    Calls Tryd.prog 26 #[.agg #[.int .i64 d, .slice A n c]] w fun e w' => e = .returned (.bool (pinsB d ks)) ∧ Below w.heap.size w w' := by
  have HLN := Lib.hid (show ∀ k, k < n → (ks.getD k []).length ≤ 1048576 from fun k hk => by have := lensAt_one (ks := ks) hk; omega)
  have HN := Lib.hid hA.len
  have hm2 : n ≤ 1048576 := by omega
  have CU := Cells.new (W := w) (cs := #[.int .i64 d, .slice A n c]) (t := 28) (g := w.heap.size) (n := 2) rfl rfl
  have hB0 : Below w.heap.size w (w.alloc (.cells #[.int .i64 d, .slice A n c] 28)) := (Below.refl _ _).alloc (Nat.le_refl _) _
  have HA := Lib.hid (hA.below hB0)
  have HB0 := Lib.hid hB0
  have l0 : (w.alloc (.cells #[.int .i64 d, .slice A n c] 28)).cell? ⟨w.heap.size, 0, none⟩ = some (.int .i64 d) := CU.cell (show 0 < 2 by omega)
  have l1 : (w.alloc (.cells #[.int .i64 d, .slice A n c] 28)).cell? ⟨w.heap.size, 1, none⟩ = some (.slice A n c) := CU.cell (show 1 < 2 by omega)
  clear hA hm hB0 CU
  obtain ⟨v1, HV1⟩ : ∃ v, Hid (inB d 1 9 = v) := ⟨_, Lib.hid rfl⟩
  obtain ⟨v2, HV2⟩ : ∃ v, Hid (inB (n : Int) 1 7 = v) := ⟨_, Lib.hid rfl⟩
  rcases v1 with _ | _
  · go_enter Tryd.func26, Tryd.ntmps26
    go_wp2_with (go_at_call 57; refine (l1In_any _ _ _ _).mono ?_; rw [HV1.out]; rintro e w3 ⟨rfl, rfl⟩)
    go_ret
    exact ⟨ret_bool (pinsB_no1 HV1.out).symm, HB0.out⟩
  · rcases v2 with _ | _
    · go_enter Tryd.func26, Tryd.ntmps26
      go_wp2_with (first
        | (go_at_call_of 57 d; refine (l1In_any _ _ _ _).mono ?_; rw [HV1.out]; rintro e w3 ⟨rfl, rfl⟩)
        | (go_at_call 57; refine (l1In_any _ _ _ _).mono ?_; rw [HV2.out]; rintro e w4 ⟨rfl, rfl⟩))
      go_ret
      exact ⟨ret_bool (pinsB_no2 (by rw [HN.out]; exact HV2.out)).symm, HB0.out⟩
    · have hd := of_decide_eq_true HV1.out
      go_enter Tryd.func26, Tryd.ntmps26
      go_wp2_with (first
        | (go_at_call_of 57 d; refine (l1In_any _ _ _ _).mono ?_; rw [HV1.out]; rintro e w3 ⟨rfl, rfl⟩)
        | (go_at_call 57; refine (l1In_any _ _ _ _).mono ?_; rw [HV2.out]; rintro e w4 ⟨rfl, rfl⟩))
      go_loop [19] (fun i => ∃ k : Nat, k ≤ n ∧ i = .int .i64 k ∧ (ks.take k).all (depB d) = true) (fun i => n - (intOf i).toNat)
      case atStart => exact ⟨0, by omega, rfl, rfl⟩
      case round =>
        obtain ⟨k, hk, rfl, hall⟩ := hrel
        have HAL := Lib.hid hall
        clear hall
        by_cases hlt : k < n
        · obtain ⟨b, off, rfl, hb, hc⟩ := HA.out.at_.resolve_left (by omega)
          obtain ⟨Ak, ck, o1, _, hI⟩ := hc k hlt
          have HI := Lib.hid hI
          have hl := HLN.out k hlt
          have HDB : Hid (∀ v, depB d (ks.getD k []) = v → depB d (ks.getD k []) = v) := Lib.hid (fun v h => h)
          obtain ⟨xs, hxs⟩ : ∃ xs, ks.getD k [] = xs := ⟨_, rfl⟩
          have HXS := Lib.hid hxs
          rw [hxs] at o1 HI hl
          obtain ⟨m, hmm⟩ : ∃ m, xs.length = m := ⟨_, rfl⟩
          have HM := Lib.hid hmm
          rw [hmm] at o1 HI hl
          clear hc hI hxs hmm HDB
          by_cases hm0 : m = 0
          · subst hm0
            go_wp2_with fail
            go_ret
            exact ⟨ret_bool (by unfold pinsB; rw [lall_not (d := []) (p := depB d) (k := k) (by rw [HN.out]; exact hlt) (by rw [HXS.out]; unfold depB; rw [HM.out]; rfl), Bool.and_false]), HB0.out⟩
          · have hm0' : ((m : Int) == 0) = false := by simpa using hm0
            have HDM : Hid (depB d xs = riseB d 0 xs) := Lib.hid (by unfold depB; rw [HM.out, decide_eq_true hm0, Bool.true_and])
            obtain ⟨v, HV⟩ : ∃ v, Hid (riseB d 0 xs = v) := ⟨_, Lib.hid rfl⟩
            rcases v with _ | _
            · go_wp2_with (go_at_call 58; refine (l1Rising_any d _ _ _ xs _ hl HI.out).mono ?_; rw [HV.out]; rintro e w5 ⟨rfl, rfl⟩)
              go_ret
              exact ⟨ret_bool (by unfold pinsB; rw [lall_not (d := []) (p := depB d) (k := k) (by rw [HN.out]; exact hlt) (by rw [HXS.out, HDM.out]; exact HV.out), Bool.and_false]), HB0.out⟩
            · go_wp2_with (go_at_call 58; refine (l1Rising_any d _ _ _ xs _ hl HI.out).mono ?_; rw [HV.out]; rintro e w5 ⟨rfl, rfl⟩)
              go_round
              case rel => exact ⟨k + 1, by omega, by go_num, lall_snoc (d := []) (p := depB d) (by rw [HN.out]; exact hlt) HAL.out (by rw [HXS.out, HDM.out]; exact HV.out)⟩
              case measure => simp [intOf]; omega
        · obtain rfl : k = n := by omega
          go_wp2_with fail
          go_ret
          have h := HAL.out
          rw [List.take_of_length_le (by rw [HN.out]; exact Nat.le_refl _)] at h
          exact ⟨ret_bool (by unfold pinsB; rw [HN.out, HV1.out, HV2.out, h]; rfl), HB0.out⟩

set_option maxHeartbeats 2000000 in
theorem arePins_any (d : Int) (A : Option Addr) (n c : Nat) (ks : List (List Int)) (w : World) (hm : n + lensAt ks n ≤ 1048576) (hA : KnobsA w A n ks) :
    Calls Tryd.prog 29 #[.agg #[.int .i64 d, .slice A n c]] w fun e w' => e = .returned (.bool (pinsB d ks)) ∧ Below w.heap.size w w' := by
  have HLN := Lib.hid (show ∀ k, k < n → (ks.getD k []).length ≤ 1048576 from fun k hk => by have := lensAt_one (ks := ks) hk; omega)
  have HN := Lib.hid hA.len
  have hm2 : n ≤ 1048576 := by omega
  have CU := Cells.new (W := w) (cs := #[.int .i64 d, .slice A n c]) (t := 28) (g := w.heap.size) (n := 2) rfl rfl
  have hB0 : Below w.heap.size w (w.alloc (.cells #[.int .i64 d, .slice A n c] 28)) := (Below.refl _ _).alloc (Nat.le_refl _) _
  have HA := Lib.hid hA
  have HB0 := Lib.hid hB0
  have HC := Lib.hid CU
  have l0 : (w.alloc (.cells #[.int .i64 d, .slice A n c] 28)).cell? ⟨w.heap.size, 0, none⟩ = some (.int .i64 d) := CU.cell (show 0 < 2 by omega)
  have l1 : (w.alloc (.cells #[.int .i64 d, .slice A n c] 28)).cell? ⟨w.heap.size, 1, none⟩ = some (.slice A n c) := CU.cell (show 1 < 2 by omega)
  clear hA hm hB0 CU
  obtain ⟨v1, HV1⟩ : ∃ v, Hid (inB d 1 9 = v) := ⟨_, Lib.hid rfl⟩
  obtain ⟨v2, HV2⟩ : ∃ v, Hid (inB (n : Int) 1 7 = v) := ⟨_, Lib.hid rfl⟩
  rcases v1 with _ | _
  · go_enter Tryd.func29, Tryd.ntmps29
    go_wp2_with (go_at_call 62; refine (areDepths_any _ _).mono ?_; rw [HV1.out]; rintro e w3 ⟨rfl, rfl⟩)
    go_ret
    exact ⟨ret_bool (pinsB_no1 HV1.out).symm, HB0.out⟩
  · rcases v2 with _ | _
    · go_enter Tryd.func29, Tryd.ntmps29
      go_wp2_with (first
        | (go_at_call 62; refine (areDepths_any _ _).mono ?_; rw [HV1.out]; rintro e w3 ⟨rfl, rfl⟩)
        | (go_at_call 63; refine (arePlaces_any _ _).mono ?_; rw [HV2.out]; rintro e w4 ⟨rfl, rfl⟩))
      go_ret
      exact ⟨ret_bool (pinsB_no2 (by rw [HN.out]; exact HV2.out)).symm, HB0.out⟩
    · have hd := of_decide_eq_true HV1.out
      go_enter Tryd.func29, Tryd.ntmps29
      go_wp2_with (first
        | (go_at_call 62; refine (areDepths_any _ _).mono ?_; rw [HV1.out]; rintro e w3 ⟨rfl, rfl⟩)
        | (go_at_call 63; refine (arePlaces_any _ _).mono ?_; rw [HV2.out]; rintro e w4 ⟨rfl, rfl⟩))
      clear l0 l1
      go_loopw [19] (fun i wr => ∃ k : Nat, k ≤ n ∧ i = .int .i64 k ∧ (ks.take k).all (depB d) = true ∧ Cells wr w.heap.size 2 (fun j => (#[.int .i64 d, .slice A n c] : Array Value).toList.getD j undef) ∧ Below w.heap.size w wr) (fun i _ => n - (intOf i).toNat)
      case atStart => exact ⟨0, by omega, rfl, rfl, HC.out, HB0.out⟩
      case round =>
        obtain ⟨k, hk, rfl, hall, hC, hB⟩ := hrel
        have HAL := Lib.hid hall
        have HCr := Lib.hid hC
        have HB := Lib.hid hB
        clear hall hC hB
        by_cases hlt : k < n
        · obtain ⟨b, off, rfl, hb, hc⟩ := (HA.out.below HB.out).at_.resolve_left (by omega)
          obtain ⟨Ak, ck, o1, _, hI⟩ := hc k hlt
          have HI := Lib.hid hI
          have hl := HLN.out k hlt
          have l0 : wr.cell? ⟨w.heap.size, 0, none⟩ = some (.int .i64 d) := HCr.out.cell (show 0 < 2 by omega)
          have l1 : wr.cell? ⟨w.heap.size, 1, none⟩ = some (.slice (some ⟨b, off, none⟩) n c) := HCr.out.cell (show 1 < 2 by omega)
          obtain ⟨xs, hxs⟩ : ∃ xs, ks.getD k [] = xs := ⟨_, rfl⟩
          have HXS := Lib.hid hxs
          rw [hxs] at o1 HI hl
          obtain ⟨m, hmm⟩ : ∃ m, xs.length = m := ⟨_, rfl⟩
          have HM := Lib.hid hmm
          rw [hmm] at o1 HI hl
          clear hc hI hxs hmm
          obtain ⟨v, HV⟩ : ∃ v, Hid (depB d xs = v) := ⟨_, Lib.hid rfl⟩
          rcases v with _ | _
          · go_wp2_with (go_at_call 64; refine (hasDepths_any d _ _ _ _ _ _ xs _ hl hd.2 HI.out).mono ?_; rw [HV.out]; rintro e w5 ⟨rfl, hb5⟩)
            go_ret
            exact ⟨ret_bool (by unfold pinsB; rw [lall_not (d := []) (p := depB d) (k := k) (by rw [HN.out]; exact hlt) (by rw [HXS.out]; exact HV.out), Bool.and_false]), bel_call HB.out hb5⟩
          · go_wp2_with (go_at_call 64; refine (hasDepths_any d _ _ _ _ _ _ xs _ hl hd.2 HI.out).mono ?_; rw [HV.out]; rintro e w5 ⟨rfl, hb5⟩)
            have HB5 := Lib.hid (bel_call HB.out hb5)
            have HC5 := Lib.hid (HCr.out.call hb5)
            clear hb5
            go_roundw
            case rel => exact ⟨k + 1, by omega, by go_num, lall_snoc (d := []) (p := depB d) (by rw [HN.out]; exact hlt) HAL.out (by rw [HXS.out]; exact HV.out), HC5.out, HB5.out⟩
            case measure => simp [intOf]; omega
        · obtain rfl : k = n := by omega
          go_wp2_with fail
          go_ret
          have h := HAL.out
          rw [List.take_of_length_le (by rw [HN.out]; exact Nat.le_refl _)] at h
          exact ⟨ret_bool (by unfold pinsB; rw [HN.out, HV1.out, HV2.out, h]; rfl), HB.out⟩

end Go.Proofs.YtgdjbclkdnmebaaDoor
