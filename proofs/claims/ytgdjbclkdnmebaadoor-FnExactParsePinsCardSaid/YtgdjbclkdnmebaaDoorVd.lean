/- Which pins there are, as the program and the model ask it. For at most 1048576 numbers. -/
import Derived.Test.YtgdjbclkdnmebaaDoorVc
namespace Go.Proofs.YtgdjbclkdnmebaaDoor
open Go.ChangeShapes Go.WideShapes Go.ChangeAt Go.RowKit Go.Joins

theorem rise_drop {d x : Int} {xs : List Int} {k : Nat} (h : k < xs.length) : riseB d x (xs.drop k) = (decide (x ≤ xs.getD k 0 ∧ xs.getD k 0 < d) && riseB d (xs.getD k 0 + 1) (xs.drop (k + 1))) := by
  rw [List.drop_eq_getElem_cons h]
  show (decide _ && riseB d _ _) = _
  simp only [List.getD, List.getElem?_eq_getElem h, Option.getD_some]

theorem hasDepths_any (d : Int) (A0 : Option Addr) (n0 c0 : Nat) (A : Option Addr) (n c : Nat) (xs : List Int) (w : World) (hm : n ≤ 1048576) (hd : d ≤ 9) (hA : IntsA w A n xs) :
    Calls Tryd.prog 64 #[.agg #[.int .i64 d, .slice A0 n0 c0], .slice A n c] w fun e w' => e = .returned (.bool (depB d xs)) ∧ Below w.heap.size w w' := by
  have HL := Lib.hid hA.len
  have HA := Lib.hid hA
  clear hA
  have HB1 := Lib.hid (show Below w.heap.size w (w.alloc (.cells #[.int .i64 d, .slice A0 n0 c0] 28)) from (Below.refl _ _).alloc (Nat.le_refl _) _)
  have l0 : (w.alloc (.cells #[.int .i64 d, .slice A0 n0 c0] 28)).cell? ⟨w.heap.size, 0, none⟩ = some (.int .i64 d) := (Cells.new (n := 2) rfl rfl).cell (show 0 < 2 by omega)
  go_enter Tryd.func64, Tryd.ntmps64
  go_wp2_with fail
  go_loop [5, 10] (fun r i => ∃ (k : Nat) (x : Int), k ≤ n ∧ i = .int .i64 k ∧ r = .int .i64 x ∧ 0 ≤ x ∧ x ≤ 9 ∧ riseB d 0 xs = riseB d x (xs.drop k)) (fun _ i => n - (intOf i).toNat)
  case atStart => exact ⟨0, 0, by omega, rfl, rfl, by omega, by omega, rfl⟩
  case round =>
    obtain ⟨k, x, hk, rfl, rfl, hx0, hx9, hr⟩ := hrel
    have HR := Lib.hid hr
    clear hr
    by_cases hlt : k < n
    · obtain ⟨b, off, rfl, hb, hc⟩ := (HA.out.below HB1.out).at_.resolve_left (by omega)
      have o1 := hc k hlt
      have HD := Lib.hid (rise_drop (d := d) (x := x) (xs := xs) (k := k) (by rw [HL.out]; exact hlt))
      generalize xs.getD k 0 = y at o1 HD
      clear hc
      by_cases h1 : y < x
      · go_wp2_with fail
        go_ret
        refine ⟨ret_bool ?_, HB1.out⟩
        unfold depB
        rw [HR.out, HD.out, decide_eq_false (show ¬ (x ≤ y ∧ y < d) by omega), Bool.false_and, Bool.and_false]
      · by_cases h2 : d ≤ y
        · go_wp2_with fail
          go_ret
          refine ⟨ret_bool ?_, HB1.out⟩
          unfold depB
          rw [HR.out, HD.out, decide_eq_false (show ¬ (x ≤ y ∧ y < d) by omega), Bool.false_and, Bool.and_false]
        · go_wp2_with fail
          go_round
          case rel => exact ⟨k + 1, y + 1, by omega, by go_num, rfl, by omega, by omega, by rw [HR.out, HD.out, decide_eq_true (by omega), Bool.true_and]⟩
          case measure => simp [intOf]; omega
    · obtain rfl : k = n := by omega
      go_wp2_with fail
      go_ret
      refine ⟨ret_bool ?_, HB1.out⟩
      unfold depB
      rw [HR.out, List.drop_of_length_le (by rw [HL.out]; exact Nat.le_refl _), HL.out]
      show _ = (decide _ && true)
      rw [Bool.and_true]
      by_cases h0 : k = 0
      · rw [decide_eq_false (by omega), decide_eq_false (by omega)]
      · rw [decide_eq_true (by omega), decide_eq_true (by omega)]

theorem l1Rising_any (d : Int) (A : Option Addr) (n c : Nat) (xs : List Int) (w : World) (hm : n ≤ 1048576) (hA : IntsA w A n xs) :
    Calls Tryd.prog 58 #[.slice A n c, .int .i64 0, .int .i64 (d - 1)] w fun e w' => e = .returned (.bool (riseB d 0 xs)) ∧ w' = w := by
  have HL := Lib.hid hA.len
  have HA := Lib.hid hA
  clear hA
  go_enter Tryd.func58, Tryd.ntmps58
  go_wp2_with fail
  go_loop [11] (fun i => ∃ k : Nat, k ≤ n ∧ i = .int .i64 k ∧ riseB d 0 xs = riseB d (if k = 0 then 0 else xs.getD (k - 1) 0 + 1) (xs.drop k) ∧ (0 < k → 0 ≤ xs.getD (k - 1) 0)) (fun i => n - (intOf i).toNat)
  case atStart => exact ⟨0, by omega, rfl, rfl, fun h => by omega⟩
  case round =>
    obtain ⟨k, hk, rfl, hr, hp⟩ := hrel
    have HR := Lib.hid hr
    clear hr
    by_cases hlt : k < n
    · obtain ⟨b, off, rfl, hb, hc⟩ := HA.out.at_.resolve_left (by omega)
      have o1 := hc k hlt
      have HD := Lib.hid (fun x => rise_drop (d := d) (x := x) (xs := xs) (k := k) (by rw [HL.out]; exact hlt))
      by_cases hk0 : k = 0
      · subst hk0
        clear hc hp
        rw [Nat.add_zero] at o1
        obtain ⟨y, hy⟩ : ∃ y, xs.getD 0 0 = y := ⟨_, rfl⟩
        have HY := Lib.hid hy
        rw [hy] at o1
        have HE : Hid (riseB d 0 xs = (decide (0 ≤ y ∧ y < d) && riseB d (y + 1) (xs.drop 1))) := Lib.hid (by
          have h := HR.out
          rw [if_pos rfl, HD.out 0, hy] at h
          exact h)
        clear HR HD hy
        obtain ⟨v, HV⟩ : ∃ v, Hid (inB y 0 (d - 1) = v) := ⟨_, Lib.hid rfl⟩
        rcases v with _ | _
        · go_wp2_with (go_at_call 57; refine (l1In_any _ _ _ _).mono ?_; rw [HV.out]; rintro e w3 ⟨rfl, rfl⟩)
          go_ret
          refine ⟨ret_bool ?_, rfl⟩
          have := of_decide_eq_false HV.out
          rw [HE.out, decide_eq_false (by omega), Bool.false_and]
        · go_wp2_with (go_at_call 57; refine (l1In_any _ _ _ _).mono ?_; rw [HV.out]; rintro e w3 ⟨rfl, rfl⟩)
          go_round
          case rel =>
            have := of_decide_eq_true HV.out
            exact ⟨1, by omega, by go_num, by rw [HE.out, decide_eq_true (by omega), Bool.true_and, if_neg (by omega), HY.out], fun _ => by rw [HY.out]; omega⟩
          case measure => simp [intOf]; omega
      · have hp0 := hp (by omega)
        obtain ⟨q, rfl⟩ : ∃ q, k = q + 1 := ⟨k - 1, by omega⟩
        have hp0 : 0 ≤ xs.getD q 0 := hp0
        have o2 := hc q (by omega)
        have HR : Hid (riseB d 0 xs = riseB d (xs.getD q 0 + 1) (xs.drop (q + 1))) := Lib.hid (by rw [HR.out, if_neg (by omega)]; rfl)
        clear hc hp
        obtain ⟨y, hy⟩ : ∃ y, xs.getD (q + 1) 0 = y := ⟨_, rfl⟩
        have HS := Lib.hid hy
        rw [hy] at o1 HD
        clear hy
        generalize xs.getD q 0 = z at o2 HR hp0
        obtain ⟨v, HV⟩ : ∃ v, Hid (inB y 0 (d - 1) = v) := ⟨_, Lib.hid rfl⟩
        rcases v with _ | _
        · go_wp2_with (go_at_call 57; refine (l1In_any _ _ _ _).mono ?_; rw [HV.out]; rintro e w3 ⟨rfl, rfl⟩)
          go_ret
          refine ⟨ret_bool ?_, rfl⟩
          rw [HR.out, HD.out]
          have := of_decide_eq_false HV.out
          rw [decide_eq_false (by omega), Bool.false_and]
        · by_cases hz : y ≤ z
          · go_wp2_with (go_at_call 57; refine (l1In_any _ _ _ _).mono ?_; rw [HV.out]; rintro e w3 ⟨rfl, rfl⟩)
            go_ret
            refine ⟨ret_bool ?_, rfl⟩
            rw [HR.out, HD.out, decide_eq_false (by omega), Bool.false_and]
          · go_wp2_with (go_at_call 57; refine (l1In_any _ _ _ _).mono ?_; rw [HV.out]; rintro e w3 ⟨rfl, rfl⟩)
            go_round
            case rel =>
              have := of_decide_eq_true HV.out
              exact ⟨q + 1 + 1, by omega, by go_num, by rw [HR.out, HD.out, decide_eq_true (by omega), Bool.true_and, if_neg (by omega)]; show _ = riseB d (xs.getD (q + 1) 0 + 1) _; rw [HS.out], fun _ => by show 0 ≤ xs.getD (q + 1) 0; rw [HS.out]; omega⟩
            case measure => simp [intOf]; omega
    · obtain rfl : k = n := by omega
      go_wp2_with fail
      go_ret
      refine ⟨ret_bool ?_, rfl⟩
      rw [HR.out, List.drop_of_length_le (by rw [HL.out]; exact Nat.le_refl _)]
      rfl

end Go.Proofs.YtgdjbclkdnmebaaDoor
