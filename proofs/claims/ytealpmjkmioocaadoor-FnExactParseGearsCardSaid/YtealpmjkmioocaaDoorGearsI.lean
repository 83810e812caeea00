/- Which gears there are, as the program asks it. No conditions. -/
import Derived.Test.YtealpmjkmioocaaDoorGood
namespace Go.Proofs.YtealpmjkmioocaaDoor
open Go.ChangeShapes Go.WideShapes Go.ChangeAt Go.RowKit Go.Joins

theorem hasKnob_any (a b : Int) (A : Option Addr) (n c : Nat) (xs : List Int) (w : World) (hm : n ≤ 1048576) (hA : IntsA w A n xs) :
    Calls Tryd.prog 29 #[.agg #[.int .i64 a, .int .i64 b], .slice A n c] w fun e w' => e = .returned (.bool (knobB a b xs)) ∧ Below w.heap.size w w' := by
  have HL := Lib.hid hA.len
  have HA := Lib.hid hA
  clear hA
  by_cases h : (n : Int) = a
  · have HE := Lib.hid h
    have h' : ((n : Int) != a) = false := by simpa using h
    clear h
    go_enter Tryd.func29, Tryd.ntmps29
    go_wp2_with fail
    go_loop [14] (fun i => ∃ k : Nat, k ≤ n ∧ i = .int .i64 k ∧ (xs.take k).all (fun x => inB x 0 (b - 1)) = true) (fun i => n - (intOf i).toNat)
    case atStart => exact ⟨0, by omega, rfl, by simp⟩
    case round =>
      obtain ⟨k, hk, rfl, hall⟩ := hrel
      have HAL := Lib.hid hall
      clear hall h'
      by_cases hlt : k < n
      · obtain ⟨b1, off, rfl, hb, hc⟩ := HA.out.at_.resolve_left (by omega)
        have o1 := hc k hlt
        clear hc
        obtain ⟨x, hx⟩ : ∃ x, xs.getD k 0 = x := ⟨_, rfl⟩
        have HX := Lib.hid hx
        rw [hx] at o1
        clear hx
        by_cases h0 : x < 0
        · go_wp2_with fail
          go_ret
          refine ⟨ret_bool ?_, by (repeat (first | assumption | exact Below.refl _ _ | (refine Below.alloc ?_ (by first | omega | (simp; done) | (simp; omega)) _) | (refine Below.setCell ?_ (by first | omega | (simp; done) | (simp; omega)) _) | refine bel_drewN ?_ _ | refine bel_drew ?_ | (refine bel_call ?_ (by assumption))))⟩
          have := lall_not (xs := xs) (d := 0) (p := fun x => inB x 0 (b - 1)) (k := k) (by rw [HL.out]; exact hlt) (by rw [HX.out]; exact decide_eq_false (by omega))
          unfold knobB
          rw [this, Bool.and_false]
        · by_cases h1 : b ≤ x
          · go_wp2_with fail
            go_ret
            refine ⟨ret_bool ?_, by (repeat (first | assumption | exact Below.refl _ _ | (refine Below.alloc ?_ (by first | omega | (simp; done) | (simp; omega)) _) | (refine Below.setCell ?_ (by first | omega | (simp; done) | (simp; omega)) _) | refine bel_drewN ?_ _ | refine bel_drew ?_ | (refine bel_call ?_ (by assumption))))⟩
            have := lall_not (xs := xs) (d := 0) (p := fun x => inB x 0 (b - 1)) (k := k) (by rw [HL.out]; exact hlt) (by rw [HX.out]; exact decide_eq_false (by omega))
            unfold knobB
            rw [this, Bool.and_false]
          · go_wp2_with fail
            go_round
            case rel => exact ⟨k + 1, by omega, by go_num, lall_snoc (d := 0) (p := fun x => inB x 0 (b - 1)) (by rw [HL.out]; exact hlt) HAL.out (by rw [HX.out]; exact decide_eq_true (by omega))⟩
            case measure => simp [intOf]; omega
      · obtain rfl : k = n := by omega
        go_wp2_with fail
        go_ret
        have h := HAL.out
        rw [List.take_of_length_le (by rw [HL.out]; exact Nat.le_refl _)] at h
        refine ⟨ret_bool ?_, by (repeat (first | assumption | exact Below.refl _ _ | (refine Below.alloc ?_ (by first | omega | (simp; done) | (simp; omega)) _) | (refine Below.setCell ?_ (by first | omega | (simp; done) | (simp; omega)) _) | refine bel_drewN ?_ _ | refine bel_drew ?_ | (refine bel_call ?_ (by assumption))))⟩
        unfold knobB
        rw [h, HL.out, HE.out]
        simp
  · have hne : ((n : Int) != a) = true := by simpa using h
    have HNE : Hid (decide (a = (n : Int)) = false) := Lib.hid (decide_eq_false fun e => h e.symm)
    clear h
    go_enter Tryd.func29, Tryd.ntmps29
    go_wp2_with fail
    go_ret
    refine ⟨ret_bool (by unfold knobB; rw [HL.out, HNE.out]; rfl), ?_⟩
    (repeat (first | assumption | exact Below.refl _ _ | (refine Below.alloc ?_ (by first | omega | (simp; done) | (simp; omega)) _) | (refine Below.setCell ?_ (by first | omega | (simp; done) | (simp; omega)) _) | refine bel_drewN ?_ _ | refine bel_drew ?_ | (refine bel_call ?_ (by assumption))))

set_option maxHeartbeats 2000000 in
theorem areGears_any (a b : Int) (A : Option Addr) (n c : Nat) (ks : List (List Int)) (w : World) (hm : n + lensAt ks n ≤ 1048576) (hA : KnobsA w A n ks) :
    Calls Tryd.prog 13 #[.agg #[.int .i64 a, .int .i64 b, .slice A n c]] w fun e w' => e = .returned (.bool (gearsB a b ks)) ∧ Below w.heap.size w w' := by
  have HL := Lib.hid (show ∀ k, k < n → (ks.getD k []).length ≤ 1048576 from fun k hk => by have := lensAt_one (ks := ks) hk; omega)
  have HN := Lib.hid hA.len
  have HA := Lib.hid hA
  have hm2 : n ≤ 1048576 := by omega
  have CU := Lib.hid (Cells.new (W := w) (cs := #[.int .i64 a, .int .i64 b, .slice A n c]) (t := 26) (g := w.heap.size) (n := 3) rfl rfl)
  have hB0 : Below w.heap.size w (w.alloc (.cells #[.int .i64 a, .int .i64 b, .slice A n c] 26)) := (Below.refl _ _).alloc (Nat.le_refl _) _
  have HB0 := Lib.hid hB0
  clear hA hm hB0
  by_cases hg : goodB a b = true
  · have HG := Lib.hid hg
    obtain ⟨an, rfl⟩ : ∃ an : Nat, a = an := ⟨a.toNat, by have := good_yes hg; omega⟩
    obtain ⟨a1, a6, b2, b10⟩ := good_yes hg
    obtain ⟨p1, p2⟩ := pw_bd6 b2 b10 (k := an) (by omega)
    have HP : Hid (pw b (an : Int).toNat = pw b an) := Lib.hid (by rw [Int.toNat_natCast])
    obtain ⟨z, hz⟩ : ∃ z, pw b an = z := ⟨_, rfl⟩
    have HZ : Hid (countZ an b = z) := Lib.hid ((countZ_yes hg).trans hz)
    rw [hz] at p1 p2 HP
    clear hg hz
    by_cases hp : z ≤ 1000
    · by_cases hn1 : 1 ≤ n ∧ n ≤ 5
      · go_enter Tryd.func13, Tryd.ntmps13
        go_wp2_with (first
          | (go_at_call 28; refine (count_any _ _ _).mono ?_; rw [HG.out, HZ.out]; rintro e w1 ⟨rfl, hb1⟩
             have D1 := Lib.hid (CU.out.call hb1)
             have B1 := Lib.hid (bel_call HB0.out hb1)
             have l2 : w1.cell? ⟨w.heap.size, 2, none⟩ = some (.slice A n c) := D1.out.cell (show 2 < 3 by omega)
             clear hb1))
        have hD := D1.out
        have hB := B1.out
        clear D1 B1 l2
        go_loopw [34] (fun i wr => ∃ k : Nat, k ≤ n ∧ i = .int .i64 k ∧ (ks.take k).all (knobB (an : Int) b) = true ∧ Cells wr w.heap.size 3 (fun j => (#[.int .i64 (an : Int), .int .i64 b, .slice A n c] : Array Value).toList.getD j undef) ∧ Below w.heap.size w wr) (fun i _ => n - (intOf i).toNat)
        case atStart => exact ⟨0, by omega, rfl, by simp, hD, hB⟩
        case round =>
          clear hD hB
          obtain ⟨k, hk, rfl, hall, hD, hB⟩ := hrel
          have HAL := Lib.hid hall
          have HD := Lib.hid hD
          clear hall hD
          by_cases hlt : k < n
          · obtain ⟨b', off, rfl, hb', hc⟩ := HA.out.at_.resolve_left (by omega)
            obtain ⟨Ak, ck, o1', _, hI⟩ := hc k hlt
            have o1 : wr.cell? ⟨b', off + k, none⟩ = some (.slice Ak (ks.getD k []).length ck) := by rw [hB.cell (p := ⟨b', off + k, none⟩) hb']; exact o1'
            have HI := Lib.hid (hI.below hB)
            have hl := HL.out k hlt
            have l0 : wr.cell? ⟨w.heap.size, 0, none⟩ = some (.int .i64 (an : Int)) := HD.out.cell (show 0 < 3 by omega)
            have l1 : wr.cell? ⟨w.heap.size, 1, none⟩ = some (.int .i64 b) := HD.out.cell (show 1 < 3 by omega)
            obtain ⟨v, HV⟩ : ∃ v, Hid (knobB (an : Int) b (ks.getD k []) = v) := ⟨_, Lib.hid rfl⟩
            clear hc o1' hI
            rcases v with _ | _
            · go_wp2_with (go_at_call 29; refine (hasKnob_any _ _ _ _ _ (ks.getD k []) _ hl HI.out).mono ?_; rw [HV.out]; rintro e w3 ⟨rfl, hb3⟩)
              go_ret
              refine ⟨ret_bool ?_, bel_call hB hb3⟩
              have h := lall_not (d := []) (p := knobB (an : Int) b) (by rw [HN.out]; exact hlt) HV.out
              unfold gearsB
              rw [h, Bool.and_false]
            · go_wp2_with (go_at_call 29; refine (hasKnob_any _ _ _ _ _ (ks.getD k []) _ hl HI.out).mono ?_; rw [HV.out]; rintro e w3 ⟨rfl, hb3⟩)
              go_roundw
              case rel => exact ⟨k + 1, by omega, by go_num, lall_snoc (d := []) (p := knobB (an : Int) b) (by rw [HN.out]; exact hlt) HAL.out HV.out, HD.out.call hb3, bel_call hB hb3⟩
              case measure => simp [intOf]; omega
          · obtain rfl : k = n := by omega
            go_wp2_with fail
            go_ret
            have h := HAL.out
            rw [List.take_of_length_le (by rw [HN.out]; exact Nat.le_refl _)] at h
            refine ⟨ret_bool ?_, hB⟩
            unfold gearsB inB
            rw [h, HN.out, HG.out, HP.out, decide_eq_true hp, decide_eq_true (show (1 : Int) ≤ k ∧ (k : Int) ≤ 5 by omega)]
            rfl
      · have HX : Hid (gearsB an b ks = false) := Lib.hid (by unfold gearsB inB; rw [HN.out, decide_eq_false (show ¬ ((1 : Int) ≤ n ∧ (n : Int) ≤ 5) by omega), Bool.and_false, Bool.false_and])
        by_cases hn0 : (n : Int) < 1
        · clear hn1
          go_enter Tryd.func13, Tryd.ntmps13
          go_wp2_with (first
          | (go_at_call 28; refine (count_any _ _ _).mono ?_; rw [HG.out, HZ.out]; rintro e w1 ⟨rfl, hb1⟩
             have D1 := Lib.hid (CU.out.call hb1)
             have B1 := Lib.hid (bel_call HB0.out hb1)
             have l2 : w1.cell? ⟨w.heap.size, 2, none⟩ = some (.slice A n c) := D1.out.cell (show 2 < 3 by omega)
             clear hb1))
          go_ret
          exact ⟨ret_bool HX.out.symm, B1.out⟩
        · have hn5 : (5 : Int) < n := by omega
          clear hn1
          go_enter Tryd.func13, Tryd.ntmps13
          go_wp2_with (first
          | (go_at_call 28; refine (count_any _ _ _).mono ?_; rw [HG.out, HZ.out]; rintro e w1 ⟨rfl, hb1⟩
             have D1 := Lib.hid (CU.out.call hb1)
             have B1 := Lib.hid (bel_call HB0.out hb1)
             have l2 : w1.cell? ⟨w.heap.size, 2, none⟩ = some (.slice A n c) := D1.out.cell (show 2 < 3 by omega)
             clear hb1))
          go_ret
          exact ⟨ret_bool HX.out.symm, B1.out⟩
    · have HX : Hid (gearsB an b ks = false) := Lib.hid (by unfold gearsB; rw [HP.out, decide_eq_false hp, Bool.and_false, Bool.false_and, Bool.false_and])
      go_enter Tryd.func13, Tryd.ntmps13
      go_wp2_with (first
          | (go_at_call 28; refine (count_any _ _ _).mono ?_; rw [HG.out, HZ.out]; rintro e w1 ⟨rfl, hb1⟩
             have D1 := Lib.hid (CU.out.call hb1)
             have B1 := Lib.hid (bel_call HB0.out hb1)
             have l2 : w1.cell? ⟨w.heap.size, 2, none⟩ = some (.slice A n c) := D1.out.cell (show 2 < 3 by omega)
             clear hb1))
      go_ret
      exact ⟨ret_bool HX.out.symm, B1.out⟩
  · have HG := Lib.hid (Bool.eq_false_iff.2 hg)
    clear hg
    go_enter Tryd.func13, Tryd.ntmps13
    go_wp2_with (go_at_call 28; refine (count_any _ _ _).mono ?_; rw [HG.out, countZ_no HG.out]; rintro e w1 ⟨rfl, hb1⟩)
    go_ret
    exact ⟨ret_bool (by unfold gearsB; rw [HG.out]; rfl), bel_call HB0.out hb1⟩

/-- Gears and a knob of them. -/
def gkB (a b : Int) (ks : List (List Int)) (q : Int) : Bool := gearsB a b ks && inB q 0 ((ks.length : Int) - 1)

end Go.Proofs.YtealpmjkmioocaaDoor
