/- How many keys that open are smooth, as the program and the model tell it. For pins with at most 1048576 numbers. -/
import Derived.Test.YtaajklkldfgppaaVy
namespace Go.Proofs.Ytaajklkldfgppaa
open Go.ChangeShapes Go.WideShapes Go.ChangeAt Go.RowKit Go.Joins

/-- Pins and a difference. -/
def smB (d m : Int) (ks : List (List Int)) : Bool := pinsB d ks && inB m 0 9

/-- How many keys that open are smooth. -/
def smZ (d m : Int) (ks : List (List Int)) : Int := if smB d m ks then (toS (fwN m ks (ks.length - 1)) 0 9 : Int) else 0

theorem smB_yes {d m : Int} {ks : List (List Int)} (h : smB d m ks = true) : pinsB d ks = true ∧ 0 ≤ m ∧ m ≤ 9 := by
  unfold smB at h
  rw [Bool.and_eq_true] at h
  have := of_decide_eq_true h.2
  exact ⟨h.1, this.1, this.2⟩

set_option maxHeartbeats 2000000 in
theorem smoothKeys_any (d m : Int) (A : Option Addr) (n c : Nat) (ks : List (List Int)) (w : World) (hm : n + lensAt ks n ≤ 1048576) (hnc : n ≤ c) (hA : KnobsA w A n ks) :
    Calls Try.prog 56 #[.agg #[.int .i64 d, .slice A n c], .int .i64 m] w fun e w' => e = .returned (.tuple #[.int .i64 (smZ d m ks), .bool (smB d m ks)]) ∧ Below w.heap.size w w' := by
  have HB0 := Lib.hid (show Below w.heap.size w (w.alloc (.cells #[.int .i64 d, .slice A n c] 26)) from (Below.refl _ _).alloc (Nat.le_refl _) _)
  have CU := Lib.hid (Cells.new (W := w) (cs := #[.int .i64 d, .slice A n c]) (t := 26) (g := w.heap.size) (n := 2) rfl rfl)
  have HA := Lib.hid hA
  have HN := Lib.hid hA.len
  clear hA
  obtain ⟨v1, HV1⟩ : ∃ v, Hid (pinsB d ks = v) := ⟨_, Lib.hid rfl⟩
  obtain ⟨v2, HV2⟩ : ∃ v, Hid (inB m 0 9 = v) := ⟨_, Lib.hid rfl⟩
  have HSB : Hid (smB d m ks = (v1 && v2)) := Lib.hid (by unfold smB; rw [HV1.out, HV2.out])
  have HSZ : Hid (smB d m ks = false → smZ d m ks = 0) := Lib.hid (fun h => by unfold smZ; rw [h]; rfl)
  rcases v1 with _ | _
  · rw [HSZ.out (by rw [HSB.out]; rfl), HSB.out]
    go_enter Try.func56, Try.ntmps56
    go_wp2_with (go_at_call 39; refine (arePins_any _ _ _ _ ks _ hm (HA.out.below HB0.out)).mono ?_; rw [HV1.out]; rintro e w1 ⟨rfl, hb1⟩)
    go_ret2
    exact ⟨rfl, bel_call HB0.out hb1⟩
  · rcases v2 with _ | _
    · rw [HSZ.out (by rw [HSB.out]; rfl), HSB.out]
      go_enter Try.func56, Try.ntmps56
      go_wp2_with (first
        | (go_at_call 39; refine (arePins_any _ _ _ _ ks _ hm (HA.out.below HB0.out)).mono ?_; rw [HV1.out]; rintro e w1 ⟨rfl, hb1⟩)
        | (go_at_call 79; refine (isMost_any _ _).mono ?_; rw [HV2.out]; rintro e wq ⟨rfl, hwq⟩; replace hwq := hwq.symm; subst hwq))
      go_ret2
      exact ⟨rfl, bel_call HB0.out hb1⟩
    · have HZ : Hid (smZ d m ks = (toS (fwN m ks (n - 1)) 0 9 : Int)) := Lib.hid (by unfold smZ; rw [HSB.out, HN.out]; rfl)
      rw [HZ.out, HSB.out]
      obtain ⟨_, _, n1, n7, _⟩ := pinsB_yes HV1.out
      have HSM := Lib.hid (pins_small HV1.out)
      have hm9 := of_decide_eq_true HV2.out
      have hn1 : 1 ≤ n := by have := HN.out; omega
      have hn7 : n ≤ 7 := by have := HN.out; omega
      go_enter Try.func56, Try.ntmps56
      go_wp2_with (first
        | (go_at_call 39; refine (arePins_any _ _ _ _ ks _ hm (HA.out.below HB0.out)).mono ?_; rw [HV1.out]; rintro e w1 ⟨rfl, hb1⟩
           have HB1 := Lib.hid (bel_call HB0.out hb1)
           have HC1 := Lib.hid (CU.out.call hb1)
           have l0 : w1.cell? ⟨w.heap.size, 0, none⟩ = some (.int .i64 d) := HC1.out.cell (show 0 < 2 by omega)
           have l1 : w1.cell? ⟨w.heap.size, 1, none⟩ = some (.slice A n c) := HC1.out.cell (show 1 < 2 by omega)
           clear hb1)
        | (go_at_call 79; refine (isMost_any _ _).mono ?_; rw [HV2.out]; rintro e wq ⟨rfl, hwq⟩; replace hwq := hwq.symm; subst hwq)
        | (go_at_call 51; refine (countSmooth_any _ _ _ _ _ ks _ hm9 hn1 hn7 hnc (HA.out.below HB1.out) HSM.out).mono ?_; rintro e w3 ⟨rfl, hb3⟩))
      go_ret2
      exact ⟨rfl, bel_call HB1.out hb3⟩

theorem l1Most_any (x y : Int) (w : World) :
    Calls Try.prog 77 #[.int .i64 x, .int .i64 y] w fun e w' => e = .returned (.int .i64 (max x y)) ∧ w' = w := by
  by_cases h : y < x
  · go_enter Try.func77, Try.ntmps77
    go_wp2
    go_ret
    exact ⟨ret_int (by omega), rfl⟩
  · go_enter Try.func77, Try.ntmps77
    go_wp2
    go_ret
    exact ⟨ret_int (by omega), rfl⟩

theorem l1Abs_any (x : Int) (w : World) (hx : -1000 ≤ x ∧ x ≤ 1000) :
    Calls Try.prog 47 #[.int .i64 x] w fun e w' => e = .returned (.int .i64 (max x (-x))) ∧ w' = w := by
  obtain ⟨h1, h2⟩ := hx
  go_enter Try.func47, Try.ntmps47
  go_wp2_with (go_at_call 77; refine (l1Most_any _ _ _).mono ?_; rintro e wq ⟨rfl, hwq⟩; replace hwq := hwq.symm; subst hwq)
  go_ret
  exact ⟨rfl, rfl⟩

theorem scS_cut {m : Int} {e dn : Nat} {f : Nat → Nat} (hd : dn ≤ 9) (h : ∀ j, dn ≤ j → f j = 0) : scS m e f 9 = scS m e f dn := by
  have key : ∀ k, scS m e f (dn + k) = scS m e f dn := fun k => by
    induction k with
    | zero => rfl
    | succ k ih =>
      rw [← Nat.add_assoc, scS, ih, h (dn + k) (by omega)]
      split <;> rfl
  have := key (9 - dn)
  rw [show dn + (9 - dn) = 9 by omega] at this
  exact this

theorem toS_cut {dn : Nat} {f : Nat → Nat} (hd : dn ≤ 9) (h : ∀ j, dn ≤ j → f j = 0) : toS f 0 9 = toS f 0 dn := by
  have key : ∀ k, toS f 0 (dn + k) = toS f 0 dn := fun k => by
    induction k with
    | zero => rfl
    | succ k ih => rw [← Nat.add_assoc, toS, ih, h _ (by omega), Nat.add_zero]
  have := key (9 - dn)
  rw [show dn + (9 - dn) = 9 by omega] at this
  exact this

theorem hasB_out {xs : List Int} {d lo : Int} {e : Nat} (h : riseB d lo xs = true) (he : d ≤ (e : Int)) : hasB xs e = false := decide_eq_false fun hm => by
  have := rise_mem h _ hm
  omega

theorem fwN_out {d m : Int} {ks : List (List Int)} (h : pinsB d ks = true) {k j : Nat} (hk : k < ks.length) (hj : d ≤ (j : Int)) : fwN m ks k j = 0 := by
  obtain ⟨_, _, _, _, h5⟩ := pinsB_yes h
  cases k with
  | zero => rw [fwN, hasB_out (h5 0 hk).2 hj]; rfl
  | succ k => rw [fwN, hasB_out (h5 (k + 1) hk).2 hj]; rfl

end Go.Proofs.Ytaajklkldfgppaa
