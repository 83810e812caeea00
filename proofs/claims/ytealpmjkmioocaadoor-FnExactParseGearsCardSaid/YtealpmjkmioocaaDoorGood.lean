/- Which gears there are, as the model asks it. No conditions. -/
import Derived.Test.YtealpmjkmioocaaDoorGears3
namespace Go.Proofs.YtealpmjkmioocaaDoor
open Go.ChangeShapes Go.WideShapes Go.ChangeAt Go.RowKit Go.Joins

theorem lall_snoc {α : Type} {xs : List α} {d : α} {p : α → Bool} {k : Nat} (h : k < xs.length) (ha : (xs.take k).all p = true) (hd : p (xs.getD k d) = true) : (xs.take (k + 1)).all p = true := by
  rw [List.take_succ_eq_append_getElem h, List.all_append, ha]
  simpa [List.getD, List.getElem?_eq_getElem h] using hd

theorem lall_not {α : Type} {xs : List α} {d : α} {p : α → Bool} {k : Nat} (h : k < xs.length) (hd : p (xs.getD k d) = false) : xs.all p = false := by
  rw [List.all_eq_false]
  refine ⟨xs[k], List.getElem_mem _, ?_⟩
  simpa [List.getD, List.getElem?_eq_getElem h] using hd

theorem l1All_any (A : Option Addr) (n c : Nat) (xs : List Int) (lo hi : Int) (w : World) (hm : n ≤ 1048576) (hA : IntsA w A n xs) :
    Calls Tryd.prog 46 #[.slice A n c, .int .i64 lo, .int .i64 hi] w fun e w' => e = .returned (.bool (xs.all fun x => inB x lo hi)) ∧ w' = w := by
  have HL := Lib.hid hA.len
  have HA := Lib.hid hA
  clear hA
  go_enter Tryd.func46, Tryd.ntmps46
  go_wp2_with fail
  go_loop [11] (fun i => ∃ k : Nat, k ≤ n ∧ i = .int .i64 k ∧ (xs.take k).all (fun x => inB x lo hi) = true) (fun i => n - (intOf i).toNat)
  case atStart => exact ⟨0, by omega, rfl, by simp⟩
  case round =>
    obtain ⟨k, hk, rfl, hall⟩ := hrel
    have HAL := Lib.hid hall
    clear hall
    by_cases hlt : k < n
    · obtain ⟨b, off, rfl, hb, hc⟩ := HA.out.at_.resolve_left (by omega)
      have o1 := hc k hlt
      clear hc
      obtain ⟨v, HV⟩ : ∃ v, Hid (inB (xs.getD k 0) lo hi = v) := ⟨_, Lib.hid rfl⟩
      obtain ⟨x, hx⟩ : ∃ x, xs.getD k 0 = x := ⟨_, rfl⟩
      have HX : Hid (inB x lo hi = v) := Lib.hid (by rw [← hx]; exact HV.out)
      rw [hx] at o1
      clear hx
      rcases v with _ | _
      · go_wp2_with (go_at_call 33; refine (l1In_any _ _ _ _).mono ?_; rw [HX.out]; rintro e w3 ⟨rfl, rfl⟩)
        go_ret
        exact ⟨ret_bool (lall_not (d := 0) (p := fun x => inB x lo hi) (by rw [HL.out]; exact hlt) HV.out).symm, rfl⟩
      · go_wp2_with (go_at_call 33; refine (l1In_any _ _ _ _).mono ?_; rw [HX.out]; rintro e w3 ⟨rfl, rfl⟩)
        go_round
        case rel => exact ⟨k + 1, by omega, by go_num, lall_snoc (d := 0) (p := fun x => inB x lo hi) (by rw [HL.out]; exact hlt) HAL.out HV.out⟩
        case measure => simp [intOf]; omega
    · obtain rfl : k = n := by omega
      go_wp2_with fail
      go_ret
      have h := HAL.out
      rw [List.take_of_length_le (by rw [HL.out]; exact Nat.le_refl _)] at h
      exact ⟨ret_bool h.symm, rfl⟩

/-- A knob of a lock. -/
def knobB (a b : Int) (xs : List Int) : Bool := decide (a = (xs.length : Int)) && xs.all fun x => inB x 0 (b - 1)

theorem joKnob_any (a b : Int) (A : Option Addr) (n c : Nat) (xs : List Int) (w : World) (hm : n ≤ 1048576) (hb1 : 0 ≤ b) (hb2 : b ≤ 10) (hA : IntsA w A n xs) :
    Calls Tryd.prog 36 #[.agg #[.int .i64 a, .int .i64 b], .slice A n c] w fun e w' => e = .returned (.bool (knobB a b xs)) ∧ Below w.heap.size w w' := by
  have HL := Lib.hid hA.len
  have HA := Lib.hid hA
  clear hA
  by_cases h : a = (n : Int)
  · subst h
    go_enter Tryd.func36, Tryd.ntmps36
    go_wp2_with (go_at_call 46; refine (l1All_any _ _ _ xs _ _ _ hm (HA.out.below ((Below.refl _ _).alloc (Nat.le_refl _) _))).mono ?_; rintro e w3 ⟨rfl, rfl⟩)
    go_ret
    refine ⟨ret_bool (by unfold knobB; rw [HL.out]; simp), ?_⟩
    (repeat (first | assumption | exact Below.refl _ _ | (refine Below.alloc ?_ (by first | omega | (simp; done) | (simp; omega)) _) | (refine Below.setCell ?_ (by first | omega | (simp; done) | (simp; omega)) _) | refine bel_drewN ?_ _ | refine bel_drew ?_ | (refine bel_call ?_ (by assumption))))
  · have hne : ((n : Int) == a) = false := by simpa using fun e => h e.symm
    have HNE : Hid (decide (a = (n : Int)) = false) := Lib.hid (decide_eq_false h)
    clear h
    go_enter Tryd.func36, Tryd.ntmps36
    go_wp2_with fail
    go_ret
    refine ⟨ret_bool (by unfold knobB; rw [HL.out, HNE.out]; rfl), ?_⟩
    (repeat (first | assumption | exact Below.refl _ _ | (refine Below.alloc ?_ (by first | omega | (simp; done) | (simp; omega)) _) | (refine Below.setCell ?_ (by first | omega | (simp; done) | (simp; omega)) _) | refine bel_drewN ?_ _ | refine bel_drew ?_ | (refine bel_call ?_ (by assumption))))

/-- Gears. -/
def gearsB (a b : Int) (ks : List (List Int)) : Bool := goodB a b && decide (pw b a.toNat ≤ 1000) && inB (ks.length : Int) 1 5 && ks.all (knobB a b)

theorem gearsB_yes {a b : Int} {ks : List (List Int)} (h : gearsB a b ks = true) : goodB a b = true ∧ pw b a.toNat ≤ 1000 ∧ 1 ≤ ks.length ∧ ks.length ≤ 5 ∧ ∀ k, k < ks.length → knobB a b (ks.getD k []) = true := by
  unfold gearsB at h
  simp only [Bool.and_eq_true, decide_eq_true_eq] at h
  obtain ⟨⟨⟨h1, h2⟩, h3⟩, h4⟩ := h
  unfold inB at h3
  rw [decide_eq_true_eq] at h3
  refine ⟨h1, h2, by omega, by omega, fun k hk => ?_⟩
  have := List.all_eq_true.1 h4 ks[k] (List.getElem_mem _)
  simpa [List.getD, List.getElem?_eq_getElem hk] using this

set_option maxHeartbeats 2000000 in
theorem joGood_any (a b : Int) (A : Option Addr) (n c : Nat) (ks : List (List Int)) (w : World) (hm : n + lensAt ks n ≤ 1048576) (hA : KnobsA w A n ks) :
    Calls Tryd.prog 21 #[.agg #[.int .i64 a, .int .i64 b, .slice A n c]] w fun e w' => e = .returned (.bool (gearsB a b ks)) ∧ Below w.heap.size w w' := by
  have HL := Lib.hid (show ∀ k, k < n → (ks.getD k []).length ≤ 1048576 from fun k hk => by have := lensAt_one (ks := ks) hk; omega)
  have HN := Lib.hid hA.len
  have HA := Lib.hid hA
  have hm2 : n ≤ 1048576 := by omega
  have CU := Lib.hid (Cells.new (W := w) (cs := #[.int .i64 a, .int .i64 b, .slice A n c]) (t := 26) (g := w.heap.size) (n := 3) rfl rfl)
  have hB0 : Below w.heap.size w (w.alloc (.cells #[.int .i64 a, .int .i64 b, .slice A n c] 26)) := (Below.refl _ _).alloc (Nat.le_refl _) _
  have HB0 := Lib.hid hB0
  clear hA hm hB0
  by_cases hg : goodB a b = true
  · have HG := Lib.hid hg
    obtain ⟨an, rfl⟩ : ∃ an : Nat, a = an := ⟨a.toNat, by have := good_yes hg; omega⟩
    obtain ⟨a1, a6, b2, b10⟩ := good_yes hg
    obtain ⟨p1, p2⟩ := pw_bd6 b2 b10 (k := an) (by omega)
    have HP : Hid (pw b (an : Int).toNat = pw b an) := Lib.hid (by rw [Int.toNat_natCast])
    obtain ⟨z, hz⟩ : ∃ z, pw b an = z := ⟨_, rfl⟩
    have HZ := Lib.hid hz
    rw [hz] at p1 p2 HP
    clear hg hz
    by_cases hp : z ≤ 1000
    · obtain ⟨v, HV⟩ : ∃ v, Hid (inB (n : Int) 1 5 = v) := ⟨_, Lib.hid rfl⟩
      rcases v with _ | _
      · go_enter Tryd.func21, Tryd.ntmps21
        go_wp2_with (first
          | (go_at_call 34; refine (whGood_any _ _ _).mono ?_; rw [HG.out]; rintro e w1 ⟨rfl, hb1⟩
             have D1 := Lib.hid (CU.out.call hb1)
             have B1 := Lib.hid (bel_call HB0.out hb1)
             have l0 : w1.cell? ⟨w.heap.size, 0, none⟩ = some (.int .i64 (an : Int)) := D1.out.cell (show 0 < 3 by omega)
             have l1 : w1.cell? ⟨w.heap.size, 1, none⟩ = some (.int .i64 b) := D1.out.cell (show 1 < 3 by omega)
             clear hb1)
          | (go_at_call 35; refine (whCount_any _ _ _ HG.out).mono ?_; rw [HZ.out]; rintro e w2 ⟨rfl, hb2⟩
             have D2 := Lib.hid (D1.out.call hb2)
             have B2 := Lib.hid (bel_call B1.out hb2)
             have k2 : w2.cell? ⟨w.heap.size, 2, none⟩ = some (.slice A n c) := D2.out.cell (show 2 < 3 by omega)
             clear hb2)
          | (go_at_call 33; refine (l1In_any _ _ _ _).mono ?_; rw [HV.out]; rintro e w3 ⟨rfl, rfl⟩))
        go_ret
        exact ⟨ret_bool (by unfold gearsB; rw [HN.out, HV.out, Bool.and_false, Bool.false_and]), B2.out⟩
      · go_enter Tryd.func21, Tryd.ntmps21
        go_wp2_with (first
          | (go_at_call 34; refine (whGood_any _ _ _).mono ?_; rw [HG.out]; rintro e w1 ⟨rfl, hb1⟩
             have D1 := Lib.hid (CU.out.call hb1)
             have B1 := Lib.hid (bel_call HB0.out hb1)
             have l0 : w1.cell? ⟨w.heap.size, 0, none⟩ = some (.int .i64 (an : Int)) := D1.out.cell (show 0 < 3 by omega)
             have l1 : w1.cell? ⟨w.heap.size, 1, none⟩ = some (.int .i64 b) := D1.out.cell (show 1 < 3 by omega)
             clear hb1)
          | (go_at_call 35; refine (whCount_any _ _ _ HG.out).mono ?_; rw [HZ.out]; rintro e w2 ⟨rfl, hb2⟩
             have D2 := Lib.hid (D1.out.call hb2)
             have B2 := Lib.hid (bel_call B1.out hb2)
             have k2 : w2.cell? ⟨w.heap.size, 2, none⟩ = some (.slice A n c) := D2.out.cell (show 2 < 3 by omega)
             clear hb2)
          | (go_at_call 33; refine (l1In_any _ _ _ _).mono ?_; rw [HV.out]; rintro e w3 ⟨rfl, rfl⟩))
        have hD := D2.out
        have hB := B2.out
        clear D1 B1 D2 B2 l0 l1 k2
        go_loopw [25] (fun i wr => ∃ k : Nat, k ≤ n ∧ i = .int .i64 k ∧ (ks.take k).all (knobB (an : Int) b) = true ∧ Cells wr w.heap.size 3 (fun j => (#[.int .i64 (an : Int), .int .i64 b, .slice A n c] : Array Value).toList.getD j undef) ∧ Below w.heap.size w wr) (fun i _ => n - (intOf i).toNat)
        case atStart => exact ⟨0, by omega, rfl, by simp, hD, hB⟩
        case round =>
          clear hD hB
          obtain ⟨k, hk, rfl, hall, hD, hB⟩ := hrel
          have HAL := Lib.hid hall
          have HD := Lib.hid hD
          clear hall hD
          by_cases hlt : k < n
          · obtain ⟨b', off, rfl, hb', hc⟩ := HA.out.at_.resolve_left (by omega)
            obtain ⟨Ak, ck, o1', _, hI⟩ := hc k hlt
            have o1 : wr.cell? ⟨b', off + k, none⟩ = some (.slice Ak (ks.getD k []).length ck) := by rw [hB.cell (p := ⟨b', off + k, none⟩) hb']; exact o1'
            have HI := Lib.hid (hI.below hB)
            have hl := HL.out k hlt
            have l0 : wr.cell? ⟨w.heap.size, 0, none⟩ = some (.int .i64 (an : Int)) := HD.out.cell (show 0 < 3 by omega)
            have l1 : wr.cell? ⟨w.heap.size, 1, none⟩ = some (.int .i64 b) := HD.out.cell (show 1 < 3 by omega)
            obtain ⟨v, HV2⟩ : ∃ v, Hid (knobB (an : Int) b (ks.getD k []) = v) := ⟨_, Lib.hid rfl⟩
            obtain ⟨xs, hxs⟩ : ∃ xs, ks.getD k [] = xs := ⟨_, rfl⟩
            have HX : Hid (knobB (an : Int) b xs = v) := Lib.hid (by rw [← hxs]; exact HV2.out)
            rw [hxs] at o1 HI hl
            obtain ⟨m, hmm⟩ : ∃ m, xs.length = m := ⟨_, rfl⟩
            rw [hmm] at o1 HI hl
            clear hc o1' hI hxs hmm
            rcases v with _ | _
            · go_wp2_with (go_at_call 36; refine (joKnob_any _ _ _ _ _ xs _ hl (by omega) b10 HI.out).mono ?_; rw [HX.out]; rintro e w4 ⟨rfl, hb4⟩)
              go_ret
              exact ⟨ret_bool (by unfold gearsB; rw [lall_not (d := []) (p := knobB (an : Int) b) (by rw [HN.out]; exact hlt) HV2.out, Bool.and_false]), bel_call hB hb4⟩
            · go_wp2_with (go_at_call 36; refine (joKnob_any _ _ _ _ _ xs _ hl (by omega) b10 HI.out).mono ?_; rw [HX.out]; rintro e w4 ⟨rfl, hb4⟩)
              go_roundw
              case rel => exact ⟨k + 1, by omega, by go_num, lall_snoc (d := []) (p := knobB (an : Int) b) (by rw [HN.out]; exact hlt) HAL.out HV2.out, HD.out.call hb4, bel_call hB hb4⟩
              case measure => simp [intOf]; omega
          · obtain rfl : k = n := by omega
            go_wp2_with fail
            go_ret
            have h := HAL.out
            rw [List.take_of_length_le (by rw [HN.out]; exact Nat.le_refl _)] at h
            exact ⟨ret_bool (by unfold gearsB; rw [HG.out, HP.out, decide_eq_true hp, HN.out, HV.out, h]; rfl), hB⟩
    · have hpz : ¬ z ≤ 1000 := hp
      go_enter Tryd.func21, Tryd.ntmps21
      go_wp2_with (first
        | (go_at_call 34; refine (whGood_any _ _ _).mono ?_; rw [HG.out]; rintro e w1 ⟨rfl, hb1⟩
           have D1 := Lib.hid (CU.out.call hb1)
           have B1 := Lib.hid (bel_call HB0.out hb1)
           have l0 : w1.cell? ⟨w.heap.size, 0, none⟩ = some (.int .i64 (an : Int)) := D1.out.cell (show 0 < 3 by omega)
           have l1 : w1.cell? ⟨w.heap.size, 1, none⟩ = some (.int .i64 b) := D1.out.cell (show 1 < 3 by omega)
           clear hb1)
        | (go_at_call 35; refine (whCount_any _ _ _ HG.out).mono ?_; rw [HZ.out]; rintro e w2 ⟨rfl, hb2⟩
           have B2 := Lib.hid (bel_call B1.out hb2)
           clear hb2))
      go_ret
      exact ⟨ret_bool (by unfold gearsB; rw [HP.out, decide_eq_false (show ¬ z ≤ 1000 by omega), Bool.and_false, Bool.false_and, Bool.false_and]), B2.out⟩
  · have HG := Lib.hid (Bool.eq_false_iff.2 hg)
    clear hg
    go_enter Tryd.func21, Tryd.ntmps21
    go_wp2_with (go_at_call 34; refine (whGood_any _ _ _).mono ?_; rw [HG.out]; rintro e w1 ⟨rfl, hb1⟩)
    go_ret
    exact ⟨ret_bool (by unfold gearsB; rw [HG.out]; rfl), bel_call HB0.out hb1⟩

end Go.Proofs.YtealpmjkmioocaaDoor
