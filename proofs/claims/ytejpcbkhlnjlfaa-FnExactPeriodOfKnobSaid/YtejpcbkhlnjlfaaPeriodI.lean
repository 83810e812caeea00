/- The period of a knob, as the program tells it. For at most 1048576 numbers. -/
import Derived.Test.YtejpcbkhlnjlfaaStepsI
import Derived.Test.YtejpcbkhlnjlfaaPeriod
import Derived.Test.YtejpcbkhlnjlfaaReach
namespace Go.Proofs.Ytejpcbkhlnjlfaa
open Go.ChangeShapes Go.WideShapes Go.ChangeAt Go.RowKit Go.Joins

/-- No wheel goes. -/
def still (b m : Int) (xs : List Int) : Bool := decide (stI b m xs 0 = 0 ∧ stI b m xs 1 = 0 ∧ stI b m xs 2 = 0 ∧ stI b m xs 3 = 0 ∧ stI b m xs 4 = 0 ∧ stI b m xs 5 = 0)

theorem still_all {b m : Int} {xs : List Int} : still b m xs = true ↔ ∀ j, j < 6 → stI b m xs j = 0 := by
  unfold still
  rw [decide_eq_true_eq]
  constructor
  · rintro ⟨h0, h1, h2, h3, h4, h5⟩ j hj
    have : j = 0 ∨ j = 1 ∨ j = 2 ∨ j = 3 ∨ j = 4 ∨ j = 5 := by omega
    rcases this with rfl | rfl | rfl | rfl | rfl | rfl <;> assumption
  · intro h
    exact ⟨h 0 (by omega), h 1 (by omega), h 2 (by omega), h 3 (by omega), h 4 (by omega), h 5 (by omega)⟩

theorem tmod_emod {x b : Int} (h0 : 0 ≤ x) : x.tmod b = x % b := Int.tmod_eq_emod_of_nonneg h0

theorem still_iff {a b : Int} {xs : List Int} (hg : goodB a b = true) (hk : knobB a b xs = true) (t : Nat) : still b t xs = true ↔ perAt b xs (zeroC xs.length) t = zeroC xs.length := by
  obtain ⟨a1, a6, b2, b10⟩ := good_yes hg
  obtain ⟨k1, k2⟩ := knobB_yes hk
  have hl : xs.length ≤ 6 := by omega
  have hst : ∀ j, j < xs.length → stI b t xs j = ((t : Int) * xs.getD j 0) % b := fun j hj => by
    unfold stI
    rw [if_pos hj, Int.mul_comm, tmod_emod (Int.mul_nonneg (by omega) (k2 j hj).1)]
  rw [still_all, per_text b2 b10]
  have hd1 : Digits (xs.map fun y => ((t : Int) * y) % b) := fun j hj => by
    rw [List.length_map] at hj
    simp only [List.getD, List.getElem?_map, List.getElem?_eq_getElem hj, Option.map_some, Option.getD_some]
    have h1 := Int.emod_nonneg ((t : Int) * xs[j]) (show b ≠ 0 by omega)
    have h2 := Int.emod_lt_of_pos ((t : Int) * xs[j]) (show 0 < b by omega)
    omega
  have hd2 : Digits (List.replicate xs.length 0) := fun j hj => by
    rw [List.length_replicate] at hj
    simp [List.getD, hj]
  constructor
  · intro h
    unfold zeroC
    congr 1
    apply List.ext_getElem
    · simp
    · intro i h1 h2
      rw [List.length_map] at h1
      have e := hst i h1
      rw [h i (by omega)] at e
      simp only [List.getD, List.getElem?_eq_getElem h1, Option.getD_some] at e
      simp only [List.getElem_map, List.getElem_replicate]
      exact e.symm
  · intro h j _
    by_cases hj : j < xs.length
    · have e := congrArg dg h
      unfold zeroC at e
      rw [dg_text hd1, dg_text hd2] at e
      have e2 := congrArg (fun l => l.getD j 0) e
      simp only [List.getD, List.getElem?_map, List.getElem?_eq_getElem hj, Option.map_some, Option.getD_some, List.getElem?_replicate, if_pos hj] at e2
      rw [hst j hj]
      simp only [List.getD, List.getElem?_eq_getElem hj, Option.getD_some]
      exact e2
    · unfold stI
      rw [if_neg hj]

theorem size_int (w : World) : (sizeOf (3 : TypeId)).run Try.prog w = .ok 1 w := by kernel_rfl

theorem eql_six (d : Nat) (x0 x1 x2 x3 x4 x5 : Int) (w : World) : (Op.equalIn (d + 2) 104 (.agg #[.int .i64 x0, .int .i64 x1, .int .i64 x2, .int .i64 x3, .int .i64 x4, .int .i64 x5]) (.agg #[.int .i64 0, .int .i64 0, .int .i64 0, .int .i64 0, .int .i64 0, .int .i64 0])).run Try.prog w = .ok (decide (x0 = 0 ∧ x1 = 0 ∧ x2 = 0 ∧ x3 = 0 ∧ x4 = 0 ∧ x5 = 0)) w := by
  have hu : Try.prog.underlying 104 = some (.array 6 3) := by kernel_rfl
  rw [Op.equalIn]
  simp only [Sem.run_bind, run_underlying hu, Result.andThen_ok, size_int]
  rw [Std.Legacy.Range.forIn_eq_forIn_range']
  have hr : List.range' 0 (Std.Legacy.Range.size [0:6]) = [0, 1, 2, 3, 4, 5] := by decide
  rw [hr]
  by_cases h0 : x0 = 0
  · by_cases h1 : x1 = 0
    · by_cases h2 : x2 = 0
      · by_cases h3 : x3 = 0
        · by_cases h4 : x4 = 0
          · by_cases h5 : x5 = 0
            · simp [List.forIn_cons, go_sem, h0, h1, h2, h3, h4, h5]
            · simp [List.forIn_cons, go_sem, h0, h1, h2, h3, h4, h5]
          · simp [List.forIn_cons, go_sem, h0, h1, h2, h3, h4]
        · simp [List.forIn_cons, go_sem, h0, h1, h2, h3]
      · simp [List.forIn_cons, go_sem, h0, h1, h2]
    · simp [List.forIn_cons, go_sem, h0, h1]
  · simp [List.forIn_cons, go_sem, h0]

set_option maxRecDepth 100000 in
set_option maxHeartbeats 2000000 in
theorem period_any (a b q : Int) (A : Option Addr) (n c : Nat) (ks : List (List Int)) (w : World) (hm : n + lensAt ks n ≤ 1048576) (hA : KnobsC w A n ks) :
    Calls Try.prog 52 #[.agg #[.int .i64 a, .int .i64 b, .slice A n c], .int .i64 q] w fun e w' => e = .returned (.tuple #[.int .i64 (pkZ a b ks q), .bool (pkB a b ks q)]) ∧ Below w.heap.size w w' := by
  have HA := Lib.hid hA
  have HN := Lib.hid hA.len
  have hn2 : n ≤ 1048576 := by omega
  have CU := Lib.hid (Cells.new (W := w) (cs := #[.int .i64 a, .int .i64 b, .slice A n c]) (t := 31) (g := w.heap.size) (n := 3) rfl rfl)
  have HB0 := Lib.hid (show Below w.heap.size w (w.alloc (.cells #[.int .i64 a, .int .i64 b, .slice A n c] 31)) from (Below.refl _ _).alloc (Nat.le_refl _) _)
  clear hA
  by_cases hg : gkB a b ks q = true
  · have HG := Lib.hid hg
    have HPB : Hid (pkB a b ks q = true) := Lib.hid hg
    unfold gkB at hg
    rw [Bool.and_eq_true] at hg
    have HGY := Lib.hid (gearsB_yes hg.1)
    have hq1 := hg.2
    unfold inB at hq1
    rw [decide_eq_true_eq, HN.out] at hq1
    obtain ⟨qn, rfl⟩ : ∃ qn : Nat, q = qn := ⟨q.toNat, by omega⟩
    have hqn : qn < n := by omega
    have HKB := Lib.hid (HGY.out.2.2.2.2 qn (by rw [HN.out]; exact hqn))
    obtain ⟨xs, hxs⟩ : ∃ xs, ks.getD qn [] = xs := ⟨_, rfl⟩
    have HXS := Lib.hid hxs
    obtain ⟨_, _, b2, b10⟩ := good_yes HGY.out.1
    have HST := Lib.hid (show ∀ t : Nat, still b t xs = true ↔ perAt b xs (zeroC xs.length) t = zeroC xs.length from fun t => still_iff HGY.out.1 (by rw [← hxs]; exact HKB.out) t)
    clear hg hq1 hxs
    go_enter Try.func52, Try.ntmps52
    go_wp2_with (first
      | (go_at_call 76; refine (haveKnob_any _ _ _ _ _ _ ks _ hm ((HA.out.knobs hm).below HB0.out)).mono ?_; rw [HG.out]; rintro e w1 ⟨rfl, hb1⟩
         have D1 := Lib.hid (CU.out.call hb1)
         have B1 := Lib.hid (bel_call HB0.out hb1)
         clear hb1))
    go_loopw [6] (fun i wr => ∃ k : Nat, 1 ≤ k ∧ (k : Int) ≤ b ∧ i = .int .i64 k ∧ (∀ j : Nat, 1 ≤ j → j < k → still b j xs = false) ∧ Cells wr w.heap.size 3 (fun j => (#[.int .i64 a, .int .i64 b, .slice A n c] : Array Value).toList.getD j undef) ∧ Below w.heap.size w wr) (fun i _ => 10 - (intOf i).toNat)
    case atStart => exact ⟨1, by omega, by omega, rfl, fun j h1 h2 => by omega, D1.out, B1.out⟩
    case round =>
      clear D1 B1
      obtain ⟨k, hk1, hkb, rfl, hal, hD, hB⟩ := hrel
      have HD := Lib.hid hD
      have HAL := Lib.hid hal
      have HB := Lib.hid hB
      have l0 : wr.cell? ⟨w.heap.size, 0, none⟩ = some (.int .i64 a) := HD.out.cell (show 0 < 3 by omega)
      have l1 : wr.cell? ⟨w.heap.size, 1, none⟩ = some (.int .i64 b) := HD.out.cell (show 1 < 3 by omega)
      have l2 : wr.cell? ⟨w.heap.size, 2, none⟩ = some (.slice A n c) := HD.out.cell (show 2 < 3 by omega)
      clear hD hal hB
      have e1 : ∀ W : World, (Op.equalIn 10000 104 (.agg #[.int .i64 (stI b (k : Int) xs 0), .int .i64 (stI b (k : Int) xs 1), .int .i64 (stI b (k : Int) xs 2), .int .i64 (stI b (k : Int) xs 3), .int .i64 (stI b (k : Int) xs 4), .int .i64 (stI b (k : Int) xs 5)]) (.agg #[.int .i64 0, .int .i64 0, .int .i64 0, .int .i64 0, .int .i64 0, .int .i64 0])).run Try.prog W = .ok (still b (k : Int) xs) W := fun W => eql_six 9998 _ _ _ _ _ _ W
      obtain ⟨v, HV⟩ : ∃ v, Hid (still b (k : Int) xs = v) := ⟨_, Lib.hid rfl⟩
      rw [HV.out] at e1
      rcases v with _ | _
      · have hk2 : (k : Int) ≠ b := fun e => by
          have h := (HST.out k).2 (by
            have := per_back (bn := k) (xs := xs) (by omega) (by omega)
            rw [e] at this
            exact this)
          rw [HV.out] at h
          cases h
        go_wp2_with (go_at_call 91; refine (stepsOf_any _ _ _ _ _ _ _ ks _ hqn (HA.out.below HB.out) HGY.out.1 HKB.out (by omega)).mono ?_; rw [HXS.out]; rintro e w3 ⟨rfl, hb3⟩; unfold stepsV stF)
        go_roundw
        case rel => exact ⟨k + 1, by omega, by omega, by go_num, fun j h1 h2 => by
          by_cases hj : j = k
          · subst hj; exact HV.out
          · exact HAL.out j h1 (by omega), HD.out.call hb3, bel_call HB.out hb3⟩
        case measure => simp [intOf]; omega
      · have HZ : Hid (pkZ a b ks qn = k) := Lib.hid (by
          unfold pkZ
          rw [if_pos HPB.out, Int.toNat_natCast, HXS.out]
          have := perZ_of (b := b) (xs := xs) (z := zeroC xs.length) hk1 (by omega) ((HST.out k).1 HV.out) (fun i h1 h2 e => by
            have h := (HST.out i).2 e
            rw [HAL.out i h1 h2] at h
            cases h)
          rw [this])
        go_wp2_with (go_at_call 91; refine (stepsOf_any _ _ _ _ _ _ _ ks _ hqn (HA.out.below HB.out) HGY.out.1 HKB.out (by omega)).mono ?_; rw [HXS.out]; rintro e w3 ⟨rfl, hb3⟩; unfold stepsV stF)
        go_ret2
        exact ⟨by rw [HZ.out, HPB.out]; rfl, bel_call HB.out hb3⟩
  · have HG := Lib.hid (Bool.eq_false_iff.2 hg)
    have HPB : Hid (pkB a b ks q = false) := Lib.hid HG.out
    clear hg
    go_enter Try.func52, Try.ntmps52
    go_wp2_with (go_at_call 76; refine (haveKnob_any _ _ _ _ _ _ ks _ hm ((HA.out.knobs hm).below HB0.out)).mono ?_; rw [HG.out]; rintro e w1 ⟨rfl, hb1⟩)
    go_ret2
    exact ⟨by unfold pkZ; rw [HPB.out]; rfl, bel_call HB0.out hb1⟩

end Go.Proofs.Ytejpcbkhlnjlfaa
