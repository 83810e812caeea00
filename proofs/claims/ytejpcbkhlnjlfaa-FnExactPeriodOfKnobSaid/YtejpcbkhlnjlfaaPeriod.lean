/- The period of a knob, as the model tells it. For at most 1048576 numbers. -/
import Derived.Test.YtejpcbkhlnjlfaaKnobs2
import Derived.Test.YtejpcbkhlnjlfaaOfNumber
import Derived.Test.YtejpcbkhlnjlfaaWithout2
namespace Go.Proofs.Ytejpcbkhlnjlfaa
open Go.ChangeShapes Go.WideShapes Go.ChangeAt Go.RowKit Go.Joins

/-- The code behind so many turns. -/
def perAt (b : Int) (xs : List Int) (z : ByteArray) : Nat → ByteArray
  | 0 => z
  | k + 1 => turnK b 1 (perAt b xs z k) xs

/-- The first code. -/
def zeroC (n : Nat) : ByteArray := textOf (List.replicate n 0)

theorem digL_zero (b : Int) (n : Nat) : digL b 0 n = List.replicate n 0 := by
  unfold digL
  apply List.ext_getElem
  · simp
  · intro i h1 h2
    simp

theorem per_text {b : Int} {xs : List Int} (h2 : 2 ≤ b) (h10 : b ≤ 10) (k : Nat) : perAt b xs (zeroC xs.length) k = textOf (xs.map fun y => ((k : Int) * y) % b) := by
  induction k with
  | zero =>
    show textOf (List.replicate xs.length 0) = _
    congr 1
    apply List.ext_getElem
    · simp
    · intro i h1 h2
      simp
  | succ k ih =>
    rw [perAt, ih, turnK, dg_text (fun j hj => by
      rw [List.length_map] at hj
      simp only [List.getD, List.getElem?_map, List.getElem?_eq_getElem hj, Option.map_some, Option.getD_some]
      have h1 := Int.emod_nonneg ((k : Int) * xs[j]) (show b ≠ 0 by omega)
      have h2 := Int.emod_lt_of_pos ((k : Int) * xs[j]) (show 0 < b by omega)
      omega)]
    congr 1
    apply List.ext_getElem
    · simp
    · intro i h1 h2
      simp only [List.getElem_zipWith, List.getElem_map, addN]
      have key : ∀ y : Int, ((k : Int) * y % b + 1 * y) % b = ((k + 1 : Nat) : Int) * y % b := fun y => by
        rw [Int.one_mul, Int.emod_add_emod, Int.natCast_add, Int.natCast_one, Int.add_mul, Int.one_mul]
      exact key _

theorem per_back {bn : Nat} {xs : List Int} (h2 : 2 ≤ bn) (h10 : bn ≤ 10) : perAt bn xs (zeroC xs.length) bn = zeroC xs.length := by
  rw [per_text (by omega) (by omega)]
  unfold zeroC
  congr 1
  apply List.ext_getElem
  · simp
  · intro i h1 h2
    simp

/-- The least number of turns that lead back. -/
def perZ (b : Int) (xs : List Int) (z : ByteArray) : Nat := ((List.range 11).find? fun t => decide (1 ≤ t) && decide (perAt b xs z t = z)).getD 0

theorem perZ_of {b : Int} {xs : List Int} {z : ByteArray} {t : Nat} (h1 : 1 ≤ t) (h10 : t ≤ 10) (he : perAt b xs z t = z) (hn : ∀ i, 1 ≤ i → i < t → perAt b xs z i ≠ z) : perZ b xs z = t := by
  unfold perZ
  have : (List.range 11).find? (fun t => decide (1 ≤ t) && decide (perAt b xs z t = z)) = some t := by
    rw [List.find?_range_eq_some]
    refine ⟨by simp [h1, he], by simp; omega, fun j hj => ?_⟩
    by_cases hj1 : 1 ≤ j
    · simp [hn j hj1 hj]
    · simp [hj1]
  rw [this]
  rfl

theorem bytes_ne {x y : ByteArray} (h : x ≠ y) : (x.toList == y.toList) = false := by
  rw [ByteArray.toList_eq, ByteArray.toList_eq]
  have : x.data.toList ≠ y.data.toList := fun e => h (by cases x; cases y; simp only [ByteArray.mk.injEq]; exact Array.toList_inj.1 e)
  simpa using this

def pkB (a b : Int) (ks : List (List Int)) (q : Int) : Bool := gearsB a b ks && inB q 0 ((ks.length : Int) - 1)

def pkZ (a b : Int) (ks : List (List Int)) (q : Int) : Int := if pkB a b ks q then perZ b (ks.getD q.toNat []) (zeroC (ks.getD q.toNat []).length) else 0

set_option maxHeartbeats 2000000 in
theorem specPeriod_any (a b q : Int) (A : Option Addr) (n c : Nat) (ks : List (List Int)) (w : World) (hm : n + lensAt ks n ≤ 1048576) (hA : KnobsC w A n ks) :
    Calls Try.prog 51 #[.agg #[.int .i64 a, .int .i64 b, .slice A n c], .int .i64 q] w fun e w' => e = .returned (.tuple #[.int .i64 (pkZ a b ks q), .bool (pkB a b ks q)]) ∧ Below w.heap.size w w' := by
  have HA := Lib.hid hA
  have HN := Lib.hid hA.len
  have hn2 : n ≤ 1048576 := by omega
  have CU : Cells (w.alloc (.cells #[.int .i64 a, .int .i64 b, .slice A n c] 31)) w.heap.size 3 (gF a b (.slice A n c)) := Cells.new (n := 3) rfl rfl
  have hB0 : Below w.heap.size w (w.alloc (.cells #[.int .i64 a, .int .i64 b, .slice A n c] 31)) := (Below.refl _ _).alloc (Nat.le_refl _) _
  have HU := Lib.hid CU
  have HB0 := Lib.hid hB0
  clear hA CU hB0
  by_cases hg : gearsB a b ks = true
  · have HG := Lib.hid hg
    have HGY := Lib.hid (gearsB_yes hg)
    clear hg
    obtain ⟨u, HU2⟩ : ∃ u, Hid (inB q 0 ((n : Int) - 1) = u) := ⟨_, Lib.hid rfl⟩
    have HD : Hid (pkB a b ks q = u) := Lib.hid (by unfold pkB; rw [HN.out, HU2.out, HG.out]; rfl)
    rcases u with _ | _
    · go_enter Try.func51, Try.ntmps51
      go_wp2_with (first
        | (go_at_call 62; refine (joGood_any _ _ _ _ _ ks _ hm ((HA.out.knobs hm).below HB0.out)).mono ?_; rw [HG.out]; rintro e w1 ⟨rfl, hb1⟩
           have D1 := Lib.hid (HU.out.call hb1)
           have B1 := Lib.hid (bel_call HB0.out hb1)
           have l2 : w1.cell? ⟨w.heap.size, 2, none⟩ = some (.slice A n c) := D1.out.cell (show 2 < 3 by omega)
           clear hb1)
        | (go_at_call 74; refine (l1In_any _ _ _ _).mono ?_; rw [HU2.out]; rintro e w2 ⟨rfl, rfl⟩))
      go_ret2
      exact ⟨by unfold pkZ; rw [HD.out]; rfl, B1.out⟩
    · have hq1 := HU2.out
      unfold inB at hq1
      rw [decide_eq_true_eq] at hq1
      obtain ⟨qn, rfl⟩ : ∃ qn : Nat, q = qn := ⟨q.toNat, by omega⟩
      have hqn : qn < n := by omega
      have hkq := HGY.out.2.2.2.2 qn (by rw [HN.out]; exact hqn)
      obtain ⟨a1, a6, b2, b10⟩ := good_yes HGY.out.1
      obtain ⟨an, rfl⟩ : ∃ an : Nat, a = an := ⟨a.toNat, by omega⟩
      obtain ⟨bn, rfl⟩ : ∃ bn : Nat, b = bn := ⟨b.toNat, by omega⟩
      have HKN := Lib.hid hkq
      have hal : (an : Int) = ((ks.getD qn []).length : Int) := (knobB_yes hkq).1
      have HAL : Hid ((ks.getD qn []).length = an) := Lib.hid (by omega)
      have HZB := Lib.hid (per_back (bn := bn) (xs := ks.getD qn []) (by omega) (by omega))
      have HZ0 : Hid (textOf (digL bn 0 an) = zeroC an) := Lib.hid (by rw [digL_zero]; rfl)
      rw [HAL.out] at HZB
      have HASK : Hid (∀ t, askB (an : Int) bn (perAt bn (ks.getD qn []) (zeroC an) t) = true) := Lib.hid (fun t => by
        induction t with
        | zero =>
          show askB _ _ (textOf (List.replicate an 0)) = true
          refine knob_ask HGY.out.1 ?_
          unfold knobB inB
          simp
          omega
        | succ t ih => exact turnK_ask ih HKN.out)
      clear hq1 hkq hal
      go_enter Try.func51, Try.ntmps51
      go_wp2_with (first
        | (go_at_call 62; refine (joGood_any _ _ _ _ _ ks _ hm ((HA.out.knobs hm).below HB0.out)).mono ?_; rw [HG.out]; rintro e w1 ⟨rfl, hb1⟩
           have D1 := Lib.hid (HU.out.call hb1)
           have B1 := Lib.hid (bel_call HB0.out hb1)
           have l0 : w1.cell? ⟨w.heap.size, 0, none⟩ = some (.int .i64 (an : Int)) := D1.out.cell (show 0 < 3 by omega)
           have l1 : w1.cell? ⟨w.heap.size, 1, none⟩ = some (.int .i64 (bn : Int)) := D1.out.cell (show 1 < 3 by omega)
           have l2 : w1.cell? ⟨w.heap.size, 2, none⟩ = some (.slice A n c) := D1.out.cell (show 2 < 3 by omega)
           clear hb1)
        | (go_at_call 74; refine (l1In_any _ _ _ _).mono ?_; rw [HU2.out]; rintro e w2 ⟨rfl, rfl⟩))
      refine (whOf_any _ _ _ _ HGY.out.1 (by omega) (by omega)).mono ?_
      rw [HZ0.out]
      rintro e w3 ⟨rfl, hb3⟩
      have D3 := Lib.hid (D1.out.call hb3)
      have B3 := Lib.hid (bel_call B1.out hb3)
      clear l0 l1 l2 hb3
      have l0 : w3.cell? ⟨w.heap.size, 0, none⟩ = some (.int .i64 (an : Int)) := D3.out.cell (show 0 < 3 by omega)
      have l1 : w3.cell? ⟨w.heap.size, 1, none⟩ = some (.int .i64 (bn : Int)) := D3.out.cell (show 1 < 3 by omega)
      have l2 : w3.cell? ⟨w.heap.size, 2, none⟩ = some (.slice A n c) := D3.out.cell (show 2 < 3 by omega)
      go_wp2_with fail
      refine (joTurn_any _ _ 1 _ _ _ _ _ ks _ hqn (HA.out.below B3.out) (HASK.out 0) HKN.out (by omega)).mono ?_
      rintro e w4 ⟨rfl, hb4⟩
      have D4 := Lib.hid (D3.out.call hb4)
      have B4 := Lib.hid (bel_call B3.out hb4)
      have HZ1 : Hid (turnK bn 1 (perAt bn (ks.getD qn []) (zeroC an) 0) (ks.getD qn []) = perAt bn (ks.getD qn []) (zeroC an) 1) := Lib.hid rfl
      rw [HZ1.out]
      clear l0 l1 l2 hb4
      go_wp2_with fail
      have hD := D4.out
      have hB := B4.out
      clear D4 B4 D3 B3 D1 B1
      go_loopw [7, 8] (fun v i wr => ∃ t : Nat, 1 ≤ t ∧ t ≤ bn ∧ i = .int .i64 t ∧ v = .string (perAt bn (ks.getD qn []) (zeroC an) t) ∧ (∀ i, 1 ≤ i → i < t → perAt bn (ks.getD qn []) (zeroC an) i ≠ zeroC an) ∧ Cells wr w.heap.size 3 (gF an bn (.slice A n c)) ∧ Below w.heap.size w wr) (fun _ i _ => bn - (intOf i).toNat)
      case atStart => exact ⟨1, by omega, by omega, rfl, rfl, fun i h1 h2 => by omega, hD, hB⟩
      case round =>
        clear hD hB
        obtain ⟨t, ht1, htb, rfl, rfl, hne, hD, hB⟩ := hrel
        have HNE := Lib.hid hne
        have HD2 := Lib.hid hD
        clear hne hD
        have HAT := Lib.hid (HASK.out t)
        have HNX : Hid (perAt bn (ks.getD qn []) (zeroC an) (t + 1) = turnK bn 1 (perAt bn (ks.getD qn []) (zeroC an) t) (ks.getD qn [])) := Lib.hid rfl
        by_cases hz : perAt bn (ks.getD qn []) (zeroC an) t = zeroC an
        · have HPZ := Lib.hid (perZ_of ht1 (by omega) hz HNE.out)
          rw [hz]
          generalize hzz : zeroC an = z at HPZ HNE HNX HAT ⊢
          have HZZ := Lib.hid hzz
          clear hz hzz
          go_wp2_with fail
          go_ret2
          refine ⟨?_, hB⟩
          unfold pkZ
          rw [HD.out, Int.toNat_natCast, HAL.out, HZZ.out, HPZ.out]
          rfl
        · have hlt : t < bn := by
            rcases Nat.lt_or_ge t bn with h | h
            · exact h
            · obtain rfl : t = bn := by omega
              exact absurd HZB.out hz
          have HZ := Lib.hid hz
          have heq := bytes_ne hz
          have l0 : wr.cell? ⟨w.heap.size, 0, none⟩ = some (.int .i64 (an : Int)) := HD2.out.cell (show 0 < 3 by omega)
          have l1 : wr.cell? ⟨w.heap.size, 1, none⟩ = some (.int .i64 (bn : Int)) := HD2.out.cell (show 1 < 3 by omega)
          have l2 : wr.cell? ⟨w.heap.size, 2, none⟩ = some (.slice A n c) := HD2.out.cell (show 2 < 3 by omega)
          clear hz
          generalize hu : perAt bn (ks.getD qn []) (zeroC an) t = u at heq HAT HNX ⊢
          have HU3 := Lib.hid hu
          clear hu
          generalize hzz : zeroC an = z at heq ⊢
          have HZZ := Lib.hid hzz
          clear hzz
          go_wp2_with (go_at_call 75; refine (joTurn_any _ _ 1 _ _ _ _ _ ks _ hqn (HA.out.below hB) HAT.out HKN.out (by omega)).mono ?_; rintro e w5 ⟨rfl, hb5⟩)
          go_roundw
          case rel => exact ⟨t + 1, by omega, by omega, by go_num, by rw [← HZZ.out, HNX.out]; simp, fun i h1 h2 => by
            rw [← HZZ.out]
            by_cases e : i = t
            · subst e; exact HZ.out
            · exact HNE.out i h1 (by omega), HD2.out.call hb5, bel_call hB hb5⟩
          case measure => simp [intOf]; omega
  · have HG := Lib.hid (Bool.eq_false_iff.2 hg)
    have HD : Hid (pkB a b ks q = false) := Lib.hid (by unfold pkB; rw [HG.out]; rfl)
    clear hg
    go_enter Try.func51, Try.ntmps51
    go_wp2_with (go_at_call 62; refine (joGood_any _ _ _ _ _ ks _ hm ((HA.out.knobs hm).below HB0.out)).mono ?_; rw [HG.out]; rintro e w1 ⟨rfl, hb1⟩)
    go_ret2
    exact ⟨by unfold pkZ; rw [HD.out]; rfl, bel_call HB0.out hb1⟩

end Go.Proofs.Ytejpcbkhlnjlfaa
