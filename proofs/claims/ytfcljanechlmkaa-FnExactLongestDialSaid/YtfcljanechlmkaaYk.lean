/- Steps with the other sign, and back, as both programs tell them. For lists of at most 1048576 numbers. -/
import Derived.Test.YtfcljanechlmkaaYd
import Derived.Test.YtfcljanechlmkaaRv
import Derived.Lib.SlBuf
namespace Go.Proofs.Ytfcljanechlmkaa
open Go.ChangeShapes Go.WideShapes Go.ChangeAt Go.RowKit Go.Joins

/-- The first k steps with the other sign. -/
def ngL (xs : List Int) : Nat → List Int
  | 0 => []
  | k + 1 => ngL xs k ++ [-(xs.getD k 0)]

theorem ngL_length (xs : List Int) (k : Nat) : (ngL xs k).length = k := by
  induction k with
  | zero => rfl
  | succ k ih => rw [ngL, List.length_append, ih]; rfl

def otZ (xs : List Int) : List Int := if stepsB xs then ngL xs xs.length else []

set_option maxHeartbeats 1000000 in
theorem specOther_any (A : Option Addr) (n c : Nat) (xs : List Int) (w : World) (hn : n ≤ 1048576) (hA : IntsA w A n xs) :
    Calls Try.prog 43 #[.slice A n c] w (IntsL w (otZ xs) (stepsB xs)) := by
  obtain ⟨i0, hi, hy0, hy1, hy2⟩ := info_parts info_int
  have HL := Lib.hid hA.len
  have HA := Lib.hid hA
  clear hA
  obtain ⟨v, hv⟩ : ∃ v, stepsB xs = v := ⟨_, rfl⟩
  have HV := Lib.hid hv
  rcases v with _ | _
  · have HZ : Hid (otZ xs = []) := Lib.hid (by unfold otZ; rw [hv]; rfl)
    go_enter Try.func43, Try.ntmps43
    go_wp2_with (go_at_call 56; refine (diSteps_any _ _ _ xs _ hn HA.out).mono ?_; rw [HV.out]; rintro e wq ⟨rfl, hwq⟩; replace hwq := hwq.symm; subst hwq)
    go_ret2
    rw [HZ.out, HV.out]
    exact ints_none (Below.refl _ _)
  have HZ : Hid (otZ xs = ngL xs n) := Lib.hid (by unfold otZ; rw [hv, HL.out]; rfl)
  have hl12 := steps_len hv
  rw [HL.out] at hl12
  clear hv
  go_enter Try.func43, Try.ntmps43
  go_wp2_with (go_at_call 56; refine (diSteps_any _ _ _ xs _ hn HA.out).mono ?_; rw [HV.out]; rintro e wq ⟨rfl, hwq⟩; replace hwq := hwq.symm; subst hwq)
  go_loopw [4, 12] (fun v i wr => ∃ k : Nat, k ≤ n ∧ i = .int .i64 k ∧ wr.ownsRow w.heap.size 3 1 v k (iv (ngL xs k)) ∧ Below w.heap.size w wr) (fun _ i _ => n - (intOf i).toNat)
  case atStart => exact ⟨0, by omega, rfl, World.ownsRow_nil _ _ _ _, Below.refl _ _⟩
  case round =>
    obtain ⟨k, hk, rfl, hO, hB⟩ := hrel
    have HO := Lib.hid hO
    have HBr := Lib.hid hB
    clear hO hB
    by_cases hlt : k < n
    · obtain ⟨b, off, rfl, hb, hc⟩ := (HA.out.below HBr.out).at_.resolve_left (by omega)
      have o1 := hc k hlt
      obtain ⟨_, x0, x1⟩ := step_at HV.out (k := k) (by rw [HL.out]; exact hlt)
      have HS : Hid (ngL xs (k + 1) = ngL xs k ++ [-(xs.getD k 0)]) := Lib.hid rfl
      have hsz := HBr.out.size
      generalize xs.getD k 0 = x at o1 x0 x1 HS
      clear hc
      go_wp2_with (at_builtin; refine wpList_append_own _ rfl _ _ 22 rfl w.heap.size 3 i0 (.int .i64 0) 1 8 Try.underlying22 hi hy0 hy1 hy2 rfl (by decide) _ _ _ rfl (HO.out.alloc _) ⟨wr.heap.size, 0, none⟩ 1 1 [.int .i64 (-x)] rfl rfl (new_one rfl) (by simp [Value.oneCell']) (by unfold maxLen; omega) (by omega) (by simp; omega) ?_; intro v9 w9 hown9 hgrow9 hiff9; clear hiff9)
      have HO9 : Hid (w9.ownsRow w.heap.size 3 1 v9 (k + 1) (iv (ngL xs (k + 1)))) := Lib.hid (by rw [HS.out, iv, List.map_append]; exact hown9)
      have HB9 : Hid (Below w.heap.size w w9) := Lib.hid ((HBr.out.alloc hsz _).grown hgrow9 (by simp; omega) (fun j hj => (HO.out.lt j hj).1))
      clear hown9 hgrow9
      go_wp2_with fail
      go_roundw
      case rel => exact ⟨k + 1, by omega, by go_num, HO9.out, HB9.out⟩
      case measure => simp [intOf]; omega
    · obtain rfl : k = n := by omega
      obtain ⟨A9, c9, hv, hL⟩ := LI.of_row (xs := ngL xs k) (by rw [ngL_length]; exact HO.out) (by rw [ngL_length]; omega)
      rw [ngL_length] at hv
      subst hv
      go_wp2_with fail
      go_ret2
      rw [HZ.out, HV.out]
      exact ints_mk rfl (ngL_length _ _) hL HBr.out

set_option maxHeartbeats 1000000 in
theorem other_any (A : Option Addr) (n c : Nat) (xs : List Int) (w : World) (hn : n ≤ 1048576) (hA : IntsA w A n xs) :
    Calls Try.prog 44 #[.slice A n c] w (IntsL w (otZ xs) (stepsB xs)) := by
  obtain ⟨i0, hi, hy0, hy1, hy2⟩ := info_parts info_int
  have HL := Lib.hid hA.len
  have HA := Lib.hid hA
  clear hA
  obtain ⟨v, hv⟩ : ∃ v, stepsB xs = v := ⟨_, rfl⟩
  have HV := Lib.hid hv
  rcases v with _ | _
  · have HZ : Hid (otZ xs = []) := Lib.hid (by unfold otZ; rw [hv]; rfl)
    go_enter Try.func44, Try.ntmps44
    go_wp2_with (go_at_call 59; refine (areSteps_any _ _ _ xs _ hn HA.out).mono ?_; rw [HV.out]; rintro e wq ⟨rfl, hwq⟩; replace hwq := hwq.symm; subst hwq)
    go_ret2
    rw [HZ.out, HV.out]
    exact ints_none (Below.refl _ _)
  have HZ : Hid (otZ xs = ngL xs n) := Lib.hid (by unfold otZ; rw [hv, HL.out]; rfl)
  have hl12 := steps_len hv
  rw [HL.out] at hl12
  clear hv
  go_enter Try.func44, Try.ntmps44
  go_wp2_with (go_at_call 59; refine (areSteps_any _ _ _ xs _ hn HA.out).mono ?_; rw [HV.out]; rintro e wq ⟨rfl, hwq⟩; replace hwq := hwq.symm; subst hwq)
  go_loopw [4, 12] (fun v i wr => ∃ k : Nat, k ≤ n ∧ i = .int .i64 k ∧ wr.ownsRow w.heap.size 3 1 v k (iv (ngL xs k)) ∧ Below w.heap.size w wr) (fun _ i _ => n - (intOf i).toNat)
  case atStart => exact ⟨0, by omega, rfl, World.ownsRow_nil _ _ _ _, Below.refl _ _⟩
  case round =>
    obtain ⟨k, hk, rfl, hO, hB⟩ := hrel
    have HO := Lib.hid hO
    have HBr := Lib.hid hB
    clear hO hB
    by_cases hlt : k < n
    · obtain ⟨b, off, rfl, hb, hc⟩ := (HA.out.below HBr.out).at_.resolve_left (by omega)
      have o1 := hc k hlt
      obtain ⟨_, x0, x1⟩ := step_at HV.out (k := k) (by rw [HL.out]; exact hlt)
      have HS : Hid (ngL xs (k + 1) = ngL xs k ++ [-(xs.getD k 0)]) := Lib.hid rfl
      have hsz := HBr.out.size
      generalize xs.getD k 0 = x at o1 x0 x1 HS
      clear hc
      go_wp2_with (at_builtin; refine wpList_append_own _ rfl _ _ 22 rfl w.heap.size 3 i0 (.int .i64 0) 1 8 Try.underlying22 hi hy0 hy1 hy2 rfl (by decide) _ _ _ rfl (HO.out.alloc _) ⟨wr.heap.size, 0, none⟩ 1 1 [.int .i64 (-x)] rfl rfl (new_one rfl) (by simp [Value.oneCell']) (by unfold maxLen; omega) (by omega) (by simp; omega) ?_; intro v9 w9 hown9 hgrow9 hiff9; clear hiff9)
      have HO9 : Hid (w9.ownsRow w.heap.size 3 1 v9 (k + 1) (iv (ngL xs (k + 1)))) := Lib.hid (by rw [HS.out, iv, List.map_append]; exact hown9)
      have HB9 : Hid (Below w.heap.size w w9) := Lib.hid ((HBr.out.alloc hsz _).grown hgrow9 (by simp; omega) (fun j hj => (HO.out.lt j hj).1))
      clear hown9 hgrow9
      go_wp2_with fail
      go_roundw
      case rel => exact ⟨k + 1, by omega, by go_num, HO9.out, HB9.out⟩
      case measure => simp [intOf]; omega
    · obtain rfl : k = n := by omega
      obtain ⟨A9, c9, hv, hL⟩ := LI.of_row (xs := ngL xs k) (by rw [ngL_length]; exact HO.out) (by rw [ngL_length]; omega)
      rw [ngL_length] at hv
      subst hv
      go_wp2_with fail
      go_ret2
      rw [HZ.out, HV.out]
      exact ints_mk rfl (ngL_length _ _) hL HBr.out

theorem app_at {xs : List Int} {x : Int} {i : Nat} : (xs ++ [x]).getD i 0 = if i < xs.length then xs.getD i 0 else if i = xs.length then x else 0 := by
  simp only [List.getD]
  by_cases h : i < xs.length
  · rw [if_pos h, List.getElem?_append_left h]
  · rw [if_neg h]
    by_cases h2 : i = xs.length
    · subst h2
      rw [if_pos rfl]
      simp
    · rw [if_neg h2, List.getElem?_eq_none (by rw [List.length_append, List.length_singleton]; omega)]
      rfl

theorem ngL_at (xs : List Int) {k i : Nat} (h : i < k) : (ngL xs k).getD i 0 = -(xs.getD i 0) := by
  induction k with
  | zero => omega
  | succ k ih =>
    rw [ngL, app_at, ngL_length]
    by_cases h2 : i < k
    · rw [if_pos h2, ih h2]
    · obtain rfl : i = k := by omega
      rw [if_neg h2, if_pos rfl]

/-- The last j of n steps, back. -/
def bkS (xs : List Int) (n : Nat) : Nat → List Int
  | 0 => []
  | j + 1 => bkS xs n j ++ [-(xs.getD (n - 1 - j) 0)]

theorem bkS_length (xs : List Int) (n j : Nat) : (bkS xs n j).length = j := by
  induction j with
  | zero => rfl
  | succ j ih => rw [bkS, List.length_append, ih]; rfl

theorem bkS_at (xs : List Int) (n : Nat) {j i : Nat} (h : i < j) : (bkS xs n j).getD i 0 = -(xs.getD (n - 1 - i) 0) := by
  induction j with
  | zero => omega
  | succ j ih =>
    rw [bkS, app_at, bkS_length]
    by_cases h2 : i < j
    · rw [if_pos h2, ih h2]
    · obtain rfl : i = j := by omega
      rw [if_neg h2, if_pos rfl]

theorem ext_at {xs ys : List Int} (hl : xs.length = ys.length) (h : ∀ i, i < xs.length → xs.getD i 0 = ys.getD i 0) : xs = ys := by
  refine List.ext_getElem hl fun i h1 h2 => ?_
  have := h i h1
  simpa [List.getD, List.getElem?_eq_getElem h1, List.getElem?_eq_getElem h2] using this

theorem rev_atY (xs : List Int) {j : Nat} (h : j < xs.length) : xs.reverse.getD j 0 = xs.getD (xs.length - 1 - j) 0 := by
  rw [List.getD, List.getD, List.getElem?_reverse h]

theorem bkS_eq (xs : List Int) (n : Nat) : bkS xs n n = (ngL xs n).reverse := by
  refine ext_at (by rw [List.length_reverse, bkS_length, ngL_length]) fun i hi => ?_
  rw [bkS_length] at hi
  rw [bkS_at xs n hi, rev_atY _ (by rw [ngL_length]; exact hi), ngL_length, ngL_at xs (by omega)]

def baZ (xs : List Int) : List Int := (otZ xs).reverse

set_option maxHeartbeats 1000000 in
theorem specBack_any (A : Option Addr) (n c : Nat) (xs : List Int) (w : World) (hn : n ≤ 1048576) (hA : IntsA w A n xs) :
    Calls Try.prog 45 #[.slice A n c] w (IntsL w (baZ xs) (stepsB xs)) := by
  obtain ⟨i0, hi, hy0, hy1, hy2⟩ := info_parts info_int
  have HL := Lib.hid hA.len
  have HA := Lib.hid hA
  clear hA
  obtain ⟨v, hv⟩ : ∃ v, stepsB xs = v := ⟨_, rfl⟩
  have HV := Lib.hid hv
  rcases v with _ | _
  · have HZ : Hid (baZ xs = []) := Lib.hid (by unfold baZ otZ; rw [hv]; rfl)
    go_enter Try.func45, Try.ntmps45
    go_wp2_with (go_at_call 56; refine (diSteps_any _ _ _ xs _ hn HA.out).mono ?_; rw [HV.out]; rintro e wq ⟨rfl, hwq⟩; replace hwq := hwq.symm; subst hwq)
    go_ret2
    rw [HZ.out, HV.out]
    exact ints_none (Below.refl _ _)
  have HZ : Hid (baZ xs = bkS xs n n) := Lib.hid (by unfold baZ otZ; rw [hv, if_pos rfl, HL.out, bkS_eq])
  have hl12 := steps_len hv
  rw [HL.out] at hl12
  clear hv
  go_enter Try.func45, Try.ntmps45
  go_wp2_with (go_at_call 56; refine (diSteps_any _ _ _ xs _ hn HA.out).mono ?_; rw [HV.out]; rintro e wq ⟨rfl, hwq⟩; replace hwq := hwq.symm; subst hwq)
  go_loopw [4, 5] (fun v i wr => ∃ (k : Nat) (x : Int), k ≤ n ∧ i = .int .i64 x ∧ x = (n : Int) - 1 - (k : Int) ∧ wr.ownsRow w.heap.size 3 1 v k (iv (bkS xs n k)) ∧ Below w.heap.size w wr) (fun _ i _ => (intOf i + 1).toNat)
  case atStart => exact ⟨0, (n : Int) - 1, by omega, rfl, by simp, World.ownsRow_nil _ _ _ _, Below.refl _ _⟩
  case round =>
    obtain ⟨k, x, hk, rfl, hx, hO, hB⟩ := hrel
    have HO := Lib.hid hO
    have HBr := Lib.hid hB
    clear hO hB
    by_cases hlt : k < n
    · obtain ⟨b, off, rfl, hb, hc⟩ := (HA.out.below HBr.out).at_.resolve_left (by omega)
      obtain ⟨r, rfl⟩ : ∃ r : Nat, x = r := ⟨x.toNat, by omega⟩
      have hr : n - 1 - k = r := by omega
      have o1 := hc r (by omega)
      obtain ⟨_, x0, x1⟩ := step_at HV.out (k := r) (by rw [HL.out]; omega)
      have HS : Hid (bkS xs n (k + 1) = bkS xs n k ++ [-(xs.getD r 0)]) := Lib.hid (by rw [← hr]; rfl)
      have hsz := HBr.out.size
      have hrn : (r : Int) < (n : Int) := by omega
      have HX := Lib.hid hx
      generalize xs.getD r 0 = y at o1 x0 x1 HS
      clear hc hr hx
      go_wp2_with (at_builtin; refine wpList_append_own _ rfl _ _ 22 rfl w.heap.size 3 i0 (.int .i64 0) 1 8 Try.underlying22 hi hy0 hy1 hy2 rfl (by decide) _ _ _ rfl (HO.out.alloc _) ⟨wr.heap.size, 0, none⟩ 1 1 [.int .i64 (-y)] rfl rfl (new_one rfl) (by simp [Value.oneCell']) (by unfold maxLen; omega) (by omega) (by simp; omega) ?_; intro v9 w9 hown9 hgrow9 hiff9; clear hiff9)
      have HO9 : Hid (w9.ownsRow w.heap.size 3 1 v9 (k + 1) (iv (bkS xs n (k + 1)))) := Lib.hid (by rw [HS.out, iv, List.map_append]; exact hown9)
      have HB9 : Hid (Below w.heap.size w w9) := Lib.hid ((HBr.out.alloc hsz _).grown hgrow9 (by simp; omega) (fun j hj => (HO.out.lt j hj).1))
      clear hown9 hgrow9
      go_wp2_with fail
      go_roundw
      case rel => exact ⟨k + 1, (r : Int) - 1, by omega, by first | rfl | (congr 1; omega), by have := HX.out; omega, HO9.out, HB9.out⟩
      case measure => simp [intOf]; try omega
    · obtain rfl : k = n := by omega
      have hxn : x < 0 := by omega
      obtain ⟨A9, c9, hv, hL⟩ := LI.of_row (xs := bkS xs k k) (by rw [bkS_length]; exact HO.out) (by rw [bkS_length]; omega)
      rw [bkS_length] at hv
      subst hv
      go_wp2_with fail
      go_ret2
      rw [HZ.out, HV.out]
      exact ints_mk rfl (bkS_length _ _ _) hL HBr.out

/-- What the library leaves of a list told backwards. -/
theorem set_cellsY {w : World} {g n : Nat} {f : Nat → Value} {ys : List Int} {q : Nat} (h : Cells w g n f) (hl : ys.length = n) :
    Cells ((w.drewN q).setCells g 0 (ys.map (Value.int .i64))) g n (digF ys) := by
  have hlen : (ys.map (Value.int .i64)).length = n := by rw [List.length_map]; exact hl
  have hb : Below 0 w ((w.drewN q).setCells g 0 (ys.map (Value.int .i64))) := Go.Lib.below_setCells g (Nat.zero_le _) _ _ (bel_drewN (Below.refl 0 w) q)
  refine ⟨Nat.lt_of_lt_of_le h.lt hb.size, fun j hj => ?_⟩
  have hin := World.cell?_setCells_in g (ys.map (Value.int .i64)) 0 (w.drewN q) (fun i hi => by
    rw [hlen] at hi
    have : (w.drewN q).cell? ⟨g, 0 + i, none⟩ = some (f i) := by rw [Nat.zero_add]; exact (h.drewN q).cell hi
    rw [this]; rfl) j (by rw [hlen]; exact hj)
  rw [Nat.zero_add] at hin
  refine ⟨?_, ?_⟩
  · rw [hin]
    unfold digF
    simp [List.getD, List.getElem?_eq_getElem (show j < ys.length by omega)]
  · rw [World.frozen?_setCells]
    exact (h.drewN q).frozen hj

set_option maxHeartbeats 1000000 in
theorem back_any (A : Option Addr) (n c : Nat) (xs : List Int) (w : World) (hn : n ≤ 1048576) (hA : IntsA w A n xs) :
    Calls Try.prog 46 #[.slice A n c] w (IntsL w (baZ xs) (stepsB xs)) := by
  have HA := Lib.hid hA
  clear hA
  obtain ⟨v, hv⟩ : ∃ v, stepsB xs = v := ⟨_, rfl⟩
  have HV := Lib.hid hv
  obtain ⟨ys, hys⟩ : ∃ ys, otZ xs = ys := ⟨_, rfl⟩
  have HY := Lib.hid hys
  have HZ : Hid (baZ xs = ys.reverse) := Lib.hid (by unfold baZ; rw [hys])
  clear hv hys
  by_cases h0 : ys.length = 0
  · have hn0 : ys = [] := List.eq_nil_of_length_eq_zero h0
    subst hn0
    go_enter Try.func46, Try.ntmps46
    go_wp2_with (first | (go_at_call 44; refine (other_any _ _ _ xs _ hn HA.out).mono ?_; rw [HY.out, HV.out]; rintro e w1 ⟨A1, c1, rfl, hL, hb⟩) | (go_at_call 84; refine (Try.slices_Reverse_int_empty _ _ _).mono ?_; rintro e wq ⟨rfl, hwq⟩; replace hwq := hwq.symm; subst hwq))
    go_ret2
    rw [HZ.out, HV.out]
    exact ints_mk rfl rfl hL hb
  · obtain ⟨N, hN⟩ : ∃ N, ys.length = N := ⟨_, rfl⟩
    have HN := Lib.hid hN
    have HNN := Lib.hid (show N ≠ 0 by omega)
    clear h0 hN
    go_enter Try.func46, Try.ntmps46
    go_wp2_with (go_at_call 44; refine (other_any _ _ _ xs _ hn HA.out).mono ?_; rw [HY.out, HV.out]; rintro e w1 ⟨A1, c1, rfl, hL, hb⟩; rw [HN.out])
    obtain ⟨h1000, h0 | ⟨g, rfl, hg0, hg1, hC⟩⟩ := hL
    · exact absurd (HN.out.symm.trans h0) HNN.out
    · rw [HN.out] at hC h1000
      have HC := Lib.hid hC
      have HB := Lib.hid hb
      clear hC hb
      go_wp2_with (go_at_call 84; refine (Try.slices_Reverse_int_cells g 0 N c1 ys _ (by rw [HN.out]; exact Nat.le_refl _) (by omega) (fun j hj => by rw [Nat.zero_add]; exact HC.out.cell (by rw [HN.out] at hj; exact hj)) (fun j hj => by rw [Nat.zero_add]; exact HC.out.frozen hj)).mono ?_; rintro e w3 ⟨rfl, q, hw3⟩
                   have HB3 := Lib.hid (show Below w.heap.size w w3 from (by rw [hw3]; exact Go.Lib.below_setCells g hg0 _ _ (bel_drewN HB.out q)))
                   have HC3 : Hid (Cells w3 g N (digF ys.reverse)) := Lib.hid (by rw [hw3, List.take_of_length_le (by rw [HN.out]; exact Nat.le_refl _)]; exact set_cellsY HC.out (by rw [List.length_reverse]; exact HN.out))
                   clear hw3)
      go_ret2
      rw [HZ.out, HV.out]
      exact ints_mk rfl (by rw [List.length_reverse]; exact HN.out) ⟨by rw [List.length_reverse, HN.out]; exact h1000, .inr ⟨g, rfl, hg0, HC3.out.lt, by rw [List.length_reverse, HN.out]; exact HC3.out⟩⟩ HB3.out

end Go.Proofs.Ytfcljanechlmkaa
