/- Steps of the same sign added, as both programs tell them. For lists of at most 1048576 numbers. -/
import Derived.Test.YtfcljanechlmkaaYk
namespace Go.Proofs.Ytfcljanechlmkaa
open Go.ChangeShapes Go.WideShapes Go.ChangeAt Go.RowKit Go.Joins

/-- A number of a row of the call's own is stored. -/
theorem own_store {w : World} {base g n c : Nat} {T : TypeId} {xs : List Int} (h : w.ownsRow base T 1 (.slice (some ⟨g, 0, none⟩) n c) n (iv xs)) (k : Nat) (x : Int) :
    (w.setCell ⟨g, k, none⟩ (.int .i64 x)).ownsRow base T 1 (.slice (some ⟨g, 0, none⟩) n c) n (iv (xs.set k x)) := by
  refine ⟨by have := h.1; unfold iv at this ⊢; rw [List.length_map] at this ⊢; rw [List.length_set]; exact this, ?_⟩
  rcases h.2 with ⟨e, _⟩ | ⟨g', cap, cur, e, hb, hg, h1, h2, h3, h4⟩
  · cases e
  · injection e with e1 _ e3
    injection e1 with e1
    injection e1 with e1
    subst e1 e3
    refine .inr ⟨g, c, cur.setIfInBounds k (.int .i64 x), rfl, hb, heap_setCell_same w g k cur T _ hg, h1, h2, by rw [Array.size_setIfInBounds]; exact h3, ?_⟩
    rw [Array.toList_setIfInBounds, List.take_set, h4]
    unfold iv
    rw [List.map_set]

/-- The first k steps merged. -/
def mgL (xs : List Int) : Nat → List Int
  | 0 => []
  | k + 1 => if 0 < k ∧ dirI (xs.getD (k - 1) 0) = dirI (xs.getD k 0) then (mgL xs k).set ((mgL xs k).length - 1) ((mgL xs k).getD ((mgL xs k).length - 1) 0 + xs.getD k 0) else mgL xs k ++ [xs.getD k 0]

/-- The last of them. -/
def mgE (xs : List Int) (k : Nat) : Int := (mgL xs k).getD ((mgL xs k).length - 1) 0

theorem mgL_length (xs : List Int) (k : Nat) : (mgL xs k).length ≤ k ∧ (0 < k → 0 < (mgL xs k).length) := by
  induction k with
  | zero => simp [mgL]
  | succ k ih =>
    rw [mgL]
    split
    · next h => rw [List.length_set]; have := ih.2 h.1; omega
    · rw [List.length_append, List.length_singleton]; omega

theorem set_last {xs : List Int} (h : 0 < xs.length) (x : Int) : (xs.set (xs.length - 1) x).getD ((xs.set (xs.length - 1) x).length - 1) 0 = x := by
  rw [List.length_set]
  simp only [List.getD]
  rw [List.getElem?_set_self (by omega)]
  rfl

theorem mgE_ok {xs : List Int} (hs : stepsB xs = true) : ∀ k, 0 < k → k ≤ xs.length → mgE xs k ≠ 0 ∧ dirI (mgE xs k) = dirI (xs.getD (k - 1) 0) ∧ -(1000 * (k : Int)) ≤ mgE xs k ∧ mgE xs k ≤ 1000 * (k : Int)
  | 0, h, _ => by omega
  | k + 1, _, hk => by
    obtain ⟨x0, x1, x2⟩ := step_at hs (k := k) (by omega)
    have hlen := mgL_length xs k
    rw [show k + 1 - 1 = k by omega]
    by_cases h : 0 < k ∧ dirI (xs.getD (k - 1) 0) = dirI (xs.getD k 0)
    · obtain ⟨h1, h2, h3, h4⟩ := mgE_ok hs k h.1 (by omega)
      have e : mgE xs (k + 1) = mgE xs k + xs.getD k 0 := by
        unfold mgE
        rw [mgL, if_pos h]
        exact set_last (hlen.2 h.1) _
      rw [e]
      rw [h.2] at h2
      generalize mgE xs k = z at h1 h2 h3 h4
      generalize xs.getD k 0 = x at x0 x1 x2 h2
      unfold dirI at h2 ⊢
      split at h2 <;> split at h2 <;> split <;> omega
    · have e : mgE xs (k + 1) = xs.getD k 0 := by
        unfold mgE
        rw [mgL, if_neg h, app_at, List.length_append, List.length_singleton]
        rw [if_neg (by omega), if_pos (by omega)]
      rw [e]
      exact ⟨x0, rfl, by omega, by omega⟩

theorem sgn_dir {x : Int} (h : x ≠ 0) : sgnI x = dirI x := by unfold sgnI dirI; split <;> split <;> omega

def mgB (xs : List Int) : Bool := stepsB xs && stepsB (mgL xs xs.length)

def mgZ (xs : List Int) : List Int := if mgB xs then mgL xs xs.length else []

theorem row_ints {w : World} {B n : Nat} {v : Value} {xs : List Int} (h : w.ownsRow B 3 1 v n (iv xs)) (hn : xs.length = n) (hl : n ≤ 1000) : ∃ A c, v = .slice A n c ∧ LI w B w.heap.size A xs ∧ IntsA w A n xs := by
  subst hn
  obtain ⟨A, c, e, hL⟩ := LI.of_row h hl
  exact ⟨A, c, e, hL, hL.ints⟩

/-- What stands behind the first k steps. -/
structure MgR (w0 w : World) (xs : List Int) (k : Nat) (v : Value) : Prop where
  row : w.ownsRow w0.heap.size 3 1 v (mgL xs k).length (iv (mgL xs k))
  bel : Below w0.heap.size w0 w

set_option maxHeartbeats 2000000 in
theorem merge_any (A : Option Addr) (n c : Nat) (xs : List Int) (w : World) (hn : n ≤ 1048576) (hA : IntsA w A n xs) :
    Calls Try.prog 42 #[.slice A n c] w (IntsL w (mgZ xs) (mgB xs)) := by
  obtain ⟨i0, hi, hy0, hy1, hy2⟩ := info_parts info_int
  have HL := Lib.hid hA.len
  have HA := Lib.hid hA
  clear hA
  obtain ⟨v, hv⟩ : ∃ v, stepsB xs = v := ⟨_, rfl⟩
  have HV := Lib.hid hv
  rcases v with _ | _
  · have HB : Hid (mgB xs = false) := Lib.hid (by unfold mgB; rw [hv]; rfl)
    have HZ : Hid (mgZ xs = []) := Lib.hid (by unfold mgZ; rw [HB.out]; rfl)
    go_enter Try.func42, Try.ntmps42
    go_wp2_with (go_at_call 59; refine (areSteps_any _ _ _ xs _ hn HA.out).mono ?_; rw [HV.out]; rintro e wq ⟨rfl, hwq⟩; replace hwq := hwq.symm; subst hwq)
    go_ret2
    rw [HZ.out, HB.out]
    exact ints_none (Below.refl _ _)
  have hl12 := steps_len hv
  rw [HL.out] at hl12
  have HB : Hid (mgB xs = stepsB (mgL xs n)) := Lib.hid (by unfold mgB; rw [hv, HL.out]; rfl)
  clear hv
  go_enter Try.func42, Try.ntmps42
  go_wp2_with (go_at_call 59; refine (areSteps_any _ _ _ xs _ hn HA.out).mono ?_; rw [HV.out]; rintro e wq ⟨rfl, hwq⟩; replace hwq := hwq.symm; subst hwq)
  go_loopw [4, 12] (fun v i wr => ∃ k : Nat, k ≤ n ∧ i = .int .i64 k ∧ MgR w wr xs k v) (fun _ i _ => n - (intOf i).toNat)
  case atStart => exact ⟨0, by omega, rfl, ⟨World.ownsRow_nil _ _ _ _, Below.refl _ _⟩⟩
  case round =>
    obtain ⟨k, hk, rfl, hR⟩ := hrel
    have HO := Lib.hid hR.row
    have HBr := Lib.hid hR.bel
    clear hR
    have hsz := HBr.out.size
    obtain ⟨hlen, hpos⟩ := mgL_length xs k
    by_cases hlt : k < n
    · obtain ⟨b, off, rfl, hb, hc⟩ := (HA.out.below HBr.out).at_.resolve_left (by omega)
      have o1 := hc k hlt
      obtain ⟨_, x0, x1⟩ := step_at HV.out (k := k) (by rw [HL.out]; exact hlt)
      by_cases h0 : 0 < k
      · obtain ⟨r, rfl⟩ : ∃ r, k = r + 1 := ⟨k - 1, by omega⟩
        have o0 := hc r (by omega)
        have hr1 : (r : Int) < (n : Int) := by omega
        have hw1 : IntKind.i64.wrap ((r : Int) + 1 - 1) = (r : Int) := by rw [show (r : Int) + 1 - 1 = r by omega]; exact IntWalk.i64_in _ (by omega)
        obtain ⟨e0, e1, e2, e3⟩ := mgE_ok HV.out (r + 1) h0 (by rw [HL.out]; omega)
        rw [show r + 1 - 1 = r by omega] at e1
        have hpos := hpos h0
        obtain ⟨g, c9, rfl, hgB, hg⟩ := own_cells HO.out hpos
        have HC := Lib.hid hg
        have HSI : Hid (mgL xs (r + 1 + 1) = if 0 < r + 1 ∧ dirI (xs.getD r 0) = dirI (xs.getD (r + 1) 0) then (mgL xs (r + 1)).set ((mgL xs (r + 1)).length - 1) (mgE xs (r + 1) + xs.getD (r + 1) 0) else mgL xs (r + 1) ++ [xs.getD (r + 1) 0]) := Lib.hid rfl
        have HEE : Hid (mgE xs (r + 1) = (mgL xs (r + 1)).getD ((mgL xs (r + 1)).length - 1) 0) := Lib.hid rfl
        generalize xs.getD (r + 1) 0 = x at o1 x0 x1 HSI
        generalize xs.getD r 0 = y at o0 HSI e1
        generalize mgE xs (r + 1) = z at HSI HEE e0 e1 e2 e3
        obtain ⟨L, hLe⟩ : ∃ L, mgL xs (r + 1) = L := ⟨_, rfl⟩
        rw [hLe] at HO HC HSI HEE hlen hpos ⊢
        clear hc hg hLe
        obtain ⟨dy, hdy⟩ : ∃ d, dirI y = d := ⟨_, rfl⟩
        obtain ⟨dx, hdx⟩ : ∃ d, dirI x = d := ⟨_, rfl⟩
        have HDY := Lib.hid hdy
        have HDX := Lib.hid hdx
        obtain ⟨N, hN⟩ : ∃ N, L.length = N := ⟨_, rfl⟩
        have HN := Lib.hid hN
        rw [hN] at HO HC HSI HEE hlen hpos ⊢
        have z0 : wr.cell? ⟨g, N - 1, none⟩ = some (.int .i64 z) := by rw [HC.out.cell (by omega), HEE.out]; rfl
        have f0 := HC.out.frozen (j := N - 1) (by omega)
        have hgl := HC.out.lt
        obtain ⟨M, rfl⟩ : ∃ M, N = M + 1 := ⟨N - 1, by omega⟩
        have hM1 : (M : Int) < (M : Int) + 1 := by omega
        rw [show M + 1 - 1 = M by omega] at z0 f0 HSI
        rw [show M + 1 - 1 = M by omega] at HEE
        have hw2 : IntKind.i64.wrap ((M : Int) + 1 - 1) = (M : Int) := by rw [show (M : Int) + 1 - 1 = M by omega]; exact IntWalk.i64_in _ (by omega)
        have hw3 : IntKind.i64.wrap (z + x) = z + x := IntWalk.i64_in _ (by omega)
        clear hdy hdx hN
        by_cases hd : dy = dx
        · have HS : Hid (mgL xs (r + 1 + 1) = L.set M (z + x)) := Lib.hid (by rw [HSI.out, if_pos ⟨by omega, by rw [HDY.out, HDX.out]; exact hd⟩])
          go_wp2_with (first | (go_at_call_of 69 y; refine (directionOf_any y _).mono ?_; rw [HDY.out]; rintro e wq ⟨rfl, hwq⟩; replace hwq := hwq.symm; subst hwq) | (go_at_call 69; refine (directionOf_any x _).mono ?_; rw [HDX.out]; rintro e wq ⟨rfl, hwq⟩; replace hwq := hwq.symm; subst hwq))
          refine ⟨⟨r + 1 + 1, by omega, by go_num, ⟨?_, HBr.out.setCell hgB _⟩⟩, ?_⟩
          · rw [HS.out, List.length_set, HN.out]
            exact own_store HO.out M (z + x)
          · simp [intOf]; omega
        · have HS : Hid (mgL xs (r + 1 + 1) = L ++ [x]) := Lib.hid (by rw [HSI.out, if_neg (fun h => hd (by rw [← HDY.out, ← HDX.out]; exact h.2))])
          go_wp2_with (first | (go_at_call_of 69 y; refine (directionOf_any y _).mono ?_; rw [HDY.out]; rintro e wq ⟨rfl, hwq⟩; replace hwq := hwq.symm; subst hwq) | (go_at_call 69; refine (directionOf_any x _).mono ?_; rw [HDX.out]; rintro e wq ⟨rfl, hwq⟩; replace hwq := hwq.symm; subst hwq) | (at_builtin; refine wpList_append_own _ rfl _ _ 22 rfl w.heap.size 3 i0 (.int .i64 0) 1 8 Try.underlying22 hi hy0 hy1 hy2 rfl (by decide) _ _ _ rfl (HO.out.alloc _) ⟨wr.heap.size, 0, none⟩ 1 1 [.int .i64 x] rfl rfl (new_one rfl) (by simp [Value.oneCell']) (by unfold maxLen; omega) (by omega) (by simp; omega) ?_; intro v9 w9 hown9 hgrow9 hiff9; clear hiff9))
          have HO9 : Hid (w9.ownsRow w.heap.size 3 1 v9 (mgL xs (r + 1 + 1)).length (iv (mgL xs (r + 1 + 1)))) := Lib.hid (by rw [HS.out, List.length_append, HN.out, iv, List.map_append]; exact hown9)
          have HB9 : Hid (Below w.heap.size w w9) := Lib.hid ((HBr.out.alloc hsz _).grown hgrow9 (by simp; omega) (fun j hj => (HO.out.lt j hj).1))
          clear hown9 hgrow9
          go_wp2_with fail
          go_roundw
          case rel => exact ⟨r + 1 + 1, by omega, by go_num, ⟨HO9.out, HB9.out⟩⟩
          case measure => simp [intOf]; omega
      · have HS : Hid (mgL xs (k + 1) = mgL xs k ++ [xs.getD k 0]) := Lib.hid (by rw [mgL, if_neg (by omega)])
        generalize xs.getD k 0 = x at o1 x0 x1 HS
        clear hc
        go_wp2_with (at_builtin; refine wpList_append_own _ rfl _ _ 22 rfl w.heap.size 3 i0 (.int .i64 0) 1 8 Try.underlying22 hi hy0 hy1 hy2 rfl (by decide) _ _ _ rfl (HO.out.alloc _) ⟨wr.heap.size, 0, none⟩ 1 1 [.int .i64 x] rfl rfl (new_one rfl) (by simp [Value.oneCell']) (by unfold maxLen; omega) (by omega) (by simp; omega) ?_; intro v9 w9 hown9 hgrow9 hiff9; clear hiff9)
        have HO9 : Hid (w9.ownsRow w.heap.size 3 1 v9 (mgL xs (k + 1)).length (iv (mgL xs (k + 1)))) := Lib.hid (by rw [HS.out, List.length_append, iv, List.map_append]; exact hown9)
        have HB9 : Hid (Below w.heap.size w w9) := Lib.hid ((HBr.out.alloc hsz _).grown hgrow9 (by simp; omega) (fun j hj => (HO.out.lt j hj).1))
        clear hown9 hgrow9
        go_wp2_with fail
        go_roundw
        case rel => exact ⟨k + 1, by omega, by go_num, ⟨HO9.out, HB9.out⟩⟩
        case measure => simp [intOf]; omega
    · obtain rfl : k = n := by omega
      obtain ⟨A9, c9, hv, hL, hI⟩ := row_ints HO.out rfl (by omega)
      have HI := Lib.hid hI
      subst hv
      obtain ⟨u, hu⟩ : ∃ u, stepsB (mgL xs k) = u := ⟨_, rfl⟩
      have HU := Lib.hid hu
      rcases u with _ | _
      · have HZ : Hid (mgZ xs = []) := Lib.hid (by unfold mgZ; rw [HB.out, hu]; rfl)
        go_wp2_with (go_at_call 59; refine (areSteps_any _ _ _ _ _ (by omega) HI.out).mono ?_; rw [HU.out]; rintro e wq ⟨rfl, hwq⟩; replace hwq := hwq.symm; subst hwq)
        go_ret2
        rw [HZ.out, HB.out, HU.out]
        exact ints_none HBr.out
      · have HZ : Hid (mgZ xs = mgL xs k) := Lib.hid (by unfold mgZ; rw [HB.out, hu, HL.out]; rfl)
        go_wp2_with (go_at_call 59; refine (areSteps_any _ _ _ _ _ (by omega) HI.out).mono ?_; rw [HU.out]; rintro e wq ⟨rfl, hwq⟩; replace hwq := hwq.symm; subst hwq)
        go_ret2
        rw [HZ.out, HB.out, HU.out]
        exact ints_mk rfl rfl hL HBr.out

set_option maxHeartbeats 2000000 in
theorem specMerge_any (A : Option Addr) (n c : Nat) (xs : List Int) (w : World) (hn : n ≤ 1048576) (hA : IntsA w A n xs) :
    Calls Try.prog 41 #[.slice A n c] w (IntsL w (mgZ xs) (mgB xs)) := by
  obtain ⟨i0, hi, hy0, hy1, hy2⟩ := info_parts info_int
  have HL := Lib.hid hA.len
  have HA := Lib.hid hA
  clear hA
  obtain ⟨v, hv⟩ : ∃ v, stepsB xs = v := ⟨_, rfl⟩
  have HV := Lib.hid hv
  rcases v with _ | _
  · have HB : Hid (mgB xs = false) := Lib.hid (by unfold mgB; rw [hv]; rfl)
    have HZ : Hid (mgZ xs = []) := Lib.hid (by unfold mgZ; rw [HB.out]; rfl)
    go_enter Try.func41, Try.ntmps41
    go_wp2_with (go_at_call 56; refine (diSteps_any _ _ _ xs _ hn HA.out).mono ?_; rw [HV.out]; rintro e wq ⟨rfl, hwq⟩; replace hwq := hwq.symm; subst hwq)
    go_ret2
    rw [HZ.out, HB.out]
    exact ints_none (Below.refl _ _)
  have hl12 := steps_len hv
  rw [HL.out] at hl12
  have HB : Hid (mgB xs = stepsB (mgL xs n)) := Lib.hid (by unfold mgB; rw [hv, HL.out]; rfl)
  clear hv
  go_enter Try.func41, Try.ntmps41
  go_wp2_with (go_at_call 56; refine (diSteps_any _ _ _ xs _ hn HA.out).mono ?_; rw [HV.out]; rintro e wq ⟨rfl, hwq⟩; replace hwq := hwq.symm; subst hwq)
  go_loopw [4, 13] (fun v i wr => ∃ k : Nat, k ≤ n ∧ i = .int .i64 k ∧ MgR w wr xs k v) (fun _ i _ => n - (intOf i).toNat)
  case atStart => exact ⟨0, by omega, rfl, ⟨World.ownsRow_nil _ _ _ _, Below.refl _ _⟩⟩
  case round =>
    obtain ⟨k, hk, rfl, hR⟩ := hrel
    have HO := Lib.hid hR.row
    have HBr := Lib.hid hR.bel
    clear hR
    have hsz := HBr.out.size
    obtain ⟨hlen, hpos⟩ := mgL_length xs k
    by_cases hlt : k < n
    · obtain ⟨b, off, rfl, hb, hc⟩ := (HA.out.below HBr.out).at_.resolve_left (by omega)
      have o1 := hc k hlt
      obtain ⟨xn, x0, x1⟩ := step_at HV.out (k := k) (by rw [HL.out]; exact hlt)
      by_cases h0 : 0 < k
      · obtain ⟨r, rfl⟩ : ∃ r, k = r + 1 := ⟨k - 1, by omega⟩
        have o0 := hc r (by omega)
        have hr1 : (r : Int) < (n : Int) := by omega
        have hw1 : IntKind.i64.wrap ((r : Int) + 1 - 1) = (r : Int) := by rw [show (r : Int) + 1 - 1 = r by omega]; exact IntWalk.i64_in _ (by omega)
        obtain ⟨e0, e1, e2, e3⟩ := mgE_ok HV.out (r + 1) h0 (by rw [HL.out]; omega)
        rw [show r + 1 - 1 = r by omega] at e1
        have hpos := hpos h0
        obtain ⟨g, c9, rfl, hgB, hg⟩ := own_cells HO.out hpos
        have HC := Lib.hid hg
        have HSI : Hid (mgL xs (r + 1 + 1) = if 0 < r + 1 ∧ dirI (xs.getD r 0) = dirI (xs.getD (r + 1) 0) then (mgL xs (r + 1)).set ((mgL xs (r + 1)).length - 1) (mgE xs (r + 1) + xs.getD (r + 1) 0) else mgL xs (r + 1) ++ [xs.getD (r + 1) 0]) := Lib.hid rfl
        have HEE : Hid (mgE xs (r + 1) = (mgL xs (r + 1)).getD ((mgL xs (r + 1)).length - 1) 0) := Lib.hid rfl
        generalize xs.getD (r + 1) 0 = x at o1 x0 x1 xn HSI
        generalize xs.getD r 0 = y at o0 HSI e1
        generalize mgE xs (r + 1) = z at HSI HEE e0 e1 e2 e3
        obtain ⟨L, hLe⟩ : ∃ L, mgL xs (r + 1) = L := ⟨_, rfl⟩
        rw [hLe] at HO HC HSI HEE hlen hpos ⊢
        clear hc hg hLe
        obtain ⟨dy, hdy⟩ : ∃ d, dirI y = d := ⟨_, rfl⟩
        obtain ⟨dx, hdx⟩ : ∃ d, dirI x = d := ⟨_, rfl⟩
        have HDY : Hid (sgnI z = dy) := Lib.hid (by rw [sgn_dir e0, e1, hdy])
        have HDX : Hid (sgnI x = dx) := Lib.hid (by rw [sgn_dir xn, hdx])
        have HY := Lib.hid hdy
        have HX := Lib.hid hdx
        obtain ⟨N, hN⟩ : ∃ N, L.length = N := ⟨_, rfl⟩
        have HN := Lib.hid hN
        rw [hN] at HO HC HSI HEE hlen hpos ⊢
        have z0 : wr.cell? ⟨g, N - 1, none⟩ = some (.int .i64 z) := by rw [HC.out.cell (by omega), HEE.out]; rfl
        have f0 := HC.out.frozen (j := N - 1) (by omega)
        have hgl := HC.out.lt
        obtain ⟨M, rfl⟩ : ∃ M, N = M + 1 := ⟨N - 1, by omega⟩
        have hM1 : (M : Int) < (M : Int) + 1 := by omega
        rw [show M + 1 - 1 = M by omega] at z0 f0 HSI
        rw [show M + 1 - 1 = M by omega] at HEE
        have hw2 : IntKind.i64.wrap ((M : Int) + 1 - 1) = (M : Int) := by rw [show (M : Int) + 1 - 1 = M by omega]; exact IntWalk.i64_in _ (by omega)
        have hw3 : IntKind.i64.wrap (z + x) = z + x := IntWalk.i64_in _ (by omega)
        clear hdy hdx hN
        by_cases hd : dy = dx
        · have HS : Hid (mgL xs (r + 1 + 1) = L.set M (z + x)) := Lib.hid (by rw [HSI.out, if_pos ⟨by omega, by rw [HY.out, HX.out]; exact hd⟩])
          go_wp2_with (first | (go_at_call_of 83 z; refine (l1Sign_any z _).mono ?_; rw [HDY.out]; rintro e wq ⟨rfl, hwq⟩; replace hwq := hwq.symm; subst hwq) | (go_at_call 83; refine (l1Sign_any x _).mono ?_; rw [HDX.out]; rintro e wq ⟨rfl, hwq⟩; replace hwq := hwq.symm; subst hwq))
          refine ⟨⟨r + 1 + 1, by omega, by go_num, ⟨?_, HBr.out.setCell hgB _⟩⟩, ?_⟩
          · rw [HS.out, List.length_set, HN.out]
            exact own_store HO.out M (z + x)
          · simp [intOf]; omega
        · have HS : Hid (mgL xs (r + 1 + 1) = L ++ [x]) := Lib.hid (by rw [HSI.out, if_neg (fun h => hd (by rw [← HY.out, ← HX.out]; exact h.2))])
          go_wp2_with (first | (go_at_call_of 83 z; refine (l1Sign_any z _).mono ?_; rw [HDY.out]; rintro e wq ⟨rfl, hwq⟩; replace hwq := hwq.symm; subst hwq) | (go_at_call 83; refine (l1Sign_any x _).mono ?_; rw [HDX.out]; rintro e wq ⟨rfl, hwq⟩; replace hwq := hwq.symm; subst hwq) | (at_builtin; refine wpList_append_own _ rfl _ _ 22 rfl w.heap.size 3 i0 (.int .i64 0) 1 8 Try.underlying22 hi hy0 hy1 hy2 rfl (by decide) _ _ _ rfl (HO.out.alloc _) ⟨wr.heap.size, 0, none⟩ 1 1 [.int .i64 x] rfl rfl (new_one rfl) (by simp [Value.oneCell']) (by unfold maxLen; omega) (by omega) (by simp; omega) ?_; intro v9 w9 hown9 hgrow9 hiff9; clear hiff9))
          have HO9 : Hid (w9.ownsRow w.heap.size 3 1 v9 (mgL xs (r + 1 + 1)).length (iv (mgL xs (r + 1 + 1)))) := Lib.hid (by rw [HS.out, List.length_append, HN.out, iv, List.map_append]; exact hown9)
          have HB9 : Hid (Below w.heap.size w w9) := Lib.hid ((HBr.out.alloc hsz _).grown hgrow9 (by simp; omega) (fun j hj => (HO.out.lt j hj).1))
          clear hown9 hgrow9
          go_wp2_with fail
          go_roundw
          case rel => exact ⟨r + 1 + 1, by omega, by go_num, ⟨HO9.out, HB9.out⟩⟩
          case measure => simp [intOf]; omega
      · have HS : Hid (mgL xs (k + 1) = mgL xs k ++ [xs.getD k 0]) := Lib.hid (by rw [mgL, if_neg (by omega)])
        generalize xs.getD k 0 = x at o1 x0 x1 HS
        clear hc
        have hl0 : (mgL xs k).length = 0 := by omega
        have HL0 := Lib.hid hl0
        obtain ⟨A8, c8, hv8, _, _⟩ := row_ints HO.out rfl (by omega)
        subst hv8
        rw [hl0] at HO ⊢
        clear hl0
        go_wp2_with (at_builtin; refine wpList_append_own _ rfl _ _ 22 rfl w.heap.size 3 i0 (.int .i64 0) 1 8 Try.underlying22 hi hy0 hy1 hy2 rfl (by decide) _ _ _ rfl (HO.out.alloc _) ⟨wr.heap.size, 0, none⟩ 1 1 [.int .i64 x] rfl rfl (new_one rfl) (by simp [Value.oneCell']) (by unfold maxLen; omega) (by omega) (by simp; omega) ?_; intro v9 w9 hown9 hgrow9 hiff9; clear hiff9)
        have HO9 : Hid (w9.ownsRow w.heap.size 3 1 v9 (mgL xs (k + 1)).length (iv (mgL xs (k + 1)))) := Lib.hid (by rw [HS.out, List.length_append, HL0.out, iv, List.map_append]; exact hown9)
        have HB9 : Hid (Below w.heap.size w w9) := Lib.hid ((HBr.out.alloc hsz _).grown hgrow9 (by simp; omega) (fun j hj => (HO.out.lt j hj).1))
        clear hown9 hgrow9
        go_wp2_with fail
        go_roundw
        case rel => exact ⟨k + 1, by omega, by go_num, ⟨HO9.out, HB9.out⟩⟩
        case measure => simp [intOf]; omega
    · obtain rfl : k = n := by omega
      obtain ⟨A9, c9, hv, hL, hI⟩ := row_ints HO.out rfl (by omega)
      have HI := Lib.hid hI
      subst hv
      obtain ⟨u, hu⟩ : ∃ u, stepsB (mgL xs k) = u := ⟨_, rfl⟩
      have HU := Lib.hid hu
      rcases u with _ | _
      · have HZ : Hid (mgZ xs = []) := Lib.hid (by unfold mgZ; rw [HB.out, hu]; rfl)
        go_wp2_with (go_at_call 56; refine (diSteps_any _ _ _ _ _ (by omega) HI.out).mono ?_; rw [HU.out]; rintro e wq ⟨rfl, hwq⟩; replace hwq := hwq.symm; subst hwq)
        go_ret2
        rw [HZ.out, HB.out, HU.out]
        exact ints_none HBr.out
      · have HZ : Hid (mgZ xs = mgL xs k) := Lib.hid (by unfold mgZ; rw [HB.out, hu, HL.out]; rfl)
        go_wp2_with (go_at_call 56; refine (diSteps_any _ _ _ _ _ (by omega) HI.out).mono ?_; rw [HU.out]; rintro e wq ⟨rfl, hwq⟩; replace hwq := hwq.symm; subst hwq)
        go_ret2
        rw [HZ.out, HB.out, HU.out]
        exact ints_mk rfl rfl hL HBr.out

end Go.Proofs.Ytfcljanechlmkaa
