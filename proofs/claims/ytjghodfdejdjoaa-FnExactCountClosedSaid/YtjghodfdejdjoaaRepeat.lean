/- The library's slices.Repeat, of one turn a few times. For at most a thousand times. -/
import Derived.Test.YtjghodfdejdjoaaCopy
import Derived.Test.YtjghodfdejdjoaaShelf
import Derived.StillTailTactics
namespace Go.Proofs.Ytjghodfdejdjoaa
open Go Go.ChangeShapes Go.WideShapes Go.ChangeAt Go.RowKit Go.Joins

theorem mul_one_any (k : Nat) (hk : k ≤ 1000) (w : World) :
    Calls Try.prog 67 #[.int .u64 1, .int .u64 (k : Int)] w fun e w' => e = .returned (.tuple #[.int .u64 0, .int .u64 (k : Int)]) ∧ w = w' := by
  refine (Go.Proofs.Try.bits_Mul 1 k (by omega) (by omega) w).mono ?_
  rintro e w' ⟨rfl, rfl⟩
  rw [Nat.one_mul, Nat.div_eq_of_lt (by omega), Nat.mod_eq_of_lt (by omega)]
  exact ⟨rfl, rfl⟩

set_option maxHeartbeats 1000000 in
set_option maxRecDepth 100000 in
theorem repeat_any (g c k : Nat) (x y : Int) (w : World) (hC : Cells w g 2 (turnF [(x, y)])) (hk : k ≤ 1000) :
    Calls Try.prog 63 #[.slice (some ⟨g, 0, none⟩) 1 c, .int .i64 (k : Int)] w fun e w' => ∃ g', e = .returned (.slice (some ⟨g', 0, none⟩) k k) ∧ w.heap.size ≤ g' ∧ Cells w' g' (k * 2) (turnF (List.replicate k (x, y))) ∧ Below w.heap.size w w' := by
  have HC := Lib.hid hC
  have hmk := make_turns k (by omega)
  obtain ⟨i0, hi, hz0, hz1, hz2⟩ := info_parts info_turn
  have hsz : (Try.prog.info? 55).map (·.size) = some 2 := by rw [hi]; simp [hz1]
  obtain ⟨m, hm⟩ : ∃ m, m = Nat.min 1 k := ⟨_, rfl⟩
  have hmk2 : m ≤ k ∧ (0 < k → 1 ≤ m) ∧ m ≤ 1 := by
    rcases Nat.eq_zero_or_pos k with h | h
    · subst h; rw [hm]; decide
    · have : Nat.min 1 k = 1 := Nat.min_eq_left h
      omega
  obtain ⟨m1, m2, m3⟩ := hmk2
  have hrow0 : (madeCells #[.int .i64 0, .int .i64 0] (k * 2)).toList = rowT x y k 0 := by rw [Nat.mul_comm]; exact rowT_zero x y k
  have hcp := run_copyN (P := Try.prog) (w.alloc (.cells (madeCells #[.int .i64 0, .int .i64 0] (k * 2)) 55)) 68 68 3 55 2 w.heap.size 0 k k ⟨g, 0, none⟩ 1 c m (madeCells #[.int .i64 0, .int .i64 0] (k * 2)) 55 (partT x y m) Try.underlying68 hsz (heap_alloc_new w _) hm (partT_length x y m) (fun j v hv => by
    have hj : j < 2 * m := by
      have := (List.getElem?_eq_some_iff.1 hv).1
      rw [partT_length] at this; omega
    rw [partT_at hj] at hv
    injection hv with hv
    subst hv
    have h := (HC.out.alloc (.cells (madeCells #[.int .i64 0, .int .i64 0] (k * 2)) 55)).cell (show j < 2 by omega)
    have ha : (⟨g, 0, none⟩ : Addr).add j = ⟨g, j, none⟩ := by unfold Addr.add; split <;> simp_all
    rw [ha, h]
    have : j = 0 ∨ j = 1 := by omega
    rcases this with rfl | rfl <;> rfl) (by rw [size_madeCells, partT_length]; omega) (partT_one x y m)
  rw [hrow0] at hcp
  have hst := rowT_step (x := x) (y := y) (k := k) (n := 0) (m := m) (by omega)
  rw [Nat.mul_zero] at hst
  rw [hst, Nat.zero_add] at hcp
  obtain ⟨w2, hw2⟩ : ∃ w2, w2 = (w.alloc (.cells (madeCells #[.int .i64 0, .int .i64 0] (k * 2)) 55)).setRow w.heap.size (rowT x y k m).toArray := ⟨_, rfl⟩
  rw [← hw2] at hcp
  have HR2 : Hid (w2.heap[w.heap.size]? = some (.cells (rowT x y k m).toArray 55 (0, 0))) := Lib.hid (by
    rw [hw2]; exact setRow_heap _ _ _ _ _ _ (heap_alloc_new w _))
  have HB2 : Hid (Below w.heap.size w w2) := Lib.hid (by rw [hw2]; exact below_setRow ((Below.refl _ _).alloc (Nat.le_refl _) _) (Nat.le_refl _) _)
  clear hC hw2 hst hrow0 hm
  go_enter Try.func63, Try.ntmps63
  go_wp2_with (go_at_call 67; refine (mul_one_any _ hk _).mono ?_; rintro e w1 ⟨rfl, rfl⟩)
  clear hcp hmk
  go_loopw [8] (fun v wr => ∃ n : Nat, n ≤ k ∧ (0 < k → 1 ≤ n) ∧ v = .int .i64 n ∧ wr.heap[w.heap.size]? = some (.cells (rowT x y k n).toArray 55 (0, 0)) ∧ Below w.heap.size w wr) (fun v _ => k - (intOf v).toNat)
  case atStart => exact ⟨m, m1, m2, rfl, HR2.out, HB2.out⟩
  case round =>
    obtain ⟨n, hn, hn1, rfl, hR, hB⟩ := hrel
    have HR := Lib.hid hR
    clear hR
    by_cases hlt : n < k
    · go_wp2_with fail
      obtain ⟨d, hd⟩ : ∃ d, d = Nat.min n (k - n) := ⟨_, rfl⟩
      have hd1 : d ≤ n ∧ n + d ≤ k ∧ (0 < d) := by
        rcases Nat.le_total n (k - n) with h | h
        · have e : Nat.min n (k - n) = n := Nat.min_eq_left h
          omega
        · have e : Nat.min n (k - n) = k - n := Nat.min_eq_right h
          omega
      obtain ⟨d1, d2, d3⟩ := hd1
      have hcp2 := run_copyN (P := Try.prog) wr.drew 68 68 3 55 2 w.heap.size (n * 2) (k - n) (k - n) ⟨w.heap.size, 0, none⟩ n k d (rowT x y k n).toArray 55 (partT x y d) Try.underlying68 hsz HR.out hd (partT_length x y d) (fun j v hv => by
        have hj : j < 2 * d := by
          have := (List.getElem?_eq_some_iff.1 hv).1
          rw [partT_length] at this; omega
        rw [partT_at hj] at hv
        injection hv with hv
        subst hv
        have ha : (⟨w.heap.size, 0, none⟩ : Addr).add j = ⟨w.heap.size, j, none⟩ := by unfold Addr.add; split <;> simp_all
        have h2 : wr.drew.heap[w.heap.size]? = some (.cells (rowT x y k n).toArray 55 (0, 0)) := HR.out
        rw [ha]
        have : (rowT x y k n)[j]? = some (cellT x y j) := by rw [rowT_at (by omega), if_pos (by omega)]
        simp [World.cell?, h2, this]) (by simp only [List.size_toArray, rowT_length, partT_length]; omega) (partT_one x y d)
      have hst := rowT_step (x := x) (y := y) (k := k) (n := n) (m := d) d2
      rw [List.append_assoc, Nat.mul_comm 2 n] at hst
      have HST := Lib.hid hst
      clear hst hd
      go_region
      rw [HST.out]
      clear hcp2
      go_wp2_with fail
      go_roundw
      case rel => exact ⟨n + d, d2, fun _ => by omega, by go_num, setRow_heap _ _ _ _ _ _ HR.out, below_setRow (bel_drew hB) (Nat.le_refl _) _⟩
      case measure => simp [intOf]; omega
    · go_wp2_with fail
      go_ret
      have e : n = k := by omega
      subst e
      exact ⟨_, rfl, Nat.le_refl _, row_cells HR.out, hB⟩

end Go.Proofs.Ytjghodfdejdjoaa
