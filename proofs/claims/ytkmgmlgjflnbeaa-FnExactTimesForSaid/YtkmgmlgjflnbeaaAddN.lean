/- A code turned by another one so many times, as the model makes it. For at most a thousand times. -/
import Derived.Test.YtkmgmlgjflnbeaaAdd
namespace Go.Proofs.Ytkmgmlgjflnbeaa
open Go.ChangeShapes Go.WideShapes Go.ChangeAt Go.RowKit Go.Joins

def addN (b m x y : Int) : Int := (x + m * y) % b

theorem addN_bd {b : Int} (m : Int) (h : 2 ≤ b) (x y : Int) : 0 ≤ addN b m x y ∧ addN b m x y < b := ⟨Int.emod_nonneg _ (by omega), Int.emod_lt_of_pos _ (by omega)⟩

theorem mul_bd {m y : Int} (h1 : -1000 ≤ m) (h2 : m ≤ 1000) (h3 : 0 ≤ y) (h4 : y ≤ 9) : -9000 ≤ m * y ∧ m * y ≤ 9000 := by
  have : y = 0 ∨ y = 1 ∨ y = 2 ∨ y = 3 ∨ y = 4 ∨ y = 5 ∨ y = 6 ∨ y = 7 ∨ y = 8 ∨ y = 9 := by omega
  rcases this with rfl | rfl | rfl | rfl | rfl | rfl | rfl | rfl | rfl | rfl <;> omega

set_option maxHeartbeats 2000000 in
theorem whAddN_any (a b m : Int) (s t : ByteArray) (w : World) (h : askB a b s = true) (ht : askB a b t = true) (hm : -1000 ≤ m ∧ m ≤ 1000) :
    Calls Try.prog 40 #[.agg #[.int .i64 a, .int .i64 b], .string s, .string t, .int .i64 m] w fun e w' => e = .returned (.string (textOf ((dg s).zipWith (addN b m) (dg t)))) ∧ Below w.heap.size w w' := by
  have HA := Lib.hid (asked h)
  have HT := Lib.hid (asked ht)
  obtain ⟨n6, b2, b10⟩ : s.size ≤ 6 ∧ 2 ≤ b ∧ b ≤ 10 := ⟨HA.out.n6, HA.out.b2, HA.out.b10⟩
  have n6' := HT.out.n6
  obtain ⟨hm1, hm2⟩ := hm
  clear h ht
  go_enter Try.func40, Try.ntmps40
  go_wp2_with (first | (go_at_call_of 43 s; refine (whDigits_any _ _ HA.out.digits (by omega) HA.out.n1).mono ?_; rintro e w1 ⟨g1, c1, rfl, hg1, hC1, hb1⟩) | (go_at_call_of 43 t; refine (whDigits_any _ _ HT.out.digits (by omega) HT.out.n1).mono ?_; rintro e w2 ⟨g2, c2, rfl, hg2, hC2, hb2⟩))
  have hB : Below w.heap.size w w2 := by (repeat (first | assumption | exact Below.refl _ _ | (refine Below.alloc ?_ (by first | omega | (simp; done) | (simp; omega)) _) | (refine Below.setCell ?_ (by first | omega | (simp; done) | (simp; omega)) _) | refine bel_drewN ?_ _ | refine bel_drew ?_ | (refine bel_call ?_ (by assumption))))
  have hz : w.heap.size < g1 ∧ g1 < w1.heap.size ∧ w1.heap.size ≤ g2 := by have := hC1.lt; simp at hg1; exact ⟨by omega, this, hg2⟩
  obtain ⟨z1, z2, z3⟩ := hz
  have HC1 := Lib.hid (hC1.call hb2)
  have HC2 := Lib.hid hC2
  have l0 : w2.cell? ⟨w.heap.size, 0, none⟩ = some (.int .i64 a) := by rw [hb2.cell (p := ⟨w.heap.size, 0, none⟩) (by show w.heap.size < w1.heap.size; omega), hb1.cell (p := ⟨w.heap.size, 0, none⟩) (by simp)]; simp
  have l1 : w2.cell? ⟨w.heap.size, 1, none⟩ = some (.int .i64 b) := by rw [hb2.cell (p := ⟨w.heap.size, 1, none⟩) (by show w.heap.size < w1.heap.size; omega), hb1.cell (p := ⟨w.heap.size, 1, none⟩) (by simp)]; simp
  have z4 : w.heap.size < w2.heap.size := by have := HC1.out.lt; omega
  have hst : s.size ≤ t.size ∧ t.size ≤ s.size := by have h1 := HA.out.size; have h2 := HT.out.size; omega
  obtain ⟨st1, st2⟩ := hst
  clear hC1 hC2 hb1 hb2 hg1 hg2
  generalize hZ : (dg s).zipWith (addN b m) (dg t) = Z
  have hl : Z.length = s.size := by rw [← hZ, List.length_zipWith, dg_length, dg_length]; omega
  have HZ : ∀ k, k < s.size → Z.getD k 0 = addN b m ((dg s).getD k 0) ((dg t).getD k 0) := fun k hk => by
    rw [← hZ]; exact zip_at _ _ _ (by rw [dg_length]; exact hk) (by rw [dg_length]; omega)
  have HZ' := Lib.hid HZ
  have HE := Lib.hid hZ
  have HL := Lib.hid hl
  have hD : Digits Z := fun j hj => by
    rw [hl] at hj
    rw [HZ j hj]
    have := addN_bd m b2 ((dg s).getD j 0) ((dg t).getD j 0)
    omega
  have HD := Lib.hid hD
  clear HZ hZ hl hD
  go_loopw [18] (fun i wr => ∃ k : Nat, k ≤ s.size ∧ i = .int .i64 k ∧ Cells wr g1 s.size (fun j => if j < k then digF Z j else digF (dg s) j) ∧ Cells wr g2 s.size (digF (dg t)) ∧ wr.cell? ⟨w.heap.size, 0, none⟩ = some (.int .i64 a) ∧ wr.cell? ⟨w.heap.size, 1, none⟩ = some (.int .i64 b) ∧ w.heap.size < wr.heap.size ∧ Below w.heap.size w wr) (fun i _ => s.size - (intOf i).toNat)
  case atStart => exact ⟨0, by omega, rfl, HC1.out.congr (fun j _ => by simp), HC2.out.sub st1, l0, l1, z4, hB⟩
  case round =>
    clear l0 l1 z4 hB
    obtain ⟨k, hk, rfl, hC1, hC2, l0, l1, z4, hB⟩ := hrel
    have H1 := Lib.hid hC1
    have H2 := Lib.hid hC2
    clear hC1 hC2
    by_cases hlt : k < s.size
    · have hlt' : k < t.size := by omega
      have o1 : wr.cell? ⟨g1, k, none⟩ = some (.int .i64 ((dg s).getD k 0)) := by rw [H1.out.cell hlt, if_neg (by omega)]; rfl
      have o2 : wr.cell? ⟨g2, k, none⟩ = some (.int .i64 ((dg t).getD k 0)) := H2.out.cell hlt
      have o3 : wr.frozen? ⟨g1, k, none⟩ = false := H1.out.frozen hlt
      obtain ⟨d1, d2⟩ := HA.out.low k hlt
      obtain ⟨d3, d4⟩ := HT.out.low k hlt'
      have HV := Lib.hid (HZ'.out k hlt)
      generalize (dg s).getD k 0 = x at o1 d1 d2 HV
      generalize (dg t).getD k 0 = y at o2 d3 d4 HV
      obtain ⟨p1, p2⟩ := mul_bd hm1 hm2 d3 (show y ≤ 9 by omega)
      have hw1 : IntKind.i64.wrap (m * y) = m * y := IntWalk.i64_in _ ⟨by omega, by omega⟩
      have hw2 : IntKind.i64.wrap (x + m * y) = x + m * y := IntWalk.i64_in _ ⟨by omega, by omega⟩
      go_wp2_with fail
      go_region_with (go_at_call 49; refine (l1Mod_any _ _ _ (by omega) (by omega)).mono ?_; rintro e w3 ⟨rfl, rfl⟩)
      all_goals
        clear hw1 hw2
        go_wp2
        go_roundw
        case rel => exact ⟨k + 1, by omega, by go_num, pair_rel_drew H1.out hlt (by rw [HV.out]; unfold addN modI; first | rfl | (congr 1; omega)) H2.out (by omega) l0 l1 z4 z1 hB (Below.refl _ _)⟩
        case measure => simp [intOf]; omega
    · go_wp2_with (go_at_call 41; refine (whText_n _ _ Z HL.out _ (H1.out.congr (fun j hj => by rw [if_pos (by omega)])) HD.out (by omega)).mono ?_; rintro e w3 ⟨rfl, hb3⟩)
      go_ret
      exact ⟨ret_str (by rw [HE.out]), bel_call hB hb3⟩

end Go.Proofs.Ytkmgmlgjflnbeaa
