/- Whether a text is a ring, as the model asks it. For locks of few codes. -/
import Derived.Test.YteolmplbgmfhmaaRs
namespace Go.Proofs.Yteolmplbgmfhmaa
open Go.ChangeShapes Go.WideShapes Go.ChangeAt Go.RowKit Go.Joins

theorem all_take (p : Nat → Bool) (k : Nat) : (List.range (k + 1)).all p = ((List.range k).all p && p k) := by
  rw [List.range_succ, List.all_append]
  simp

theorem all_not_at (p : Nat → Bool) {k C : Nat} (hk : k < C) (h : p k = false) : (List.range C).all p = false := by
  rw [List.all_eq_false]
  exact ⟨k, List.mem_range.2 hk, by rw [h]; decide⟩

set_option maxRecDepth 100000 in
set_option maxHeartbeats 4000000 in
theorem riRing_any (n : Nat) (b : Int) (s : ByteArray) (w : World) (hs : s.size ≤ maxLen) (h : riB n b = true) :
    Calls Try.prog 38 #[.agg #[.int .i64 n, .int .i64 b], .string s] w fun e w' => e = .returned (.bool (ringB n b s)) ∧ Below w.heap.size w w' := by
  have HS := Lib.hid hs
  have HR := Lib.hid h
  have hring := ring_eq (s := s) h
  have HG := Lib.hid (riB_good h)
  have hge := cn_ge (riB_good h)
  have hcn := cn_le h
  have hcc := cnN_cast (riB_good h)
  rw [Int.toNat_natCast] at hcc
  obtain ⟨C, hC⟩ : ∃ C, cnN n b = C := ⟨_, rfl⟩
  rw [hC] at hcn hcc hge hring
  have HC := Lib.hid hC
  have HCC := Lib.hid hcc
  have HRING := Lib.hid hring
  unfold maxLen at hs
  clear h hC hcc hring
  by_cases hz5 : s.size = C
  · by_cases hd : allD b s = true
    · have HD := Lib.hid hd
      clear hd
      have HE : Hid (s.size = cnN n b) := Lib.hid (by rw [HC.out]; exact hz5)
      have HRR : Hid ((List.range C).all (seenB n b (codesT (arT n s) n)) = ringB n b s) := Lib.hid (by rw [← HRING.out, decide_eq_true hz5, HD.out]; rfl)
      have HASK : Hid (∀ t ∈ codesT (rdT true n s) n, askB n b t = true) := Lib.hid (fun t ht => by
        obtain ⟨k, hk, rfl⟩ := codesT_mem.1 ht
        exact allD_ask HG.out (allD_ar HD.out) (by omega))
      go_enter Try.func38, Try.ntmps38
      go_wp2_with (first | (go_at_call 53; refine (whCount_any _ _ _ HG.out).mono ?_; rw [← HCC.out]; rintro e w1 ⟨rfl, hb⟩; have z1 : w.heap.size < w1.heap.size := (by have := hb.size; simp at this; omega); have m0 : w1.cell? ⟨w.heap.size, 0, none⟩ = some (.int .i64 n) := (by rw [hb.cell (p := ⟨w.heap.size, 0, none⟩) (by simp)]; simp); have m1 : w1.cell? ⟨w.heap.size, 1, none⟩ = some (.int .i64 b) := (by rw [hb.cell (p := ⟨w.heap.size, 1, none⟩) (by simp)]; simp); have HB := Lib.hid (show Below w.heap.size w w1 from bel_call ((Below.refl _ _).alloc (Nat.le_refl _) _) hb); clear hb) | (go_at_call 66; refine (riText_any _ _ _ _ HS.out HG.out).mono ?_; rw [HD.out]; rintro e w2 ⟨rfl, hb2⟩; have HB2 := Lib.hid (bel_call HB.out hb2); have z2 : w.heap.size < w2.heap.size := (by have := hb2.size; omega); have p0 : w2.cell? ⟨w.heap.size, 0, none⟩ = some (.int .i64 n) := (by rw [hb2.cell (p := ⟨w.heap.size, 0, none⟩) z1]; exact m0); have p1 : w2.cell? ⟨w.heap.size, 1, none⟩ = some (.int .i64 b) := (by rw [hb2.cell (p := ⟨w.heap.size, 1, none⟩) z1]; exact m1); clear hb2 m0 m1))
      go_region_with (first | (go_at_call 41; refine (riCodes_any _ _ _ true _ HG.out (by omega) (fun _ => by omega)).mono ?_; rintro e w3 ⟨A, c3, rfl, hO3, hb3⟩; have HO3 := Lib.hid hO3; have HB3 := Lib.hid (show Below w.heap.size w w3 from by first | exact bel_call HB2.out hb3 | exact bel_call (bel_drew HB2.out) hb3 | exact bel_call (bel_drewN HB2.out _) hb3); have q0 : w3.cell? ⟨w.heap.size, 0, none⟩ = some (.int .i64 n) := (by rw [hb3.cell (p := ⟨w.heap.size, 0, none⟩) z2]; exact p0); have q1 : w3.cell? ⟨w.heap.size, 1, none⟩ = some (.int .i64 b) := (by rw [hb3.cell (p := ⟨w.heap.size, 1, none⟩) z2]; exact p1); have z3 : w.heap.size < w3.heap.size := (by have := hb3.size; simp at this; omega); clear hO3 hb3) | (go_at_call 57; refine (riSeen_any _ _ _ _ _ _ _ HR.out HO3.out HASK.out).mono ?_; rw [HC.out]; rintro e w4 ⟨g, c4, rfl, hC4, hg4, hb4⟩; have HC4 := Lib.hid hC4; have HB4 := Lib.hid (bel_call HB3.out hb4); clear hC4 hb4))
      all_goals
        go_wp2
        go_simp
        go_loopw [24] (fun i wr => ∃ k : Nat, k ≤ C ∧ i = .int .i64 k ∧ (List.range k).all (seenB n b (codesT (arT n s) n)) = true ∧ Cells wr g C (fun j => .bool (seenB n b (codesT (arT n s) n) j)) ∧ Below w.heap.size w wr) (fun i _ => C - (intOf i).toNat)
        case atStart => exact ⟨0, by omega, rfl, rfl, HC4.out, HB4.out⟩
        case round =>
          obtain ⟨k, hk, rfl, hall, hCr, hB⟩ := hrel
          have HA := Lib.hid hall
          have HCR := Lib.hid hCr
          clear hall hCr
          by_cases hlt : k < C
          · have hc := HCR.out.cell hlt
            by_cases hsee : seenB n b (codesT (arT n s) n) k = true
            · have HSEE := Lib.hid hsee
              rw [hsee] at hc
              clear hsee
              go_wp2
              go_roundw
              case rel => exact ⟨k + 1, by omega, by go_num, by rw [all_take _ k, HA.out, HSEE.out]; rfl, HCR.out, hB⟩
              case measure => simp [intOf]; omega
            · have hsee' := Bool.eq_false_iff.2 hsee
              have HSEE := Lib.hid hsee'
              rw [hsee'] at hc
              clear hsee hsee'
              go_wp2
              go_ret
              refine ⟨ret_bool ?_, hB⟩
              rw [← HRR.out, all_not_at _ hlt HSEE.out]
          · obtain rfl : k = C := by omega
            go_wp2
            go_ret
            refine ⟨ret_bool ?_, hB⟩
            rw [← HRR.out, HA.out]
    · have HD := Lib.hid (Bool.eq_false_iff.2 hd)
      have HN : Hid (ringB n b s = false) := Lib.hid (by rw [← HRING.out, HD.out, Bool.and_false]; rfl)
      clear hd
      go_enter Try.func38, Try.ntmps38
      go_wp2_with (first | (go_at_call 53; refine (whCount_any _ _ _ HG.out).mono ?_; rw [← HCC.out]; rintro e w1 ⟨rfl, hb⟩; have z1 : w.heap.size < w1.heap.size := (by have := hb.size; simp at this; omega); have m0 : w1.cell? ⟨w.heap.size, 0, none⟩ = some (.int .i64 n) := (by rw [hb.cell (p := ⟨w.heap.size, 0, none⟩) (by simp)]; simp); have m1 : w1.cell? ⟨w.heap.size, 1, none⟩ = some (.int .i64 b) := (by rw [hb.cell (p := ⟨w.heap.size, 1, none⟩) (by simp)]; simp); have HB := Lib.hid (show Below w.heap.size w w1 from bel_call ((Below.refl _ _).alloc (Nat.le_refl _) _) hb); clear hb) | (go_at_call 66; refine (riText_any _ _ _ _ HS.out HG.out).mono ?_; rw [HD.out]; rintro e w2 ⟨rfl, hb2⟩; have HB2 := Lib.hid (bel_call HB.out hb2)))
      go_ret
      exact ⟨ret_bool HN.out.symm, HB2.out⟩
  · have HN : Hid (ringB n b s = false) := Lib.hid (by rw [← HRING.out, decide_eq_false hz5]; rfl)
    have hz6 : ¬ (s.size : Int) = (C : Int) := by omega
    go_enter Try.func38, Try.ntmps38
    go_wp2_with (go_at_call 53; refine (whCount_any _ _ _ HG.out).mono ?_; rw [← HCC.out]; rintro e w1 ⟨rfl, hb⟩; have z1 : w.heap.size < w1.heap.size := (by have := hb.size; simp at this; omega); have m0 : w1.cell? ⟨w.heap.size, 0, none⟩ = some (.int .i64 n) := (by rw [hb.cell (p := ⟨w.heap.size, 0, none⟩) (by simp)]; simp); have m1 : w1.cell? ⟨w.heap.size, 1, none⟩ = some (.int .i64 b) := (by rw [hb.cell (p := ⟨w.heap.size, 1, none⟩) (by simp)]; simp); have HB := Lib.hid (show Below w.heap.size w w1 from bel_call ((Below.refl _ _).alloc (Nat.le_refl _) _) hb); clear hb)
    go_ret
    exact ⟨ret_bool HN.out.symm, HB.out⟩

end Go.Proofs.Yteolmplbgmfhmaa
