/- All codes of so many numbers, as the program makes them. For at most 12 marks and 3 numbers. -/
import Derived.Test.YtfcljanechlmkaaYr
import Derived.ArgAppend
namespace Go.Proofs.Ytfcljanechlmkaa
open Go.ChangeShapes Go.WideShapes Go.ChangeAt Go.RowKit Go.Joins

theorem rowL_nil1 (w : World) : RowL (w.alloc (.cells #[.slice none 0 0] 22)) w.heap.size (.slice (some ⟨w.heap.size, 0, none⟩) 1 1) [[]] := by
  refine ⟨[.slice none 0 0], rfl, ⟨rfl, .inr ⟨w.heap.size, 1, #[.slice none 0 0], rfl, Nat.le_refl _, heap_alloc_new w _, by decide, by unfold maxLen; omega, rfl, rfl⟩⟩, fun i hi => ?_⟩
  obtain rfl : i = 0 := by simpa using hi
  exact ⟨_, 0, rfl, ⟨Nat.le_refl _, fun _ => rfl⟩, .inl rfl⟩

theorem add_at (b j : Nat) : (⟨b, 0, none⟩ : Addr).add j = ⟨b, j, none⟩ := by unfold Addr.add; split <;> simp_all

set_option maxHeartbeats 4000000 in
theorem dialCodes_any (m n : Nat) (w : World) (hm : m ≤ 12) (hn : n ≤ 3) :
    Calls Try.prog 100 #[.int .i64 m, .int .i64 n] w (CodesR w (alL m n)) := by
  obtain ⟨i0, hi, hy0, hy1, hy2⟩ := info_parts info_int
  obtain ⟨j0, hj, hz0, hz1, hz2⟩ := info_parts info_listY
  have HR0 := Lib.hid (rowL_nil1 w)
  go_enter Try.func100, Try.ntmps100
  go_wp2_with fail
  go_loopw [5, 12] (fun v r wr => ∃ j : Nat, j ≤ n ∧ r = .int .i64 (j : Int) ∧ RowL wr w.heap.size v (alL m j) ∧ Below w.heap.size w wr) (fun _ r _ => n - (intOf r).toNat)
  case atStart => exact ⟨0, by omega, rfl, HR0.out, by (repeat (first | assumption | exact Below.refl _ _ | (refine Below.alloc ?_ (by first | omega | (simp; done) | (simp; omega)) _) | (refine Below.setCell ?_ (by first | omega | (simp; done) | (simp; omega)) _) | refine bel_drewN ?_ _ | refine bel_drew ?_ | (refine bel_call ?_ (by assumption))))⟩
  case round =>
    clear HR0
    obtain ⟨j, hjn, rfl, hR, hB⟩ := hrel
    have HB := Lib.hid hB
    obtain ⟨A0, c0, rfl⟩ := hR.slice
    have HR := Lib.hid hR
    have HAL := Lib.hid (alL_length m j)
    have HAO := Lib.hid (alL_of m j)
    have HSU : Hid (alL m (j + 1) = nxL (alL m j) m (alL m j).length) := Lib.hid rfl
    have hsz := HB.out.size
    clear hR hB
    by_cases hk : j < n
    · have hbd := pow_bd (n := j) hm (by omega)
      rw [← HAL.out] at hbd
      generalize alL m j = cs at HR HAL HAO HSU hbd ⊢
      obtain ⟨N, hNe⟩ : ∃ N, cs.length = N := ⟨_, rfl⟩
      have HN := Lib.hid hNe
      rw [hNe] at HR HSU hbd ⊢
      clear hNe HAL
      obtain ⟨w1, hw1⟩ : ∃ w1, w1 = wr := ⟨wr, rfl⟩
      subst hw1
      go_wp2_with fail
      go_loopw [6, 16] (fun v i wr => ∃ i2 : Nat, i2 ≤ N ∧ i = .int .i64 i2 ∧ RowL wr w1.heap.size v (nxL cs m i2) ∧ Below w1.heap.size w1 wr) (fun _ i _ => N - (intOf i).toNat)
      case atStart => exact ⟨0, by omega, rfl, rowL_nil _ _, Below.refl _ _⟩
      case round =>
        obtain ⟨i2, hi2, rfl, hR2, hB2⟩ := hrel
        have HR2 := Lib.hid hR2
        have HB2 := Lib.hid hB2
        clear hR2 hB2
        by_cases hlt : i2 < N
        · obtain ⟨g, Ai, ci, rfl, hcell0, ⟨hcc, hcn⟩, hin⟩ := HR.out.at (i := i2) (by rw [HN.out]; exact hlt)
          have hcell := (HB2.out.cell (p := ⟨g, i2, none⟩) (World.block_lt_of_cell? w1 _ hcell0)).trans hcell0
          clear hcell0
          have HCO := Lib.hid (HAO.out _ (getD_mem (d := []) (by rw [HN.out]; exact hlt)))
          have HX : Hid (nxL cs m (i2 + 1) = nxL cs m i2 ++ exL (cs.getD i2 []) m) := Lib.hid rfl
          have hlen := HCO.out.1
          have hnl : (nxL cs m i2).length ≤ 20736 := by
            rw [nxL_length]
            exact Nat.le_trans (Nat.mul_le_mul (show i2 ≤ 1728 by omega) hm) (by decide)
          generalize cs.getD i2 [] = cc at hcell hin HCO HX hlen hcc
          generalize nxL cs m i2 = ns at HR2 HX hnl
          rw [hlen] at hcell hcc
          have HNE : Hid (Ai = none → j = 0 ∧ j = 0) := Lib.hid (fun e => by have := hcn e; omega)
          have HIN : Hid (∀ b, Ai = some b → ∀ q u, (iv cc)[q]? = some u → w1.cell? (b.add q) = some u) := Lib.hid (fun b hb q u hu => by
            have hq : q < cc.length := by
              have := (List.getElem?_eq_some_iff.1 hu).1
              unfold iv at this; rw [List.length_map] at this; exact this
            rcases hin with h0 | ⟨g2, e2, _, hC⟩
            · omega
            · rw [hb] at e2
              injection e2 with e2
              subst e2
              rw [add_at, hC.cell (by omega), ← hu]
              unfold iv digF
              simp [List.getD, List.getElem?_eq_getElem hq])
          have HLT : Hid (∀ b, Ai = some b → cc.length ≠ 0 → b.block < w1.heap.size) := Lib.hid (fun b hb h0 => by
            rcases hin with h | ⟨g2, e2, _, hC⟩
            · exact absurd h h0
            · rw [hb] at e2; injection e2 with e2; subst e2; exact hC.lt)
          clear hin
          go_wp2_with fail
          go_loopw [6, 21] (fun v i wr => ∃ i3 : Nat, i3 ≤ m ∧ i = .int .i64 i3 ∧ RowL wr w1.heap.size v (ns ++ exL cc i3) ∧ Below w1.heap.size w1 wr) (fun _ i _ => m - (intOf i).toNat)
          case atStart => exact ⟨0, by omega, rfl, by rw [exL, List.append_nil]; exact HR2.out, HB2.out⟩
          case round =>
            obtain ⟨i3, hi3, rfl, hR3, hB4⟩ := hrel
            have HR3 := Lib.hid hR3
            have HB4 := Lib.hid hB4
            have hsz1 := hB4.size
            clear hR3 hB4
            by_cases h3 : i3 < m
            · obtain ⟨vs, hv1, hv2, hv3⟩ := HR3.out.own
              have HV1 := Lib.hid hv1
              have HV2 := Lib.hid hv2
              have HV3 := Lib.hid hv3
              have hlen3 : (ns ++ exL cc i3).length ≤ 30000 := by rw [List.length_append, exL_length]; omega
              have HXS : Hid (ns ++ exL cc (i3 + 1) = (ns ++ exL cc i3) ++ [cc ++ [(i3 : Int)]]) := Lib.hid (by rw [exL, List.append_assoc])
              have HIV : Hid (iv cc ++ [Value.int .i64 (i3 : Int)] = iv (cc ++ [(i3 : Int)])) := Lib.hid (by unfold iv; rw [List.map_append]; rfl)
              have HLX : Hid ((cc ++ [(i3 : Int)]).length = j + 1) := Lib.hid (by rw [List.length_append, HCO.out.1]; rfl)
              have HIL : Hid ((iv cc).length = j * 1) := Lib.hid (by unfold iv; rw [List.length_map, HCO.out.1, Nat.mul_one])
              have HI3 : Hid (∀ b, Ai = some b → ∀ q u, (iv cc)[q]? = some u → (wr.alloc (.cells #[.int .i64 (i3 : Int)] 3)).cell? (b.add q) = some u) := Lib.hid (fun b hb q u hu => by
                have h1 := HIN.out b hb q u hu
                have hbl : (b.add q).block < w1.heap.size := World.block_lt_of_cell? w1 _ h1
                rw [World.cell?_alloc_lt _ _ _ (by omega), HB4.out.cell hbl]
                exact h1)
              generalize ns ++ exL cc i3 = rs at HR3 HV1 HV2 HV3 HXS hlen3
              clear hv1 hv2 hv3
              have hjc : (j : Int) ≤ (ci : Int) := by omega
              have hj0 : (0 : Int) ≤ (j : Int) := by omega
              go_wp2_with (first
                | (at_builtin; refine wpList_append_grows _ rfl _ _ 22 rfl 3 i0 (.int .i64 0) 1 8 Try.underlying22 hi hy0 hy1 hy2 rfl (by decide) Ai j j (iv cc) rfl HNE.out HIL.out HI3.out ⟨wr.heap.size, 0, none⟩ 1 1 [.int .i64 (i3 : Int)] rfl rfl (new_one rfl) (by simp [Value.oneCell']) (by omega) (by unfold maxLen; omega) (by omega) ?_; intro v9 w9 hown9 hgrow9
                   have HB9 : Hid (Below wr.heap.size wr w9) := Lib.hid (((Below.refl wr.heap.size wr).alloc (Nat.le_refl _) _).grown hgrow9 (by simp) (fun j hj => by cases hj))
                   rw [HIV.out] at hown9
                   obtain ⟨g9, c9, rfl, hg9, hC9⟩ := own_cells hown9 (by omega)
                   have HC9 := Lib.hid hC9
                   have HCP := Lib.hid (own_cap hown9)
                   have HG9 : Hid (wr.heap.size ≤ g9) := Lib.hid (by rw [World.size_alloc] at hg9; omega)
                   have z9 := HB9.out.size
                   clear hown9 hgrow9 hC9 hg9)
                | (at_builtin; refine wpList_append_own_at _ rfl _ _ 67 rfl w1.heap.size 22 j0 (.slice none 0 0) 1 24 Try.underlying67 hj hz0 hz1 hz2 rfl (by decide) _ _ _ rfl ((row_kept HV2.out HB9.out).alloc _) ⟨w9.heap.size, 0, none⟩ 1 1 [.slice (some ⟨g9, 0, none⟩) (j + 1) c9] rfl rfl (new_one rfl) (by simp [Value.oneCell']) (by unfold maxLen; omega) (by omega) (by simp; omega) ?_; intro v11 w11 hown11 hgrow11 hiff11 hblk11; clear hiff11))
              have HB11 : Hid (Below w1.heap.size w1 w11) := Lib.hid (((HB4.out.trans (HB9.out.mono hsz1)).alloc (by omega) _).grown hgrow11 (by simp; omega) (fun j hj => (HV2.out.lt j hj).1))
              have HR11 : Hid (RowL w11 w1.heap.size v11 (rs ++ [cc ++ [(i3 : Int)]])) := Lib.hid (RowL.snoc HV1.out HV3.out HV2.out.lt HB9.out hsz1 HG9.out HC9.out HLX.out HCP.out hown11 hgrow11 hblk11)
              clear hown11 hgrow11 hblk11
              go_wp2_with fail
              go_roundw
              case rel => exact ⟨i3 + 1, by omega, by go_num, by rw [HXS.out]; exact HR11.out, HB11.out⟩
              case measure => simp [intOf]; omega
            · obtain rfl : i3 = m := by omega
              go_wp2_with fail
              go_roundw
              case rel => exact ⟨i2 + 1, by omega, by go_num, by rw [HX.out]; exact HR3.out, HB4.out⟩
              case measure => simp [intOf]; omega
        · obtain rfl : i2 = N := by omega
          go_wp2_with fail
          go_roundw
          case rel => exact ⟨j + 1, by omega, by go_num, by rw [HSU.out]; exact (HR2.out.weak hsz), HB.out.trans (HB2.out.mono hsz)⟩
          case measure => simp [intOf]; try omega
    · obtain rfl : j = n := by omega
      go_wp2_with fail
      go_ret
      exact codesR_mk rfl HR.out HB.out

end Go.Proofs.Ytfcljanechlmkaa
