/- All codes of so many numbers, as the model makes them. For at most 12 marks and 3 numbers. -/
import Derived.Test.YtfcljanechlmkaaYq
import Derived.Maps.AppendAt
namespace Go.Proofs.Ytfcljanechlmkaa
open Go.ChangeShapes Go.WideShapes Go.ChangeAt Go.RowKit Go.Joins

theorem info_listY : (Try.prog.info? 22).map (fun i => (i.zero, i.size, i.bytes)) = some (some (.slice none 0 0), 1, 24) := by kernel_rfl

theorem RowL.weak {w : World} {B B' : Nat} {v : Value} {ks : List (List Int)} (h : RowL w B v ks) (hB : B' ≤ B) : RowL w B' v ks := by
  obtain ⟨vs, h1, h2, h3⟩ := h.own
  refine ⟨vs, h1, ⟨h2.1, h2.2.imp id fun ⟨g, cap, cur, e, b, rest⟩ => ⟨g, cap, cur, e, Nat.le_trans hB b, rest⟩⟩, fun i hi => ?_⟩
  obtain ⟨A, c, e, hcc, hc⟩ := h3 i hi
  exact ⟨A, c, e, hcc, hc.imp id fun ⟨g, a1, a2, a3, a4⟩ => ⟨g, a1, Nat.le_trans hB a2, a3, a4⟩⟩

/-- A list copied by the model, in a row of its own. -/
theorem l1Own_row (A : Option Addr) (n c : Nat) (xs : List Int) (w : World) (hn : n ≤ 1000) (hA : IntsA w A n xs) :
    Calls Try.prog 102 #[.slice A n c] w fun e w' => ∃ g c', e = .returned (.slice (some ⟨g, 0, none⟩) n c') ∧ w'.ownsRow w.heap.size 3 1 (.slice (some ⟨g, 0, none⟩) n c') n (iv xs) ∧ Below w.heap.size w w' := by
  obtain ⟨i0, hi, hy0, hy1, hy2⟩ := info_parts info_int
  have HL := Lib.hid hA.len
  have HO := Lib.hid (World.ownsRow_made (base := w.heap.size) (e := 3) (size := 1) w #[] 0 (Nat.le_refl _) (by unfold maxLen; omega) rfl)
  have HB0 := Lib.hid ((Below.refl w.heap.size w).alloc (Nat.le_refl _) (.cells #[] 3))
  rcases A with _ | ad
  · have h0 : n = 0 := by
      rcases hA.at_ with h | ⟨_, _, e, _⟩
      · exact h
      · cases e
    subst h0
    have hx : xs = [] := List.eq_nil_of_length_eq_zero HL.out
    subst hx
    clear hA
    go_enter Try.func102, Try.ntmps102
    go_wp2_with fail
    go_ret
    exact ⟨w.heap.size, 0, rfl, HO.out, HB0.out⟩
  · have HN : Hid (∀ j u, (iv xs)[j]? = some u → (w.alloc (.cells #[] 3)).cell? (ad.add j) = some u) := Lib.hid (by
      rcases hA.at_ with h0 | ⟨b, off, e, hb, hc⟩
      · intro j u hu
        have : xs = [] := List.eq_nil_of_length_eq_zero (by rw [hA.len, h0])
        subst this
        simp [iv] at hu
      · cases e
        exact iv_news hA.len (fun k hk => by rw [World.cell?_alloc_lt _ _ _ hb]; exact hc k hk))
    clear hA
    go_enter Try.func102, Try.ntmps102
    go_wp2_with (at_builtin; refine wpList_append_own _ rfl _ _ 22 rfl w.heap.size 3 i0 (.int .i64 0) 1 8 Try.underlying22 hi hy0 hy1 hy2 rfl (by decide) _ _ _ rfl HO.out ad n c (iv xs) rfl (by simp [iv]; have := HL.out; omega) HN.out (iv_one _) (by unfold maxLen; omega) (by omega) (by simp) ?_; intro v' w1 hown' hgrow hiff)
    have hv : v' ≠ .slice none 0 0 := fun e => by have := (hiff.1 e).1; cases this
    have HB1 := Lib.hid (HB0.out.grown hgrow HB0.out.size (fun j hj => (HO.out.lt j hj).1))
    have hown2 : w1.ownsRow w.heap.size 3 1 v' n (iv xs) := by simpa using hown'
    obtain ⟨g, c', rfl, hg, hC⟩ := own_ints (xs := xs) (n := n) hown2 hv
    go_ret
    exact ⟨g, c', rfl, hown2, HB1.out⟩

/-- Codes handed back. -/
def CodesR (w : World) (ks : List (List Int)) (e : Ending) (w' : World) : Prop :=
  ∃ v, e = .returned v ∧ RowL w' w.heap.size v ks ∧ Below w.heap.size w w'

theorem codesR_mk {w w' : World} {ks : List (List Int)} {e : Ending} {v : Value} (he : e = .returned v) (hL : RowL w' w.heap.size v ks) (hb : Below w.heap.size w w') : CodesR w ks e w' := ⟨v, he, hL, hb⟩

theorem rowL_one (w : World) : RowL ((w.alloc (.cells #[] 3)).alloc (.cells #[.slice (some ⟨w.heap.size, 0, none⟩) 0 0] 22)) w.heap.size (.slice (some ⟨w.heap.size + 1, 0, none⟩) 1 1) [[]] := by
  refine ⟨[.slice (some ⟨w.heap.size, 0, none⟩) 0 0], rfl, ⟨rfl, .inr ⟨w.heap.size + 1, 1, #[.slice (some ⟨w.heap.size, 0, none⟩) 0 0], rfl, by omega, ?_, by decide, by unfold maxLen; omega, rfl, rfl⟩⟩, fun i hi => ?_⟩
  · have := heap_alloc_new (w.alloc (.cells #[] 3)) (.cells #[.slice (some ⟨w.heap.size, 0, none⟩) 0 0] 22)
    rw [World.size_alloc] at this
    exact this
  · obtain rfl : i = 0 := by simpa using hi
    exact ⟨_, 0, rfl, ⟨Nat.le_refl _, fun e => by cases e⟩, .inl rfl⟩

theorem RowL.ints {w : World} {B b m : Nat} {A : Option Addr} {xs : List Int} (h : xs.length = 0 ∨ ∃ b, A = some ⟨b, 0, none⟩ ∧ B ≤ b ∧ Cells w b xs.length (digF xs)) (hm : xs.length = m) (_ : b = b) : IntsA w A m xs := by
  subst hm
  rcases h with h | ⟨g, rfl, _, hC⟩
  · exact ⟨rfl, .inl h⟩
  · exact IntsA.of_cells rfl hC

set_option maxHeartbeats 4000000 in
theorem diAll_any (m n : Nat) (w : World) (hm : m ≤ 12) (hn : n ≤ 3) :
    Calls Try.prog 82 #[.int .i64 m, .int .i64 n] w (CodesR w (alL m n)) := by
  obtain ⟨i0, hi, hy0, hy1, hy2⟩ := info_parts info_int
  obtain ⟨j0, hj, hz0, hz1, hz2⟩ := info_parts info_listY
  have HR0 := Lib.hid (rowL_one w)
  go_enter Try.func82, Try.ntmps82
  go_wp2_with fail
  go_loopw [1, 5] (fun r v wr => ∃ j k : Nat, j + k = n ∧ r = .int .i64 (k : Int) ∧ RowL wr w.heap.size v (alL m j) ∧ Below w.heap.size w wr) (fun r _ _ => (intOf r).toNat)
  case atStart => exact ⟨0, n, by omega, rfl, HR0.out, by (repeat (first | assumption | exact Below.refl _ _ | (refine Below.alloc ?_ (by first | omega | (simp; done) | (simp; omega)) _) | (refine Below.setCell ?_ (by first | omega | (simp; done) | (simp; omega)) _) | refine bel_drewN ?_ _ | refine bel_drew ?_ | (refine bel_call ?_ (by assumption))))⟩
  case round =>
    clear HR0
    obtain ⟨j, k, hjk, rfl, hR, hB⟩ := hrel
    have HB := Lib.hid hB
    obtain ⟨A0, c0, rfl⟩ := hR.slice
    have HR := Lib.hid hR
    have HAL := Lib.hid (alL_length m j)
    have HAO := Lib.hid (alL_of m j)
    have HSU : Hid (alL m (j + 1) = nxL (alL m j) m (alL m j).length) := Lib.hid rfl
    have hsz := HB.out.size
    clear hR hB
    by_cases hk : 0 < k
    · have hbd := pow_bd (n := j) hm (by omega)
      rw [← HAL.out] at hbd
      generalize alL m j = cs at HR HAL HAO HSU hbd ⊢
      obtain ⟨N, hNe⟩ : ∃ N, cs.length = N := ⟨_, rfl⟩
      have HN := Lib.hid hNe
      rw [hNe] at HR HSU hbd ⊢
      clear hNe HAL
      obtain ⟨w1, hw1⟩ : ∃ w1, w1 = wr := ⟨wr, rfl⟩
      subst hw1
      go_wp2_with fail
      go_loopw [6, 18] (fun v i wr => ∃ i2 : Nat, i2 ≤ N ∧ i = .int .i64 i2 ∧ RowL wr w1.heap.size v (nxL cs m i2) ∧ Below w1.heap.size w1 wr) (fun _ i _ => N - (intOf i).toNat)
      case atStart => exact ⟨0, by omega, rfl, rowL_nil _ _, Below.refl _ _⟩
      case round =>
        obtain ⟨i2, hi2, rfl, hR2, hB2⟩ := hrel
        have HR2 := Lib.hid hR2
        have HB2 := Lib.hid hB2
        clear hR2 hB2
        by_cases hlt : i2 < N
        · obtain ⟨g, Ai, ci, rfl, hcell0, _, hin⟩ := HR.out.at (i := i2) (by rw [HN.out]; exact hlt)
          have hcell := (HB2.out.cell (p := ⟨g, i2, none⟩) (World.block_lt_of_cell? w1 _ hcell0)).trans hcell0
          clear hcell0
          have HCO := Lib.hid (HAO.out _ (getD_mem (d := []) (by rw [HN.out]; exact hlt)))
          have HX : Hid (nxL cs m (i2 + 1) = nxL cs m i2 ++ exL (cs.getD i2 []) m) := Lib.hid rfl
          have hlen := HCO.out.1
          have hnl : (nxL cs m i2).length ≤ 20736 := by
            rw [nxL_length]
            exact Nat.le_trans (Nat.mul_le_mul (show i2 ≤ 1728 by omega) hm) (by decide)
          generalize cs.getD i2 [] = cc at hcell hin HCO HX hlen
          generalize nxL cs m i2 = ns at HR2 HX hnl
          rw [hlen] at hcell
          have HIN : Hid (IntsA w1 Ai j cc) := Lib.hid (RowL.ints (b := 0) (B := w.heap.size) hin hlen rfl)
          go_wp2_with fail
          go_loopw [6, 9] (fun v i wr => ∃ i3 : Nat, i3 ≤ m ∧ i = .int .i64 i3 ∧ RowL wr w1.heap.size v (ns ++ exL cc i3) ∧ Below w1.heap.size w1 wr) (fun _ i _ => m - (intOf i).toNat)
          case atStart => exact ⟨0, by omega, rfl, by rw [exL, List.append_nil]; exact HR2.out, HB2.out⟩
          case round =>
            obtain ⟨i3, hi3, rfl, hR3, hB4⟩ := hrel
            have HR3 := Lib.hid hR3
            have HB4 := Lib.hid hB4
            have HI3 := Lib.hid (HIN.out.below hB4)
            have hsz1 := hB4.size
            clear hR3 hB4
            by_cases h3 : i3 < m
            · obtain ⟨vs, hv1, hv2, hv3⟩ := HR3.out.own
              have HV1 := Lib.hid hv1
              have HV2 := Lib.hid hv2
              have HV3 := Lib.hid hv3
              have hlen3 : (ns ++ exL cc i3).length ≤ 30000 := by rw [List.length_append, exL_length]; omega
              have HXS : Hid (ns ++ exL cc (i3 + 1) = (ns ++ exL cc i3) ++ [cc ++ [(i3 : Int)]]) := Lib.hid (by rw [exL, List.append_assoc])
              have HIV : Hid (iv cc ++ [Value.int .i64 (i3 : Int)] = iv (cc ++ [(i3 : Int)])) := Lib.hid (by unfold iv; rw [List.map_append]; rfl)
              have HLX : Hid ((cc ++ [(i3 : Int)]).length = j + 1) := Lib.hid (by rw [List.length_append, HCO.out.1]; rfl)
              generalize ns ++ exL cc i3 = rs at HR3 HV1 HV2 HV3 HXS hlen3
              clear hv1 hv2 hv3
              go_wp2_with (first
                | (go_at_call 102; refine (l1Own_row _ _ _ cc _ (by omega) HI3.out).mono ?_; rintro e w5 ⟨g5, c5, rfl, hO5, hb5⟩
                   have HO5 := Lib.hid hO5
                   have HB5 := Lib.hid hb5
                   have z5 := hb5.size
                   clear hO5 hb5)
                | (at_builtin; refine wpList_append_own _ rfl _ _ 22 rfl wr.heap.size 3 i0 (.int .i64 0) 1 8 Try.underlying22 hi hy0 hy1 hy2 rfl (by decide) _ _ _ rfl (HO5.out.alloc _) ⟨w5.heap.size, 0, none⟩ 1 1 [.int .i64 (i3 : Int)] rfl rfl (new_one rfl) (by simp [Value.oneCell']) (by unfold maxLen; omega) (by omega) (by simp; omega) ?_; intro v9 w9 hown9 hgrow9 hiff9; clear hiff9
                   have HB9 : Hid (Below wr.heap.size wr w9) := Lib.hid ((HB5.out.alloc z5 _).grown hgrow9 (by simp; omega) (fun j hj => (HO5.out.lt j hj).1))
                   rw [HIV.out] at hown9
                   obtain ⟨g9, c9, rfl, hg9, hC9⟩ := own_cells hown9 (by omega)
                   have HC9 := Lib.hid hC9
                   have HCP := Lib.hid (own_cap hown9)
                   have z9 := HB9.out.size
                   clear hown9 hgrow9 hC9)
                | (at_builtin; refine wpList_append_own_at _ rfl _ _ 67 rfl w1.heap.size 22 j0 (.slice none 0 0) 1 24 Try.underlying67 hj hz0 hz1 hz2 rfl (by decide) _ _ _ rfl ((row_kept HV2.out HB9.out).alloc _) ⟨w9.heap.size, 0, none⟩ 1 1 [.slice (some ⟨g9, 0, none⟩) (j + 1) c9] rfl rfl (new_one rfl) (by simp [Value.oneCell']) (by unfold maxLen; omega) (by omega) (by simp; omega) ?_; intro v11 w11 hown11 hgrow11 hiff11 hblk11; clear hiff11))
              have HB11 : Hid (Below w1.heap.size w1 w11) := Lib.hid (((HB4.out.trans (HB9.out.mono hsz1)).alloc (by omega) _).grown hgrow11 (by simp; omega) (fun j hj => (HV2.out.lt j hj).1))
              have HR11 : Hid (RowL w11 w1.heap.size v11 (rs ++ [cc ++ [(i3 : Int)]])) := Lib.hid (RowL.snoc HV1.out HV3.out HV2.out.lt HB9.out hsz1 hg9 HC9.out HLX.out HCP.out hown11 hgrow11 hblk11)
              clear hown11 hgrow11 hblk11
              go_wp2_with fail
              go_roundw
              case rel => exact ⟨i3 + 1, by omega, by go_num, by rw [HXS.out]; exact HR11.out, HB11.out⟩
              case measure => simp [intOf]; omega
            · obtain rfl : i3 = m := by omega
              go_wp2_with fail
              go_roundw
              case rel => exact ⟨i2 + 1, by omega, by go_num, by rw [HX.out]; exact HR3.out, HB4.out⟩
              case measure => simp [intOf]; omega
        · obtain rfl : i2 = N := by omega
          go_wp2_with fail
          go_roundw
          case rel => exact ⟨j + 1, k - 1, by omega, by first | go_num | (congr 1; omega), by rw [HSU.out]; exact (HR2.out.weak hsz), HB.out.trans (HB2.out.mono hsz)⟩
          case measure => simp [intOf]; try omega
    · obtain rfl : k = 0 := by omega
      obtain rfl : j = n := by omega
      go_wp2_with fail
      go_ret
      exact codesR_mk rfl HR.out HB.out

end Go.Proofs.Ytfcljanechlmkaa
