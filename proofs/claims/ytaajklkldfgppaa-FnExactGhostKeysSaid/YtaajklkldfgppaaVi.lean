/- Pins with other cuts, as the program makes them. For masks of 9 bits, at most 9 depths and 7 places. -/
import Derived.Test.YtaajklkldfgppaaVh
import Derived.ArgAppend
namespace Go.Proofs.Ytaajklkldfgppaa
open Go.ChangeShapes Go.WideShapes Go.ChangeAt Go.RowKit Go.Joins

/-- Pins handed back, of the call's own. -/
def PinsGot (w : World) (d : Int) (ks : List (List Int)) (e : Ending) (w' : World) : Prop :=
  ∃ v, e = .returned (.agg #[.int .i64 d, v]) ∧ RowP w' w.heap.size v ks ∧ Below w.heap.size w w'

/-- The lists that masks tell. -/
def mkL (d : Nat) (f : Nat → Nat) (n : Nat) : List (List Int) := rwL (fun i => lsN (fun e => (f i).testBit e) d) n

theorem and_bit {z e : Nat} (hz : z < 2 ^ 9) (he : e < 9) : ∃ q : Int, bits .and .i64 (z : Int) ((2 ^ e : Nat) : Int) = q ∧ (q != 0) = z.testBit e := by
  refine ⟨_, and_small hz (Nat.pow_lt_pow_right (a := 2) (by decide) he), ?_⟩
  have h1 : ∀ i, (z &&& 2 ^ e).testBit i = (z.testBit i && decide (e = i)) := fun i => by rw [Nat.testBit_and, Nat.testBit_two_pow]
  cases hb : z.testBit e
  · have h0 : z &&& 2 ^ e = 0 := Nat.eq_of_testBit_eq fun i => by
      rw [h1, Nat.zero_testBit]
      by_cases hi : e = i
      · subst hi; rw [hb, Bool.false_and]
      · rw [decide_eq_false hi, Bool.and_false]
    rw [h0]
    rfl
  · have h0 : z &&& 2 ^ e ≠ 0 := fun h => by
      have h2 := h1 e
      rw [h, Nat.zero_testBit, hb, decide_eq_true rfl] at h2
      cases h2
    simpa using h0

set_option maxRecDepth 100000 in
set_option maxHeartbeats 4000000 in
theorem withCuts_any (dn : Nat) (A : Option Addr) (n c : Nat) (f : Nat → Nat) (w : World) (hn : n ≤ 7) (hd : dn ≤ 9) (hf : ∀ i, f i < 2 ^ 9) :
    Calls Try.prog 64 #[.agg #[.int .i64 (dn : Int), .slice A n c], cutV (fun i => (f i : Int))] w (PinsGot w dn (mkL dn f n)) := by
  obtain ⟨i0, hi, hy0, hy1, hy2⟩ := info_parts info_int
  obtain ⟨j0, hj, hz0, hz1, hz2⟩ := info_parts info_lists
  have HF := Lib.hid hf
  clear hf
  obtain ⟨W4, hW4⟩ : ∃ W4, (((w.alloc (.cells #[.int .i64 (dn : Int), .slice A n c] 26)).alloc (.cells #[.int .i64 (f 0 : Int), .int .i64 (f 1 : Int), .int .i64 (f 2 : Int), .int .i64 (f 3 : Int), .int .i64 (f 4 : Int), .int .i64 (f 5 : Int), .int .i64 (f 6 : Int)] 76)).alloc (.cells #[.int .i64 0, .slice none 0 0] 26)).alloc (.cells #[.int .i64 (dn : Int), .slice none 0 0] 26) = W4 := ⟨_, rfl⟩
  have HB4 := Lib.hid (show Below w.heap.size w W4 from by rw [← hW4]; (repeat (first | assumption | exact Below.refl _ _ | (refine Below.alloc ?_ (by first | omega | (simp; done) | (simp; omega)) _) | (refine Below.setCell ?_ (by first | omega | (simp; done) | (simp; omega)) _) | refine bel_drewN ?_ _ | refine bel_drew ?_ | (refine bel_call ?_ (by assumption)))))
  have CP := Lib.hid (show Cells W4 w.heap.size 2 (pF (dn : Int) (.slice A n c)) from by rw [← hW4]; exact (((Cells.new (n := 2) rfl rfl).alloc _).alloc _).alloc _)
  have CC := Lib.hid (show Cells W4 (w.heap.size + 1) 7 (fun j => .int .i64 (f j : Int)) from by
    rw [← hW4]
    exact (((Cells.new (n := 7) (by simp) rfl).congr (f' := fun j => .int .i64 (f j : Int)) fun j hj => by
      have : j = 0 ∨ j = 1 ∨ j = 2 ∨ j = 3 ∨ j = 4 ∨ j = 5 ∨ j = 6 := by omega
      rcases this with rfl | rfl | rfl | rfl | rfl | rfl | rfl <;> rfl).alloc _).alloc _)
  have CQ := Lib.hid (show Cells W4 (w.heap.size + 1 + 1) 2 (pF 0 (.slice none 0 0)) from by rw [← hW4]; exact (Cells.new (n := 2) (by simp) rfl).alloc _)
  have CT := Lib.hid (show Cells W4 (w.heap.size + 1 + 1 + 1) 2 (pF (dn : Int) (.slice none 0 0)) from by rw [← hW4]; exact Cells.new (n := 2) (by simp) rfl)
  have hz0' : w.heap.size + 4 ≤ W4.heap.size := by rw [← hW4]; simp
  have HW := Lib.hid hW4
  clear hW4
  go_enter Try.func64, Try.ntmps64
  unfold cutV
  go_wp2_with fail
  go_loopw [15] (fun i wr => ∃ (k : Nat) (v : Value), k ≤ n ∧ i = .int .i64 k ∧ RowP wr (w.heap.size + 4) v (mkL dn f k) ∧ Cells wr w.heap.size 2 (pF (dn : Int) (.slice A n c)) ∧ Cells wr (w.heap.size + 1) 7 (fun j => .int .i64 (f j : Int)) ∧ Cells wr (w.heap.size + 1 + 1) 2 (pF 0 (.slice none 0 0)) ∧ Cells wr (w.heap.size + 1 + 1 + 1) 2 (pF (dn : Int) v) ∧ w.heap.size + 4 ≤ wr.heap.size ∧ Below w.heap.size w wr) (fun i _ => n - (intOf i).toNat)
  case atStart => rw [HW.out]; exact ⟨0, .slice none 0 0, by omega, rfl, rowP_nil _ _, CP.out, CC.out, CQ.out, CT.out, hz0', HB4.out⟩
  case round =>
    clear HW CP CC CQ CT HB4 hz0'
    obtain ⟨k, v, hk, rfl, hR, hP, hC, hQ, hT, hz, hB⟩ := hrel
    have HR := Lib.hid hR
    have HP := Lib.hid hP
    have HC := Lib.hid hC
    have HQ := Lib.hid hQ
    have HT := Lib.hid hT
    have HB := Lib.hid hB
    clear hR hP hC hQ hT hB
    by_cases hlt : k < n
    · obtain ⟨w1, hw1⟩ : ∃ w1, w1 = wr := ⟨wr, rfl⟩
      subst hw1
      have l0 : w1.cell? ⟨w.heap.size, 0, none⟩ = some (.int .i64 (dn : Int)) := HP.out.cell (show 0 < 2 by omega)
      have HX : Hid (mkL dn f (k + 1) = mkL dn f k ++ [lsN (fun e => (f k).testBit e) dn]) := Lib.hid rfl
      have hkl : (mkL dn f k).length = k := rwL_length _ _
      have hfk := HF.out k
      obtain ⟨z, hzz⟩ : ∃ z, f k = z := ⟨_, rfl⟩
      have HZZ := Lib.hid hzz
      rw [hzz] at hfk HX
      clear hzz
      go_wp2_with fail
      go_loopw [7, 20] (fun u i wr => ∃ e : Nat, e ≤ dn ∧ i = .int .i64 e ∧ wr.ownsRow w1.heap.size 3 1 u (lsN (fun e => z.testBit e) e).length (iv (lsN (fun e => z.testBit e) e)) ∧ Below w1.heap.size w1 wr) (fun _ i _ => dn - (intOf i).toNat)
      case atStart => exact ⟨0, by omega, rfl, World.ownsRow_nil _ _ _ _, Below.refl _ _⟩
      case round =>
        clear l0
        obtain ⟨e, he, rfl, hO, hB2⟩ := hrel
        have HO := Lib.hid hO
        have HB2 := Lib.hid hB2
        have hsz := HB2.out.size
        clear hO hB2
        by_cases hlt2 : e < dn
        · have p1 : wr.cell? ⟨w.heap.size + 1, k, none⟩ = some (.int .i64 (z : Int)) := by rw [← HZZ.out]; exact (HC.out.call HB2.out).cell (show k < 7 by omega)
          have HL : Hid (lsN (fun e => z.testBit e) (e + 1) = if z.testBit e then lsN (fun e => z.testBit e) e ++ [(e : Int)] else lsN (fun e => z.testBit e) e) := Lib.hid rfl
          have hll := lsN_length (fun e => z.testBit e) e
          obtain ⟨q, hq, hqt⟩ := and_bit hfk (show e < 9 by omega)
          have HQB := Lib.hid hqt
          clear hqt
          generalize lsN (fun e => z.testBit e) e = L0 at HO HL hll
          obtain ⟨tb, htb⟩ : ∃ tb, z.testBit e = tb := ⟨_, rfl⟩
          rw [htb] at HL HQB
          clear htb
          go_wp2_with fail
          go_region
          all_goals
            rw [shl_small (show e < 9 by omega), hq, HQB.out]
            rcases tb with _ | _
            · have HL' : Hid (lsN (fun e => z.testBit e) (e + 1) = L0) := Lib.hid (by rw [HL.out]; rfl)
              go_wp2_with fail
              go_roundw
              case rel => exact ⟨e + 1, by omega, by go_num, by rw [HL'.out]; exact rowv_kept HO.out (bel_drew (Below.refl _ _)), bel_drew HB2.out⟩
              case measure => simp [intOf]; omega
            · have HL' : Hid (lsN (fun e => z.testBit e) (e + 1) = L0 ++ [(e : Int)]) := Lib.hid (by rw [HL.out]; rfl)
              have HOD := Lib.hid (rowv_kept HO.out (bel_drew (Below.refl _ _)))
              go_wp2_with (at_builtin; refine wpList_append_own _ rfl _ _ 49 rfl w1.heap.size 3 i0 (.int .i64 0) 1 8 Try.underlying49 hi hy0 hy1 hy2 rfl (by decide) _ _ _ rfl (HOD.out.alloc _) ⟨wr.heap.size, 0, none⟩ 1 1 [.int .i64 (e : Int)] rfl rfl (newv_one rfl) (by simp [Value.oneCell']) (by unfold maxLen; omega) (by omega) (by simp; omega) ?_; intro v9 w9 hown9 hgrow9 hiff9; clear hiff9)
              have HO9 : Hid (w9.ownsRow w1.heap.size 3 1 v9 (lsN (fun e => z.testBit e) (e + 1)).length (iv (lsN (fun e => z.testBit e) (e + 1)))) := Lib.hid (by rw [HL'.out, List.length_append, iv, List.map_append]; exact hown9)
              have HB9 : Hid (Below w1.heap.size w1 w9) := Lib.hid (((bel_drew HB2.out).alloc hsz _).grown hgrow9 (by simp; omega) (fun j hj => (HO.out.lt j hj).1))
              clear hown9 hgrow9
              go_wp2_with fail
              go_roundw
              case rel => exact ⟨e + 1, by omega, by go_num, HO9.out, HB9.out⟩
              case measure => simp [intOf]; omega
        · obtain rfl : e = dn := by omega
          obtain ⟨A2, c2, rfl, hL⟩ := own_list rfl HO.out
          obtain ⟨g2, hC2⟩ := listOut_at hL
          have HC2 := Lib.hid hC2
          clear hL hC2
          have HUL : Hid ((lsN (fun e => z.testBit e) e).length = (lsN (fun e => z.testBit e) e).length) := Lib.hid rfl
          generalize lsN (fun e => z.testBit e) e = L0 at HC2 HX HO HUL
          obtain ⟨m2, hm2⟩ : ∃ m, L0.length = m := ⟨_, rfl⟩
          have HM2 := Lib.hid hm2
          rw [hm2] at HC2 ⊢
          clear hm2 HUL
          obtain ⟨G, vs, hv1, hv2, hv3, hv4⟩ := HR.out.own
          have HV1 := Lib.hid hv1
          have HV2 := Lib.hid hv2
          have HV3 := Lib.hid hv3
          have HV4 := Lib.hid hv4
          clear hv1 hv2 hv3 hv4
          rw [hkl] at HV2
          have m1 : wr.cell? ⟨w.heap.size + 1 + 1 + 1, 1, none⟩ = some v := (HT.out.call HB2.out).cell (show 1 < 2 by omega)
          go_wp2_with (first
           | (at_builtin; refine wpList_append_own_at _ rfl _ _ 22 rfl (w.heap.size + 4) 49 j0 (.slice none 0 0) 1 24 Try.underlying22 hj hz0 hz1 hz2 rfl (by decide) _ _ _ rfl ((rowv_kept HV2.out HB2.out).alloc _) ⟨wr.heap.size, 0, none⟩ 1 1 [.slice A2 m2 c2] rfl rfl (newv_one rfl) (by simp [Value.oneCell']) (by unfold maxLen; omega) (by omega) (by simp; omega) ?_; intro v11 w11 hown11 hgrow11 hiff11 hblk11; clear hiff11
              have HT11 := Lib.hid (((HT.out.call HB2.out).alloc (.cells #[.slice A2 m2 c2] 49)).keptV hgrow11 (fun e => by have := (HV2.out.lt _ e).1; omega))
              have HR11 := Lib.hid (RowP.snoc (g := g2) HV1.out HV3.out HV4.out HV2.out.lt HB2.out hz HC2.out HM2.out (by rw [hkl]; exact hown11) hgrow11 hblk11)
              have HP11 := Lib.hid (((HP.out.call HB2.out).alloc (.cells #[.slice A2 m2 c2] 49)).keptV hgrow11 (fun e => by have := (HV2.out.lt _ e).1; omega))
              have HC11 := Lib.hid (((HC.out.call HB2.out).alloc (.cells #[.slice A2 m2 c2] 49)).keptV hgrow11 (fun e => by have := (HV2.out.lt _ e).1; omega))
              have HQ11 := Lib.hid (((HQ.out.call HB2.out).alloc (.cells #[.slice A2 m2 c2] 49)).keptV hgrow11 (fun e => by have := (HV2.out.lt _ e).1; omega))
              have HB11 := Lib.hid (((bel_call HB.out HB2.out).alloc (bel_call HB.out HB2.out).size (.cells #[.slice A2 m2 c2] 49)).grown hgrow11 (by simp; omega) (fun j hj => by have := (HV2.out.lt j hj).1; omega))
              have HZ11 := Lib.hid (show w.heap.size + 4 ≤ w11.heap.size by have h2 := hgrow11.size; simp at h2; omega)
              obtain ⟨g', cap', rfl⟩ := rowv_succ hown11
              have c2' : w11.cell? ⟨w.heap.size + 1 + 1 + 1, 1, none⟩ = some v := HT11.out.cell (show 1 < 2 by omega)
              have c3 := HT11.out.frozen (show 1 < 2 by omega)
              clear hown11 hgrow11 hblk11))
          have HRN := Lib.hid (HR11.out.under (p := ⟨w.heap.size + 1 + 1 + 1, 1, none⟩) (by show w.heap.size + 1 + 1 + 1 < w.heap.size + 4; omega) (.slice (some ⟨g', 0, none⟩) (k + 1) cap'))
          have HPN := Lib.hid (HP11.out.far (p := ⟨w.heap.size + 1 + 1 + 1, 1, none⟩) (by show w.heap.size + 1 + 1 + 1 ≠ w.heap.size; omega) (.slice (some ⟨g', 0, none⟩) (k + 1) cap'))
          have HCN := Lib.hid (HC11.out.far (p := ⟨w.heap.size + 1 + 1 + 1, 1, none⟩) (by show w.heap.size + 1 + 1 + 1 ≠ w.heap.size + 1; omega) (.slice (some ⟨g', 0, none⟩) (k + 1) cap'))
          have HQN := Lib.hid (HQ11.out.far (p := ⟨w.heap.size + 1 + 1 + 1, 1, none⟩) (by show w.heap.size + 1 + 1 + 1 ≠ w.heap.size + 1 + 1; omega) (.slice (some ⟨g', 0, none⟩) (k + 1) cap'))
          have HTN := Lib.hid ((HT11.out.set_ (show 1 < 2 by omega) (.slice (some ⟨g', 0, none⟩) (k + 1) cap')).congr (f' := pF (e : Int) (.slice (some ⟨g', 0, none⟩) (k + 1) cap')) (fun j hj => by
            have : j = 0 ∨ j = 1 := by omega
            rcases this with rfl | rfl <;> rfl))
          go_wp2_with fail
          go_roundw
          case rel => exact ⟨k + 1, _, by omega, by go_num, by rw [HX.out]; exact HRN.out, HPN.out, HCN.out, HQN.out, HTN.out, by rw [size_setCell]; exact HZ11.out, HB11.out.setCell (by show w.heap.size ≤ w.heap.size + 1 + 1 + 1; omega) _⟩
          case measure => simp [intOf]; omega
    · obtain rfl : k = n := by omega
      obtain ⟨A', c', rfl⟩ := HR.out.slice
      have hkl : (mkL dn f k).length = k := rwL_length _ _
      rw [hkl] at HR HT
      have t0 : wr.cell? ⟨w.heap.size + 1 + 1 + 1, 0, none⟩ = some (.int .i64 (dn : Int)) := HT.out.cell (show 0 < 2 by omega)
      have t1 : wr.cell? ⟨w.heap.size + 1 + 1 + 1, 1, none⟩ = some (.slice A' k c') := HT.out.cell (show 1 < 2 by omega)
      have q0 : wr.cell? ⟨w.heap.size + 1 + 1, 0, none⟩ = some (.int .i64 0) := HQ.out.cell (show 0 < 2 by omega)
      have q1 : wr.cell? ⟨w.heap.size + 1 + 1, 1, none⟩ = some (.slice none 0 0) := HQ.out.cell (show 1 < 2 by omega)
      have f0 := HQ.out.frozen (show 0 < 2 by omega)
      have f1 := HQ.out.frozen (show 1 < 2 by omega)
      go_wp2_with fail
      refine bodyPost_ret (v := .agg #[.int .i64 (dn : Int), .slice A' k c']) (by simp [results, Try.results64, go_sem, q0, q1]) rfl ⟨_, rfl, ?_, ?_⟩
      · exact ((HR.out.under (by show w.heap.size + 1 + 1 < w.heap.size + 4; omega) _).under (by show w.heap.size + 1 + 1 < w.heap.size + 4; omega) _).weak (by omega)
      · iterate 2 (refine Below.setCell ?_ (by show w.heap.size ≤ w.heap.size + 1 + 1; omega) _)
        exact HB.out

end Go.Proofs.Ytaajklkldfgppaa
