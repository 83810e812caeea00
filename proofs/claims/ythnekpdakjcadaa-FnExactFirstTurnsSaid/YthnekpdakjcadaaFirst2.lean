/- The first turns that lead from one code to another one, as the model lists them. No conditions. -/
import Derived.Test.YthnekpdakjcadaaFirst
namespace Go.Proofs.Ythnekpdakjcadaa
open Go.ChangeShapes Go.WideShapes Go.ChangeAt Go.RowKit Go.Joins

set_option maxHeartbeats 2000000 in
set_option maxRecDepth 100000 in
theorem specFirst_any (a b : Int) (s t : ByteArray) (w : World) (hs : s.size ≤ maxLen) (ht : t.size ≤ maxLen) :
    Calls Try.prog 38 #[.agg #[.int .i64 a, .int .i64 b], .string s, .string t] w (TurnsOut w (firstZ a b s t) (twoB a b s t)) := by
  have HS := Lib.hid hs
  have HT := Lib.hid ht
  clear hs ht
  by_cases hg : twoB a b s t = true
  · have HG := Lib.hid hg
    have HA := Lib.hid (asked (two_yes hg).1)
    have HT' := Lib.hid (asked (two_yes hg).2)
    obtain ⟨n6, b2, b10⟩ : s.size ≤ 6 ∧ 2 ≤ b ∧ b ≤ 10 := ⟨HA.out.n6, HA.out.b2, HA.out.b10⟩
    have n6' := HT'.out.n6
    obtain ⟨i0, hi, hy0, hy1, hy2⟩ := info_parts info_turn
    clear hg
    go_enter Try.func38, Try.ntmps38
    go_wp2_with (go_at_call 64; refine (whTwo_any _ _ _ _ _ HS.out HT.out).mono ?_; rw [HG.out]; rintro e w1 ⟨rfl, hb⟩; obtain ⟨hc, hf, hz⟩ := bcell hb; have hz0 : w.heap.size < w1.heap.size := by (try simp at hz); omega)
    have m0 : w1.cell? ⟨w.heap.size, 0, none⟩ = some (.int .i64 a) := by rw [hc _ _ (by simp)]; simp
    have m1 : w1.cell? ⟨w.heap.size, 1, none⟩ = some (.int .i64 b) := by rw [hc _ _ (by simp)]; simp
    have hB1 : Below w.heap.size w w1 := by (repeat (first | assumption | exact Below.refl _ _ | (refine Below.alloc ?_ (by first | omega | (simp; done) | (simp; omega)) _) | (refine Below.setCell ?_ (by first | omega | (simp; done) | (simp; omega)) _) | refine bel_drewN ?_ _ | refine bel_drew ?_ | (refine bel_call ?_ (by assumption))))
    clear hc hf hz hb
    refine (whDigits_any _ _ HA.out.digits (by omega) HA.out.n1).mono ?_
    rintro e w2 ⟨g1, c1, rfl, hg1, hC1, hb1⟩
    go_wp2_with fail
    refine (whDigits_any _ _ HT'.out.digits (by omega) HT'.out.n1).mono ?_
    rintro e w3 ⟨g2, c2, rfl, hg2, hC2, hb2⟩
    go_wp2_with fail
    have hB : Below w.heap.size w w3 := bel_call (bel_call hB1 hb1) hb2
    have z2 : g1 < w3.heap.size := (hC1.call hb2).lt
    have z5 : w.heap.size < w2.heap.size := by have := hb1.size; omega
    have z4 : w.heap.size < w3.heap.size := by have := hb2.size; omega
    have z3 : g2 < w3.heap.size := hC2.lt
    have HC1 := Lib.hid (hC1.call hb2)
    have HC2 := Lib.hid hC2
    have L0 := Lib.hid (show w3.cell? ⟨w.heap.size, 0, none⟩ = some (.int .i64 a) by rw [hb2.cell (p := ⟨w.heap.size, 0, none⟩) z5, hb1.cell (p := ⟨w.heap.size, 0, none⟩) hz0, m0])
    have L1 := Lib.hid (show w3.cell? ⟨w.heap.size, 1, none⟩ = some (.int .i64 b) by rw [hb2.cell (p := ⟨w.heap.size, 1, none⟩) z5, hb1.cell (p := ⟨w.heap.size, 1, none⟩) hz0, m1])
    have hst : s.size ≤ t.size ∧ t.size ≤ s.size := by have h1 := HA.out.size; have h2 := HT'.out.size; omega
    obtain ⟨st1, st2⟩ := hst
    have HB0 := Lib.hid hB
    clear hC1 hC2 hb1 hb2 hg1 hg2 m0 m1 hB1 hB
    go_loopw [10, 27] (fun v i wr => ∃ k : Nat, k ≤ s.size ∧ i = .int .i64 k ∧ wr.ownsRow w3.heap.size 38 2 v (firstAt b (dg s) (dg t) k).length (tv (firstAt b (dg s) (dg t) k)) ∧ Below w3.heap.size w3 wr) (fun _ i _ => s.size - (intOf i).toNat)
    case atStart => exact ⟨0, by omega, rfl, World.ownsRow_nil _ _ _ _, Below.refl _ _⟩
    case round =>
      obtain ⟨k, hk, rfl, hown, hB⟩ := hrel
      have HOW := Lib.hid hown
      clear hown
      by_cases hlt : k < s.size
      · have hlt' : k < t.size := by omega
        have o1 : wr.cell? ⟨g1, k, none⟩ = some (.int .i64 ((dg s).getD k 0)) := (HC1.out.below hB z2).cell hlt
        have o2 : wr.cell? ⟨g2, k, none⟩ = some (.int .i64 ((dg t).getD k 0)) := (HC2.out.below hB z3).cell hlt'
        have l0 := (hB.cell (p := ⟨w.heap.size, 0, none⟩) z4).trans L0.out
        have l1 := (hB.cell (p := ⟨w.heap.size, 1, none⟩) z4).trans L1.out
        obtain ⟨d1, d2⟩ := HA.out.low k hlt
        obtain ⟨d3, d4⟩ := HT'.out.low k hlt'
        have HFN : Hid (firstAt b (dg s) (dg t) (k + 1) = firstAt b (dg s) (dg t) k ++ List.replicate (farI b ((dg s).getD k 0) ((dg t).getD k 0)).toNat ((k : Int), dirI b ((dg s).getD k 0) ((dg t).getD k 0))) := Lib.hid rfl
        have hlen := firstAt_length b2 b10 (dg s) (dg t) k
        generalize (dg s).getD k 0 = x at o1 d1 d2 HFN
        generalize (dg t).getD k 0 = y at o2 d3 d4 HFN
        generalize firstAt b (dg s) (dg t) k = L at HOW HFN hlen
        obtain ⟨P, HP⟩ : ∃ P, Hid (subI b y x = P) := ⟨_, Lib.hid rfl⟩
        obtain ⟨Q, HQ2⟩ : ∃ Q, Hid (subI b x y = Q) := ⟨_, Lib.hid rfl⟩
        have hf := farI_bd b2 x y
        obtain ⟨e, he⟩ : ∃ e : Nat, farI b x y = e := ⟨(farI b x y).toNat, by omega⟩
        have e9 : e ≤ 9 := by omega
        have HE : Hid (lstI P Q = (e : Int)) := Lib.hid (by rw [← HP.out, ← HQ2.out]; exact he)
        obtain ⟨D, HD⟩ : ∃ D, Hid (dirI b x y = D) := ⟨_, Lib.hid rfl⟩
        have hdir : (Q < P → D = -1) ∧ (¬ Q < P → D = 1) := by
          rw [← HP.out, ← HQ2.out, ← HD.out]; unfold dirI
          exact ⟨fun h => by rw [if_pos h], fun h => by rw [if_neg h]⟩
        rw [he, Int.toNat_natCast, HD.out] at HFN
        clear he hf
        go_wp2_with fail
        go_region_with (go_at_call 69; refine (whFar_any _ _ _ _ _ (by omega) (by omega) (by omega) (by omega)).mono ?_; rw [HP.out, HQ2.out]; rintro e w4 ⟨rfl, hb4⟩)
        all_goals
          have HW := Lib.hid (below_undrew hb4)
          have HB4 := Lib.hid (bel_call hB HW.out)
          have HO4 := Lib.hid (own_below HOW.out HW.out)
          clear hb4 HW l0 l1 o1 o2 hB z2 z3 z5 d1 d2 d3 d4 HOW
          by_cases hqp : Q < P
          · obtain rfl : D = -1 := hdir.1 (by omega)
            go_wp2_with (go_at_call 70; refine (l1Least_any _ _ _).mono ?_; rw [HE.out]; rintro e' w5 ⟨rfl, rfl⟩)
            go_loopw [10, 15] (fun v u w5 => ∃ j : Nat, j ≤ e ∧ u = .int .i64 ((e - j : Nat) : Int) ∧ w5.ownsRow w3.heap.size 38 2 v (L.length + j) (tv (L ++ List.replicate j ((k : Int), -1))) ∧ Below w3.heap.size w3 w5) (fun _ u _ => (intOf u).toNat)
            case atStart => exact ⟨0, by omega, rfl, by rw [List.replicate_zero, List.append_nil]; exact HO4.out, HB4.out⟩
            case round =>
              obtain ⟨j, hj, rfl, hown5, hB5⟩ := hrel
              have HO5 := Lib.hid hown5
              clear hown5
              by_cases hje : j < e
              · go_wp2_with (at_builtin; refine wpList_append_own _ rfl _ _ 44 rfl w3.heap.size 38 i0 (.agg #[.int .i64 0, .int .i64 0]) 2 16 Try.underlying44 hi hy0 hy1 hy2 rfl (by decide) _ _ _ rfl (HO5.out.alloc _) ⟨wr.heap.size, 0, none⟩ 1 1 [.int .i64 k, .int .i64 (-1)] rfl rfl (news_at rfl) (by simp [Value.oneCell']) (by unfold maxLen; omega) (by omega) (by have h1 := hB5.size; simp; omega) ?_; intro v' w6 hown' hgrow _)
                have HB6 := Lib.hid ((hB5.alloc hB5.size _).grown hgrow (by have h1 := hB5.size; simp; omega) (fun j hj => (HO5.out.lt j hj).1))
                have HO6 : Hid (w6.ownsRow w3.heap.size 38 2 v' (L.length + (j + 1)) (tv (L ++ List.replicate (j + 1) ((k : Int), -1)))) := Lib.hid (by rw [tv_rep]; exact hown')
                clear hgrow hown'
                go_wp2_with fail
                go_roundw
                case rel => exact ⟨j + 1, by omega, congrArg (Value.int .i64) (by omega), HO6.out, HB6.out⟩
                case measure => simp [intOf]; omega
              · obtain rfl : j = e := by omega
                go_wp2_with fail
                go_roundw
                case rel => exact ⟨k + 1, by omega, by go_num, by rw [HFN.out, List.length_append, List.length_replicate]; exact HO5.out, hB5⟩
                case measure => simp [intOf]; omega
          · obtain rfl : D = 1 := hdir.2 (by omega)
            go_wp2_with (go_at_call 70; refine (l1Least_any _ _ _).mono ?_; rw [HE.out]; rintro e' w5 ⟨rfl, rfl⟩)
            go_loopw [10, 15] (fun v u w5 => ∃ j : Nat, j ≤ e ∧ u = .int .i64 ((e - j : Nat) : Int) ∧ w5.ownsRow w3.heap.size 38 2 v (L.length + j) (tv (L ++ List.replicate j ((k : Int), 1))) ∧ Below w3.heap.size w3 w5) (fun _ u _ => (intOf u).toNat)
            case atStart => exact ⟨0, by omega, rfl, by rw [List.replicate_zero, List.append_nil]; exact HO4.out, HB4.out⟩
            case round =>
              obtain ⟨j, hj, rfl, hown5, hB5⟩ := hrel
              have HO5 := Lib.hid hown5
              clear hown5
              by_cases hje : j < e
              · go_wp2_with (at_builtin; refine wpList_append_own _ rfl _ _ 44 rfl w3.heap.size 38 i0 (.agg #[.int .i64 0, .int .i64 0]) 2 16 Try.underlying44 hi hy0 hy1 hy2 rfl (by decide) _ _ _ rfl (HO5.out.alloc _) ⟨wr.heap.size, 0, none⟩ 1 1 [.int .i64 k, .int .i64 (1)] rfl rfl (news_at rfl) (by simp [Value.oneCell']) (by unfold maxLen; omega) (by omega) (by have h1 := hB5.size; simp; omega) ?_; intro v' w6 hown' hgrow _)
                have HB6 := Lib.hid ((hB5.alloc hB5.size _).grown hgrow (by have h1 := hB5.size; simp; omega) (fun j hj => (HO5.out.lt j hj).1))
                have HO6 : Hid (w6.ownsRow w3.heap.size 38 2 v' (L.length + (j + 1)) (tv (L ++ List.replicate (j + 1) ((k : Int), 1)))) := Lib.hid (by rw [tv_rep]; exact hown')
                clear hgrow hown'
                go_wp2_with fail
                go_roundw
                case rel => exact ⟨j + 1, by omega, congrArg (Value.int .i64) (by omega), HO6.out, HB6.out⟩
                case measure => simp [intOf]; omega
              · obtain rfl : j = e := by omega
                go_wp2_with fail
                go_roundw
                case rel => exact ⟨k + 1, by omega, by go_num, by rw [HFN.out, List.length_append, List.length_replicate]; exact HO5.out, hB5⟩
                case measure => simp [intOf]; omega
      · obtain rfl : k = s.size := by omega
        go_wp2_with fail
        go_ret2
        rw [HG.out, firstZ_yes HG.out]
        exact turns_some (by have := firstAt_length b2 b10 (dg s) (dg t) s.size; omega) (Nat.le_of_lt z4) HOW.out (HB0.out.trans (hB.mono (Nat.le_of_lt z4)))
  · have HG := Lib.hid (Bool.eq_false_iff.2 hg)
    clear hg
    go_enter Try.func38, Try.ntmps38
    go_wp2_with (go_at_call 64; refine (whTwo_any _ _ _ _ _ HS.out HT.out).mono ?_; rw [HG.out]; rintro e w1 ⟨rfl, hb⟩; obtain ⟨hc, hf, hz⟩ := bcell hb; have hz0 : w.heap.size < w1.heap.size := by (try simp at hz); omega)
    go_ret2
    rw [HG.out, firstZ_no HG.out]
    refine turns_none ?_
    (repeat (first | assumption | exact Below.refl _ _ | (refine Below.alloc ?_ (by first | omega | (simp; done) | (simp; omega)) _) | (refine Below.setCell ?_ (by first | omega | (simp; done) | (simp; omega)) _) | refine bel_drewN ?_ _ | refine bel_drew ?_ | (refine bel_call ?_ (by assumption))))

end Go.Proofs.Ythnekpdakjcadaa
