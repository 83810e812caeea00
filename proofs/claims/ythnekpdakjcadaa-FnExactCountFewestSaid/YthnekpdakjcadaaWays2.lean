/- How many first lists of turns there are, as the model counts them. No conditions. -/
import Derived.Test.YthnekpdakjcadaaWays
namespace Go.Proofs.Ythnekpdakjcadaa
open Go.ChangeShapes Go.WideShapes Go.ChangeAt Go.RowKit Go.Joins

set_option maxHeartbeats 4000000 in
theorem specCountFewest_any (a b : Int) (s t : ByteArray) (w : World) (hs : s.size ≤ maxLen) (ht : t.size ≤ maxLen) :
    Calls Try.prog 40 #[.agg #[.int .i64 a, .int .i64 b], .string s, .string t] w fun e w' => e = .returned (.tuple #[.int .i64 (cfZ a b s t), .bool (cfB a b s t)]) ∧ Below w.heap.size w w' := by
  have HS := Lib.hid hs
  have HT := Lib.hid ht
  clear hs ht
  by_cases hg : twoB a b s t = true
  · have HG := Lib.hid hg
    have HA := Lib.hid (asked (two_yes hg).1)
    have HT' := Lib.hid (asked (two_yes hg).2)
    obtain ⟨n6, b2, b10⟩ : s.size ≤ 6 ∧ 2 ≤ b ∧ b ≤ 10 := ⟨HA.out.n6, HA.out.b2, HA.out.b10⟩
    have n6' := HT'.out.n6
    clear hg
    go_enter Try.func40, Try.ntmps40
    go_wp2_with (go_at_call 64; refine (whTwo_any _ _ _ _ _ HS.out HT.out).mono ?_; rw [HG.out]; rintro e w1 ⟨rfl, hb⟩; obtain ⟨hc, hf, hz⟩ := bcell hb; have hz0 : w.heap.size < w1.heap.size := by (try simp at hz); omega)
    have m0 : w1.cell? ⟨w.heap.size, 0, none⟩ = some (.int .i64 a) := by rw [hc _ _ (by simp)]; simp
    have m1 : w1.cell? ⟨w.heap.size, 1, none⟩ = some (.int .i64 b) := by rw [hc _ _ (by simp)]; simp
    have hB1 : Below w.heap.size w w1 := by (repeat (first | assumption | exact Below.refl _ _ | (refine Below.alloc ?_ (by first | omega | (simp; done) | (simp; omega)) _) | (refine Below.setCell ?_ (by first | omega | (simp; done) | (simp; omega)) _) | refine bel_drewN ?_ _ | refine bel_drew ?_ | (refine bel_call ?_ (by assumption))))
    clear hc hf hz hb
    refine (whDigits_any _ _ HA.out.digits (by omega) HA.out.n1).mono ?_
    rintro e w2 ⟨g1, c1, rfl, hg1, hC1, hb1⟩
    go_wp2_with fail
    refine (whDigits_any _ _ HT'.out.digits (by omega) HT'.out.n1).mono ?_
    rintro e w3 ⟨g2, c2, rfl, hg2, hC2, hb2⟩
    go_wp2_with fail
    have hB : Below w.heap.size w w3 := bel_call (bel_call hB1 hb1) hb2
    have z2 : g1 < w2.heap.size := hC1.lt
    have z1 : w.heap.size < g1 := by omega
    have z5 : w.heap.size < w2.heap.size := by omega
    have z4 : w.heap.size < w3.heap.size := by have := hb2.size; omega
    have z3 : w2.heap.size ≤ g2 := hg2
    have HC1 := Lib.hid (hC1.call hb2)
    have HC2 := Lib.hid hC2
    have l0 : w3.cell? ⟨w.heap.size, 0, none⟩ = some (.int .i64 a) := by rw [hb2.cell (p := ⟨w.heap.size, 0, none⟩) z5, hb1.cell (p := ⟨w.heap.size, 0, none⟩) hz0, m0]
    have l1 : w3.cell? ⟨w.heap.size, 1, none⟩ = some (.int .i64 b) := by rw [hb2.cell (p := ⟨w.heap.size, 1, none⟩) z5, hb1.cell (p := ⟨w.heap.size, 1, none⟩) hz0, m1]
    have hst : s.size ≤ t.size ∧ t.size ≤ s.size := by have h1 := HA.out.size; have h2 := HT'.out.size; omega
    obtain ⟨st1, st2⟩ := hst
    clear hC1 hC2 hb1 hb2 hg1 hg2 m0 m1 hB1
    go_loopw [10, 11, 27] (fun v u i wr => ∃ (k : Nat) (q : Int × Int), k ≤ s.size ∧ i = .int .i64 k ∧ outAt b (distL b s t) k = some q ∧ v = .int .i64 q.1 ∧ u = .int .i64 q.2 ∧ Cells wr g1 s.size (digF (dg s)) ∧ Cells wr g2 s.size (digF (dg t)) ∧ wr.cell? ⟨w.heap.size, 0, none⟩ = some (.int .i64 a) ∧ wr.cell? ⟨w.heap.size, 1, none⟩ = some (.int .i64 b) ∧ w.heap.size < wr.heap.size ∧ Below w.heap.size w wr) (fun _ _ i _ => s.size - (intOf i).toNat)
    case atStart => exact ⟨0, (1, 0), by omega, rfl, rfl, rfl, rfl, HC1.out, HC2.out.sub st1, l0, l1, z4, hB⟩
    case round =>
      clear l0 l1 z4 hB
      obtain ⟨k, ⟨v, u0⟩, hk, rfl, hq, rfl, rfl, hC1, hC2, l0, l1, z4, hB⟩ := hrel
      have H1 := Lib.hid hC1
      have H2 := Lib.hid hC2
      have HQ := Lib.hid hq
      obtain ⟨v1, v2, u1, u2⟩ := outAt_some b2 (distL_bd HA.out HT'.out) k hk _ hq
      simp only at v1 v2 u1 u2
      clear hq hC1 hC2
      by_cases hlt : k < s.size
      · have hlt' : k < t.size := by omega
        have o1 : wr.cell? ⟨g1, k, none⟩ = some (.int .i64 ((dg s).getD k 0)) := H1.out.cell hlt
        have o2 : wr.cell? ⟨g2, k, none⟩ = some (.int .i64 ((dg t).getD k 0)) := H2.out.cell hlt
        obtain ⟨d1, d2⟩ := HA.out.low k hlt
        obtain ⟨d3, d4⟩ := HT'.out.low k hlt'
        have HO : Hid (outAt b (distL b s t) (k + 1) = innAt (dbl b (farI b ((dg s).getD k 0) ((dg t).getD k 0)) v, u0) (farI b ((dg s).getD k 0) ((dg t).getD k 0)).toNat) := Lib.hid (by rw [outAt, HQ.out, distL_at HA.out HT'.out hlt]; rfl)
        generalize (dg s).getD k 0 = x at o1 d1 d2 HO
        generalize (dg t).getD k 0 = y at o2 d3 d4 HO
        obtain ⟨P, HP⟩ : ∃ P, Hid (subI b y x = P) := ⟨_, Lib.hid rfl⟩
        obtain ⟨Q, HQ2⟩ : ∃ Q, Hid (subI b x y = Q) := ⟨_, Lib.hid rfl⟩
        have hf := farI_bd b2 x y
        obtain ⟨e, he⟩ : ∃ e : Nat, farI b x y = e := ⟨(farI b x y).toNat, by omega⟩
        have hcase := far_dbl (x := x) (y := y) (v := v) b2
        have e9 : e ≤ 9 := by omega
        have HE : Hid (lstI P Q = (e : Int)) := Lib.hid (by rw [← HP.out, ← HQ2.out]; exact he)
        rw [he, Int.toNat_natCast] at HO
        rw [he, HP.out, HQ2.out] at hcase
        clear he hf
        have hbig := @dbl_big b v u0 e b2 v1
        generalize dbl b e v = y0 at HO hcase hbig
        have HBig := Lib.hid hbig
        clear hbig
        go_wp2_with fail
        go_region_with (go_at_call 69; refine (whFar_any _ _ _ _ _ (by omega) (by omega) (by omega) (by omega)).mono ?_; rw [HP.out, HQ2.out]; rintro e w3 ⟨rfl, hb3⟩)
        all_goals
          have HW := Lib.hid (below_undrew hb3)
          have HWN := Lib.hid (show Cells w3 g1 s.size (digF (dg s)) ∧ Cells w3 g2 s.size (digF (dg t)) ∧ w3.cell? ⟨w.heap.size, 0, none⟩ = some (.int .i64 a) ∧ w3.cell? ⟨w.heap.size, 1, none⟩ = some (.int .i64 b) ∧ w.heap.size < w3.heap.size ∧ Below w.heap.size w w3 from ⟨H1.out.call HW.out, H2.out.call HW.out, by rw [HW.out.cell (p := ⟨w.heap.size, 0, none⟩) z4, l0], by rw [HW.out.cell (p := ⟨w.heap.size, 1, none⟩) z4, l1], Nat.lt_of_lt_of_le z4 HW.out.size, bel_call hB HW.out⟩)
          have HBN := Lib.hid HWN.out.2.2.2.2.2
          clear hb3 HW l0 l1 o1 o2 hB z1 z2 z3 z4 z5 d1 d2 d3 d4
          rcases hcase with ⟨c1, c2, c3⟩ | ⟨c1, c2, c3⟩ | ⟨c1, c3⟩
          · have y1 : 0 ≤ y0 ∧ y0 ≤ 2000000000000000 := by omega
            obtain ⟨y1, y2⟩ := y1
            by_cases hb : 1000000000000000 < y0
            · have HN : Hid (outAt b (distL b s t) s.size = none) := Lib.hid (outAt_none (k := k + 1) (by rw [HO.out]; exact HBig.out hb v2 u1) _ hlt)
              have hb' : 1000000000000000 < v * 2 := by omega
              clear c3
              go_wp2_with fail
              go_ret2
              exact ⟨by rw [(cf_none HG.out HN.out).1, (cf_none HG.out HN.out).2]; rfl, HBN.out⟩
            · have hb' : ¬ 1000000000000000 < v * 2 := by omega
              have HC3 := Lib.hid c3
              clear c3 hb
              go_wp2_with fail
              rw [← HC3.out]
              clear c1
              go_loop [10, 11, 15] (fun v u k => ∃ (j : Nat) (q : Int × Int), j ≤ e ∧ k = .int .i64 ((j : Int) + 1) ∧ innAt (y0, u0) j = some q ∧ v = .int .i64 q.1 ∧ u = .int .i64 q.2) (fun _ _ k => e + 1 - (intOf k).toNat)
              case atStart => exact ⟨0, (y0, u0), by omega, rfl, rfl, rfl, rfl⟩
              case round =>
                obtain ⟨j, ⟨v', u'⟩, hj, rfl, hi, rfl, rfl⟩ := hrel
                obtain ⟨i1, i2, i3⟩ := innAt_some (p := (y0, u0)) y1 u1 j _ hi
                simp only at i1 i2
                have i4 : v' ≤ 2000000000000000 := by
                  rcases i3 with i3 | ⟨_, i3⟩
                  · simp only at i3; omega
                  · injection i3 with i3 _; omega
                have HI := Lib.hid hi
                have i5 : 0 ≤ u' := by omega
                have i6 : u' ≤ 70 := by omega
                clear hi i3 i2
                obtain ⟨m1, m2⟩ := inn_step i1 i4 i5 i6
                have HX : Hid (innAt (y0, u0) (j + 1) = if 1000000000000000 < v' * (u' + 1) / ((j : Int) + 1) then none else some (v' * (u' + 1) / ((j : Int) + 1), u' + 1)) := Lib.hid (by rw [innAt, HI.out]; rfl)
                by_cases hje : j < e
                · by_cases hx : 1000000000000000 < v' * (u' + 1) / ((j : Int) + 1)
                  · have HN : Hid (outAt b (distL b s t) s.size = none) := Lib.hid (outAt_none (k := k + 1) (by rw [HO.out]; exact innAt_none (k := j + 1) (by rw [HX.out, if_pos hx]) _ hje) _ hlt)
                    go_wp2_with (go_at_call 70; refine (l1Least_any _ _ _).mono ?_; rw [HE.out]; rintro e w4 ⟨rfl, rfl⟩)
                    go_ret2
                    exact ⟨by rw [(cf_none HG.out HN.out).1, (cf_none HG.out HN.out).2]; rfl, HBN.out⟩
                  · have HN := Lib.hid hx
                    go_wp2_with (go_at_call 70; refine (l1Least_any _ _ _).mono ?_; rw [HE.out]; rintro e w4 ⟨rfl, rfl⟩)
                    go_round
                    case rel => exact ⟨j + 1, (v' * (u' + 1) / ((j : Int) + 1), u' + 1), by omega, congrArg (Value.int .i64) (by omega), by rw [HX.out, if_neg (by first | exact HN.out | exact Int.not_lt.2 HN.out)], rfl, rfl⟩
                    case measure => simp [intOf]; omega
                · go_wp2_with (go_at_call 70; refine (l1Least_any _ _ _).mono ?_; rw [HE.out]; rintro e w4 ⟨rfl, rfl⟩)
                  go_roundw
                  case rel => exact ⟨k + 1, (v', u'), by omega, by go_num, by rw [HO.out, show e = j by omega]; exact HI.out, rfl, rfl, HWN.out⟩
                  case measure => simp [intOf]; omega
          · subst c3
            have y1 := v1
            go_wp2_with fail
            clear c1
            go_loop [10, 11, 15] (fun v u k => ∃ (j : Nat) (q : Int × Int), j ≤ e ∧ k = .int .i64 ((j : Int) + 1) ∧ innAt (y0, u0) j = some q ∧ v = .int .i64 q.1 ∧ u = .int .i64 q.2) (fun _ _ k => e + 1 - (intOf k).toNat)
            case atStart => exact ⟨0, (y0, u0), by omega, rfl, rfl, rfl, rfl⟩
            case round =>
              obtain ⟨j, ⟨v', u'⟩, hj, rfl, hi, rfl, rfl⟩ := hrel
              obtain ⟨i1, i2, i3⟩ := innAt_some (p := (y0, u0)) y1 u1 j _ hi
              simp only at i1 i2
              have i4 : v' ≤ 2000000000000000 := by
                rcases i3 with i3 | ⟨_, i3⟩
                · simp only at i3; omega
                · injection i3 with i3 _; omega
              have HI := Lib.hid hi
              have i5 : 0 ≤ u' := by omega
              have i6 : u' ≤ 70 := by omega
              clear hi i3 i2
              obtain ⟨m1, m2⟩ := inn_step i1 i4 i5 i6
              have HX : Hid (innAt (y0, u0) (j + 1) = if 1000000000000000 < v' * (u' + 1) / ((j : Int) + 1) then none else some (v' * (u' + 1) / ((j : Int) + 1), u' + 1)) := Lib.hid (by rw [innAt, HI.out]; rfl)
              by_cases hje : j < e
              · by_cases hx : 1000000000000000 < v' * (u' + 1) / ((j : Int) + 1)
                · have HN : Hid (outAt b (distL b s t) s.size = none) := Lib.hid (outAt_none (k := k + 1) (by rw [HO.out]; exact innAt_none (k := j + 1) (by rw [HX.out, if_pos hx]) _ hje) _ hlt)
                  go_wp2_with (go_at_call 70; refine (l1Least_any _ _ _).mono ?_; rw [HE.out]; rintro e w4 ⟨rfl, rfl⟩)
                  go_ret2
                  exact ⟨by rw [(cf_none HG.out HN.out).1, (cf_none HG.out HN.out).2]; rfl, HBN.out⟩
                · have HN := Lib.hid hx
                  go_wp2_with (go_at_call 70; refine (l1Least_any _ _ _).mono ?_; rw [HE.out]; rintro e w4 ⟨rfl, rfl⟩)
                  go_round
                  case rel => exact ⟨j + 1, (v' * (u' + 1) / ((j : Int) + 1), u' + 1), by omega, congrArg (Value.int .i64) (by omega), by rw [HX.out, if_neg (by first | exact HN.out | exact Int.not_lt.2 HN.out)], rfl, rfl⟩
                  case measure => simp [intOf]; omega
              · go_wp2_with (go_at_call 70; refine (l1Least_any _ _ _).mono ?_; rw [HE.out]; rintro e w4 ⟨rfl, rfl⟩)
                go_roundw
                case rel => exact ⟨k + 1, (v', u'), by omega, by go_num, by rw [HO.out, show e = j by omega]; exact HI.out, rfl, rfl, HWN.out⟩
                case measure => simp [intOf]; omega
          · subst c3
            have y1 := v1
            go_wp2_with fail
            clear c1
            go_loop [10, 11, 15] (fun v u k => ∃ (j : Nat) (q : Int × Int), j ≤ e ∧ k = .int .i64 ((j : Int) + 1) ∧ innAt (y0, u0) j = some q ∧ v = .int .i64 q.1 ∧ u = .int .i64 q.2) (fun _ _ k => e + 1 - (intOf k).toNat)
            case atStart => exact ⟨0, (y0, u0), by omega, rfl, rfl, rfl, rfl⟩
            case round =>
              obtain ⟨j, ⟨v', u'⟩, hj, rfl, hi, rfl, rfl⟩ := hrel
              obtain ⟨i1, i2, i3⟩ := innAt_some (p := (y0, u0)) y1 u1 j _ hi
              simp only at i1 i2
              have i4 : v' ≤ 2000000000000000 := by
                rcases i3 with i3 | ⟨_, i3⟩
                · simp only at i3; omega
                · injection i3 with i3 _; omega
              have HI := Lib.hid hi
              have i5 : 0 ≤ u' := by omega
              have i6 : u' ≤ 70 := by omega
              clear hi i3 i2
              obtain ⟨m1, m2⟩ := inn_step i1 i4 i5 i6
              have HX : Hid (innAt (y0, u0) (j + 1) = if 1000000000000000 < v' * (u' + 1) / ((j : Int) + 1) then none else some (v' * (u' + 1) / ((j : Int) + 1), u' + 1)) := Lib.hid (by rw [innAt, HI.out]; rfl)
              by_cases hje : j < e
              · by_cases hx : 1000000000000000 < v' * (u' + 1) / ((j : Int) + 1)
                · have HN : Hid (outAt b (distL b s t) s.size = none) := Lib.hid (outAt_none (k := k + 1) (by rw [HO.out]; exact innAt_none (k := j + 1) (by rw [HX.out, if_pos hx]) _ hje) _ hlt)
                  go_wp2_with (go_at_call 70; refine (l1Least_any _ _ _).mono ?_; rw [HE.out]; rintro e w4 ⟨rfl, rfl⟩)
                  go_ret2
                  exact ⟨by rw [(cf_none HG.out HN.out).1, (cf_none HG.out HN.out).2]; rfl, HBN.out⟩
                · have HN := Lib.hid hx
                  go_wp2_with (go_at_call 70; refine (l1Least_any _ _ _).mono ?_; rw [HE.out]; rintro e w4 ⟨rfl, rfl⟩)
                  go_round
                  case rel => exact ⟨j + 1, (v' * (u' + 1) / ((j : Int) + 1), u' + 1), by omega, congrArg (Value.int .i64) (by omega), by rw [HX.out, if_neg (by first | exact HN.out | exact Int.not_lt.2 HN.out)], rfl, rfl⟩
                  case measure => simp [intOf]; omega
              · go_wp2_with (go_at_call 70; refine (l1Least_any _ _ _).mono ?_; rw [HE.out]; rintro e w4 ⟨rfl, rfl⟩)
                go_roundw
                case rel => exact ⟨k + 1, (v', u'), by omega, by go_num, by rw [HO.out, show e = j by omega]; exact HI.out, rfl, rfl, HWN.out⟩
                case measure => simp [intOf]; omega
      · go_wp2_with fail
        go_ret2
        have e0 : k = s.size := by omega
        have HQ' := HQ.out
        rw [e0] at HQ'
        exact ⟨by rw [(cf_some HG.out HQ').1, (cf_some HG.out HQ').2]; rfl, hB⟩
  · have HG := Lib.hid (Bool.eq_false_iff.2 hg)
    clear hg
    go_enter Try.func40, Try.ntmps40
    go_wp2_with (go_at_call 64; refine (whTwo_any _ _ _ _ _ HS.out HT.out).mono ?_; rw [HG.out]; rintro e w1 ⟨rfl, hb⟩; obtain ⟨hc, hf, hz⟩ := bcell hb; have hz0 : w.heap.size < w1.heap.size := by (try simp at hz); omega)
    go_ret2
    refine ⟨by rw [(cf_no HG.out).1, (cf_no HG.out).2]; rfl, ?_⟩
    (repeat (first | assumption | exact Below.refl _ _ | (refine Below.alloc ?_ (by first | omega | (simp; done) | (simp; omega)) _) | (refine Below.setCell ?_ (by first | omega | (simp; done) | (simp; omega)) _) | refine bel_drewN ?_ _ | refine bel_drew ?_ | (refine bel_call ?_ (by assumption))))

end Go.Proofs.Ythnekpdakjcadaa
