/- The first turns that lead from one code to another one, as the program lists them: the walk. No conditions. -/
import Derived.Test.YtpbnleohbegccaaFirst
namespace Go.Proofs.Ytpbnleohbegccaa
open Go.ChangeShapes Go.WideShapes Go.ChangeAt Go.RowKit Go.Joins

theorem diff_at {a b : Int} {s t : ByteArray} (h : Asked a b s) (ht : Asked a b t) {k : Nat} (hk : k < t.size) : ((dg t).zipWith (subI b) (dg s)).getD k 0 = subI b ((dg t).getD k 0) ((dg s).getD k 0) := by
  have h1 := h.size
  have h2 := ht.size
  exact zip_at _ _ _ (by rw [dg_length]; exact hk) (by rw [dg_length]; omega)

set_option maxHeartbeats 2000000 in
set_option maxRecDepth 100000 in
theorem first_any (a b : Int) (s t : ByteArray) (w : World) (hs : s.size ≤ maxLen) (ht : t.size ≤ maxLen) :
    Calls Try.prog 102 #[.agg #[.int .i64 a, .int .i64 b], .string s, .string t] w (TurnsOut w (firstZ a b s t) (twoB a b s t)) := by
  have HS := Lib.hid hs
  have HT := Lib.hid ht
  clear hs ht
  by_cases h1 : askB a b s = true
  · have H1 := Lib.hid h1
    by_cases h2 : askB a b t = true
    · have H2 := Lib.hid h2
      have HG : Hid (twoB a b s t = true) := Lib.hid (by unfold twoB; rw [h1, h2]; rfl)
      have HA := Lib.hid (asked h1)
      have HT' := Lib.hid (asked h2)
      obtain ⟨n6, b2, b10⟩ : s.size ≤ 6 ∧ 2 ≤ b ∧ b ≤ 10 := ⟨HA.out.n6, HA.out.b2, HA.out.b10⟩
      have hst : s.size ≤ t.size ∧ t.size ≤ s.size := by have h1 := HA.out.size; have h2 := HT'.out.size; omega
      obtain ⟨st1, st2⟩ := hst
      obtain ⟨i0, hi, hy0, hy1, hy2⟩ := info_parts info_turn
      clear h1 h2
      go_enter Try.func102, Try.ntmps102
      go_wp2_with (first | (go_at_call_of 71 s; refine (hasCode_any _ _ _ _ HS.out).mono ?_; rw [ask_eq, H1.out]; rintro e w1 ⟨rfl, hb⟩; obtain ⟨hc, hf, hz⟩ := bcell hb; have hz0 : w.heap.size < w1.heap.size := by (try simp at hz); omega) | (go_at_call_of 71 t; refine (hasCode_any _ _ _ _ HT.out).mono ?_; rw [ask_eq, H2.out]; rintro e w2 ⟨rfl, hb2⟩; have l0 : w2.cell? ⟨w.heap.size, 0, none⟩ = some (.int .i64 a) := by { rw [hb2.cell (p := ⟨w.heap.size, 0, none⟩) hz0, hc _ _ (by simp)]; simp }; have l1 : w2.cell? ⟨w.heap.size, 1, none⟩ = some (.int .i64 b) := by { rw [hb2.cell (p := ⟨w.heap.size, 1, none⟩) hz0, hc _ _ (by simp)]; simp }))
      have z2 : w.heap.size < w2.heap.size := Nat.lt_of_lt_of_le hz0 hb2.size
      have hB2 : Below w.heap.size w w2 := by (repeat (first | assumption | exact Below.refl _ _ | (refine Below.alloc ?_ (by first | omega | (simp; done) | (simp; omega)) _) | (refine Below.setCell ?_ (by first | omega | (simp; done) | (simp; omega)) _) | refine bel_drewN ?_ _ | refine bel_drew ?_ | (refine bel_call ?_ (by assumption))))
      clear hc hf hz hb hb2
      refine (pairDiff_any _ _ _ _ _ H2.out H1.out).mono ?_
      rintro e w3 ⟨g, c, rfl, hgg, hC, hb3⟩
      have L1 := Lib.hid ((hb3.cell (p := ⟨w.heap.size, 1, none⟩) z2).trans l1)
      have z3 : w.heap.size < w3.heap.size := Nat.lt_of_lt_of_le z2 hb3.size
      have HB3 := Lib.hid (bel_call hB2 hb3)
      have HC := Lib.hid hC
      have hg3 := hC.lt
      clear hC hb3 hgg l0 l1 z2 hB2
      go_wp2_with fail
      go_loopw [8, 29] (fun v i wr => ∃ k : Nat, k ≤ s.size ∧ i = .int .i64 k ∧ wr.ownsRow w3.heap.size 33 2 v (firstAt b (dg s) (dg t) k).length (tv (firstAt b (dg s) (dg t) k)) ∧ Below w3.heap.size w3 wr) (fun _ i _ => s.size - (intOf i).toNat)
      case atStart => exact ⟨0, by omega, rfl, World.ownsRow_nil _ _ _ _, Below.refl _ _⟩
      case round =>
        obtain ⟨k, hk, rfl, hown, hB⟩ := hrel
        have HOW := Lib.hid hown
        clear hown
        by_cases hlt : k < s.size
        · have hlt' : k < t.size := by omega
          have o1 : wr.cell? ⟨g, k, none⟩ = some (.int .i64 (subI b ((dg t).getD k 0) ((dg s).getD k 0))) := by
            rw [(HC.out.below hB hg3).cell hlt', digF, diff_at HA.out HT'.out hlt']
          have l1 := (hB.cell (p := ⟨w.heap.size, 1, none⟩) z3).trans L1.out
          have HFN : Hid (firstAt b (dg s) (dg t) (k + 1) = firstAt b (dg s) (dg t) k ++ List.replicate (farI b ((dg s).getD k 0) ((dg t).getD k 0)).toNat ((k : Int), dirI b ((dg s).getD k 0) ((dg t).getD k 0))) := Lib.hid rfl
          have hlen := firstAt_length b2 b10 (dg s) (dg t) k
          generalize (dg s).getD k 0 = x at o1 HFN
          generalize (dg t).getD k 0 = y at o1 HFN
          generalize firstAt b (dg s) (dg t) k = L at HOW HFN hlen
          obtain ⟨hc1, hc2⟩ := @turn_case b x y b2
          obtain ⟨u0, u1⟩ := subI_bd b2 y x
          generalize subI b y x = P at o1 u0 u1 hc1 hc2
          by_cases hbk : b - P < P
          · obtain ⟨e1, e2⟩ := hc1 hbk
            obtain ⟨e, he⟩ : ∃ e : Nat, b - P = e := ⟨(b - P).toNat, by omega⟩
            have e9 : e ≤ 9 := by omega
            rw [e1, e2, he, Int.toNat_natCast] at HFN
            clear hc1 hc2 e1 e2
            go_wp2_with (first | (go_at_call 118; refine (forth_any _ _).mono ?_; rintro e w4 ⟨rfl, hb4⟩; have hz4 : w.heap.size < w4.heap.size := Nat.lt_of_lt_of_le (Nat.lt_of_lt_of_le z3 hB.size) hb4.size; have l2 := (hb4.cell (p := ⟨w.heap.size, 1, none⟩) (Nat.lt_of_lt_of_le z3 hB.size)).trans l1) | (go_at_call 119; refine (back_any _ _).mono ?_; rintro e w5 ⟨rfl, hb5⟩; obtain ⟨hc5, hf5, hz5⟩ := bcell hb5))
            refine (repeat_int _ _ e _ k (-1) _ rfl (cells_two (by rw [size_setCell, size_setCell])) (by omega)).mono ?_
            rintro e' w7 ⟨g', rfl, hg', hC7, hb7⟩
            have hbA : Below wr.heap.size wr w7 := bel_call ((((bel_call (hb4.alloc hb4.size _) hb5).setCell (p := ⟨w4.heap.size, 0, none⟩) hb4.size _).setCell (p := ⟨w4.heap.size, 1, none⟩) hb4.size _).alloc (by rw [size_setCell, size_setCell]; exact Nat.le_trans hb4.size (Nat.le_trans (by simp) hb5.size)) _) hb7
            have H7 := Lib.hid hC7
            have HO7 := Lib.hid (own_below HOW.out hbA)
            have HB7 := Lib.hid (bel_call hB hbA)
            clear hC7 hbA hb7 hg' hb4 hb5
            go_wp2_with (at_builtin; refine wpList_append_own _ rfl _ _ 53 rfl w3.heap.size 33 i0 (.agg #[.int .i64 0, .int .i64 0]) 2 16 Try.underlying53 hi hy0 hy1 hy2 rfl (by decide) _ _ _ rfl HO7.out ⟨g', 0, none⟩ e e (tv (List.replicate e ((k : Int), -1))) rfl (by rw [tv_length, List.length_replicate]) (tv_news (by rw [List.length_replicate]) H7.out) (tv_one _) (by unfold maxLen; omega) (by omega) HB7.out.size ?_; intro v' w8 hown' hgrow _)
            have HB8 := Lib.hid (HB7.out.grown hgrow HB7.out.size (fun j hj => (HO7.out.lt j hj).1))
            have HO8 : Hid (w8.ownsRow w3.heap.size 33 2 v' (firstAt b (dg s) (dg t) (k + 1)).length (tv (firstAt b (dg s) (dg t) (k + 1)))) := Lib.hid (by rw [HFN.out, List.length_append, List.length_replicate, tv_app]; exact hown')
            clear hgrow hown'
            go_wp2_with fail
            go_roundw
            case rel => exact ⟨k + 1, by omega, by go_num, HO8.out, HB8.out⟩
            case measure => simp [intOf]; omega
          · obtain ⟨e1, e2⟩ := hc2 hbk
            obtain ⟨e, he⟩ : ∃ e : Nat, P = e := ⟨P.toNat, by omega⟩
            have e9 : e ≤ 9 := by omega
            subst he
            rw [e1, e2, Int.toNat_natCast] at HFN
            clear hc1 hc2 e1 e2
            go_wp2_with (first | (go_at_call 118; refine (forth_any _ _).mono ?_; rintro e w4 ⟨rfl, hb4⟩; have hz4 : w.heap.size < w4.heap.size := Nat.lt_of_lt_of_le (Nat.lt_of_lt_of_le z3 hB.size) hb4.size; have l2 := (hb4.cell (p := ⟨w.heap.size, 1, none⟩) (Nat.lt_of_lt_of_le z3 hB.size)).trans l1))
            refine (repeat_int _ _ e _ k 1 _ rfl (cells_two (by simp)) (by omega)).mono ?_
            rintro e' w7 ⟨g', rfl, hg', hC7, hb7⟩
            have hbA : Below wr.heap.size wr w7 := bel_call ((hb4.alloc hb4.size _).alloc (Nat.le_trans hb4.size (by simp)) _) hb7
            have H7 := Lib.hid hC7
            have HO7 := Lib.hid (own_below HOW.out hbA)
            have HB7 := Lib.hid (bel_call hB hbA)
            clear hC7 hbA hb7 hg' hb4
            go_wp2_with (at_builtin; refine wpList_append_own _ rfl _ _ 53 rfl w3.heap.size 33 i0 (.agg #[.int .i64 0, .int .i64 0]) 2 16 Try.underlying53 hi hy0 hy1 hy2 rfl (by decide) _ _ _ rfl HO7.out ⟨g', 0, none⟩ e e (tv (List.replicate e ((k : Int), 1))) rfl (by rw [tv_length, List.length_replicate]) (tv_news (by rw [List.length_replicate]) H7.out) (tv_one _) (by unfold maxLen; omega) (by omega) HB7.out.size ?_; intro v' w8 hown' hgrow _)
            have HB8 := Lib.hid (HB7.out.grown hgrow HB7.out.size (fun j hj => (HO7.out.lt j hj).1))
            have HO8 : Hid (w8.ownsRow w3.heap.size 33 2 v' (firstAt b (dg s) (dg t) (k + 1)).length (tv (firstAt b (dg s) (dg t) (k + 1)))) := Lib.hid (by rw [HFN.out, List.length_append, List.length_replicate, tv_app]; exact hown')
            clear hgrow hown'
            go_wp2_with fail
            go_roundw
            case rel => exact ⟨k + 1, by omega, by go_num, HO8.out, HB8.out⟩
            case measure => simp [intOf]; omega
        · obtain rfl : k = s.size := by omega
          go_wp2_with fail
          go_ret2
          rw [HG.out, firstZ_yes HG.out]
          exact turns_some (by have := firstAt_length b2 b10 (dg s) (dg t) s.size; omega) (Nat.le_of_lt z3) HOW.out (HB3.out.trans (hB.mono (Nat.le_of_lt z3)))
    · have H2 := Lib.hid (Bool.eq_false_iff.2 h2)
      have HG : Hid (twoB a b s t = false) := Lib.hid (by unfold twoB; rw [h1, H2.out]; rfl)
      clear h1 h2
      go_enter Try.func102, Try.ntmps102
      go_wp2_with (first | (go_at_call_of 71 s; refine (hasCode_any _ _ _ _ HS.out).mono ?_; rw [ask_eq, H1.out]; rintro e w1 ⟨rfl, hb⟩; obtain ⟨hc, hf, hz⟩ := bcell hb; have hz0 : w.heap.size < w1.heap.size := by (try simp at hz); omega) | (go_at_call_of 71 t; refine (hasCode_any _ _ _ _ HT.out).mono ?_; rw [ask_eq, H2.out]; rintro e w1 ⟨rfl, hb⟩; obtain ⟨hc, hf, hz⟩ := bcell hb; have hz0 : w.heap.size < w1.heap.size := by (try simp at hz); omega))
      go_ret2
      rw [HG.out, firstZ_no HG.out]
      refine turns_none ?_
      (repeat (first | assumption | exact Below.refl _ _ | (refine Below.alloc ?_ (by first | omega | (simp; done) | (simp; omega)) _) | (refine Below.setCell ?_ (by first | omega | (simp; done) | (simp; omega)) _) | refine bel_drewN ?_ _ | refine bel_drew ?_ | (refine bel_call ?_ (by assumption))))
  · have H1 := Lib.hid (Bool.eq_false_iff.2 h1)
    have HG : Hid (twoB a b s t = false) := Lib.hid (by unfold twoB; rw [H1.out]; rfl)
    clear h1
    go_enter Try.func102, Try.ntmps102
    go_wp2_with (go_at_call_of 71 s; refine (hasCode_any _ _ _ _ HS.out).mono ?_; rw [ask_eq, H1.out]; rintro e w1 ⟨rfl, hb⟩; obtain ⟨hc, hf, hz⟩ := bcell hb; have hz0 : w.heap.size < w1.heap.size := by (try simp at hz); omega)
    go_ret2
    rw [HG.out, firstZ_no HG.out]
    refine turns_none ?_
    (repeat (first | assumption | exact Below.refl _ _ | (refine Below.alloc ?_ (by first | omega | (simp; done) | (simp; omega)) _) | (refine Below.setCell ?_ (by first | omega | (simp; done) | (simp; omega)) _) | refine bel_drewN ?_ _ | refine bel_drew ?_ | (refine bel_call ?_ (by assumption))))

end Go.Proofs.Ytpbnleohbegccaa
