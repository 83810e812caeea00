/- The farthest codes, as the model lists them. No conditions. -/
import Derived.Test.YthnekpdakjcadabFarthest
namespace Go.Proofs.Ythnekpdakjcadab
open Go.ChangeShapes Go.WideShapes Go.ChangeAt Go.RowKit Go.Joins

theorem l1Least_q (x y : Int) (w : World) :
    Calls Try.prog 39 #[.int .i64 x, .int .i64 y] w fun e w' => e = .returned (.int .i64 (lstI x y)) ∧ w' = w :=
  (l1Least_any x y w).mono fun _ _ h => ⟨h.1, h.2.symm⟩

set_option maxHeartbeats 2000000 in
theorem specFarthest_any (a b : Int) (s : ByteArray) (w : World) (hs : s.size ≤ maxLen) :
    Calls Try.prog 11 #[.agg #[.int .i64 a, .int .i64 b], .string s] w (FarOut w a b s) := by
  have HS := Lib.hid hs
  clear hs
  by_cases ha : askB a b s = true
  · have HY := Lib.hid ha
    have HA := Lib.hid (asked ha)
    obtain ⟨bn, hbn⟩ : ∃ bn : Nat, b = bn := ⟨b.toNat, by have := HA.out.b2; omega⟩
    subst hbn
    obtain ⟨n1, n6, b2, b10⟩ : 1 ≤ s.size ∧ s.size ≤ 6 ∧ 2 ≤ bn ∧ bn ≤ 10 := ⟨HA.out.n1, HA.out.n6, by have := HA.out.b2; omega, by have := HA.out.b10; omega⟩
    obtain ⟨a1, a6⟩ : 1 ≤ a ∧ a ≤ 6 := by have := HA.out.size; omega
    obtain ⟨i0, hi, hy0, hy1, hy2⟩ := info_parts info_string
    have p0 := Int.mul_nonneg (show (0 : Int) ≤ a by omega) (show (0 : Int) ≤ (bn : Int) / 2 by omega)
    have p1 : a * ((bn : Int) / 2) ≤ 6 * 5 := Int.mul_le_mul a6 (by omega) (by omega) (by omega)
    clear ha
    go_enter Try.func11, Try.ntmps11
    go_wp2_with (first | (go_at_call 36; refine (whAsked_any _ _ _ _ HS.out).mono ?_; rw [HY.out]; rintro e w1 ⟨rfl, hb⟩; obtain ⟨hc, hf, hz⟩ := bcell hb; have hz0 : w.heap.size < w1.heap.size := by (try simp at hz); omega) | (go_at_call 37; refine (whDigits_any _ _ HA.out.digits (by omega) (by omega)).mono ?_; rintro e w2 ⟨g, c, rfl, hg, hC, hb2⟩))
    have HO0 := Lib.hid ((ownS_one (W := w1) (B := w.heap.size) (s := ⟨#[]⟩) (t := 9) rfl (Nat.le_of_lt hz0)).keep hb2)
    have HC := Lib.hid hC
    have z1 : w.heap.size < w2.heap.size := by have := hb2.size; simp at this; omega
    have l0 : w2.cell? ⟨w.heap.size, 0, none⟩ = some (.int .i64 a) := by rw [hb2.cell (p := ⟨w.heap.size, 0, none⟩) (by simp; omega), World.cell?_alloc_lt _ _ _ hz0, hc _ _ (by simp)]; simp
    have l1 : w2.cell? ⟨w.heap.size, 1, none⟩ = some (.int .i64 bn) := by rw [hb2.cell (p := ⟨w.heap.size, 1, none⟩) (by simp; omega), World.cell?_alloc_lt _ _ _ hz0, hc _ _ (by simp)]; simp
    have hB : Below w.heap.size w w2 := by (repeat (first | assumption | exact Below.refl _ _ | (refine Below.alloc ?_ (by first | omega | (simp; done) | (simp; omega)) _) | (refine Below.setCell ?_ (by first | omega | (simp; done) | (simp; omega)) _) | refine bel_drewN ?_ _ | refine bel_drew ?_ | (refine bel_call ?_ (by assumption))))
    clear hc hf hz hb hC hg hb2 p0 p1
    go_loopw [8, 31] (fun v i wr => ∃ (k c : Nat) (A : Option Addr), k ≤ s.size ∧ i = .int .i64 k ∧ v = .slice A (farL bn (dg s) k).length c ∧ OwnS wr w.heap.size A (farL bn (dg s) k).length (farL bn (dg s) k) ∧ Cells wr g s.size (digF (dg s)) ∧ wr.cell? ⟨w.heap.size, 0, none⟩ = some (.int .i64 a) ∧ wr.cell? ⟨w.heap.size, 1, none⟩ = some (.int .i64 bn) ∧ w.heap.size < wr.heap.size ∧ Below w.heap.size w wr) (fun _ i _ => s.size - (intOf i).toNat)
    case atStart => exact ⟨0, 1, _, by omega, rfl, rfl, HO0.out, HC.out, l0, l1, z1, hB⟩
    case round =>
      clear l0 l1 z1 hB
      obtain ⟨k, c, A, hk, rfl, rfl, hO, hC, l0, l1, z1, hB⟩ := hrel
      have HO := Lib.hid hO
      have HC := Lib.hid hC
      clear hO hC
      by_cases hlt : k < s.size
      · have o1 := HC.out.cell hlt
        obtain ⟨e0, e9⟩ := HA.out.low k hlt
        have hlen : (farL bn (dg s) k).length ≤ 1000000 := Nat.le_trans (farL_length (by omega) _ _) (Nat.le_trans (Nat.pow_le_pow_right (by decide) (show k ≤ 6 by omega)) (by decide))
        have HSZ : Hid (Sz (farL bn (dg s) k) 100) := Lib.hid (fun t ht => Nat.le_trans (farL_sz _ _ _ t ht) (by omega))
        have HN : Hid (farL bn (dg s) (k + 1) = farAll bn ((dg s).getD k 0) (farL bn (dg s) k) (farL bn (dg s) k).length) := Lib.hid rfl
        unfold digF at o1
        generalize (dg s).getD k 0 = d at o1 e0 e9 HN
        generalize farL bn (dg s) k = R at HO hlen HSZ HN
        generalize hnl : R.length = n at HO hlen HN
        clear hnl
        obtain ⟨wi, hw⟩ : ∃ wi, wi = wr := ⟨_, rfl⟩
        subst hw
        go_wp2_with fail
        go_loopw [11, 37] (fun v i w3 => ∃ i' : Nat, i' ≤ n ∧ i = .int .i64 i' ∧ w3.ownsRow wi.heap.size 9 1 v (farAll bn d R i').length (sv (farAll bn d R i')) ∧ Below wi.heap.size wi w3) (fun _ i _ => n - (intOf i).toNat)
        case atStart => exact ⟨0, by omega, rfl, World.ownsRow_nil _ _ _ _, Below.refl _ _⟩
        case round =>
          obtain ⟨i, hin, rfl, hown, hB2⟩ := hrel
          have HOW := Lib.hid hown
          clear hown o1
          by_cases hil : i < n
          · obtain ⟨g2, rfl, _, hC2⟩ := HO.out.lt hil
            have o1 := (hC2.below hB2 hC2.lt).cell hil
            unfold strF at o1
            have hst := HSZ.out.getD i
            have HF1 : Hid (farAll bn d R (i + 1) = farQ bn d (R.getD i ByteArray.empty) (farAll bn d R i) bn) := Lib.hid (by rw [farAll, Int.toNat_natCast])
            have hFl := farAll_length bn d R i
            have hFb : i * (bn : Int).toNat ≤ 1000000 * 10 := Nat.mul_le_mul (by omega) (by rw [Int.toNat_natCast]; omega)
            generalize R.getD i ByteArray.empty = t at o1 hst HF1
            generalize farAll bn d R i = F at HOW HF1 hFl
            have hF : F.length ≤ 10000000 := Nat.le_trans hFl hFb
            clear hFl hFb hC2
            go_wp2_with fail
            clear o1
            go_loopw [11, 14] (fun v j w4 => ∃ q : Nat, q ≤ bn ∧ j = .int .i64 q ∧ w4.ownsRow wi.heap.size 9 1 v (farQ bn d t F q).length (sv (farQ bn d t F q)) ∧ Below wi.heap.size wi w4) (fun _ j _ => bn - (intOf j).toNat)
            case atStart => exact ⟨0, by omega, rfl, HOW.out, hB2⟩
            case round =>
              clear hB2
              obtain ⟨q, hq, rfl, hown, hB2⟩ := hrel
              have HOQ := Lib.hid hown
              clear hown
              have m0 : wr.cell? ⟨w.heap.size, 0, none⟩ = some (.int .i64 a) := by rw [hB2.cell (p := ⟨w.heap.size, 0, none⟩) z1]; exact l0
              have m1 : wr.cell? ⟨w.heap.size, 1, none⟩ = some (.int .i64 bn) := by rw [hB2.cell (p := ⟨w.heap.size, 1, none⟩) z1]; exact l1
              have z4 : w.heap.size < wr.heap.size := Nat.lt_of_lt_of_le z1 hB2.size
              by_cases hqb : q < bn
              · have hFl := farQ_length bn d t F q
                have HN2 : Hid (farQ bn d t F (q + 1) = if lstI (subI bn q d) (subI bn d q) = (bn : Int) / 2 then farQ bn d t F q ++ [t ++ strOfNums [48 + (q : Int)]] else farQ bn d t F q) := Lib.hid rfl
                generalize farQ bn d t F q = G at HOQ HN2 hFl
                have hG : G.length ≤ 20000000 := by omega
                obtain ⟨P, hP⟩ : ∃ P, subI bn q d = P := ⟨_, rfl⟩
                obtain ⟨Q, hQ⟩ : ∃ Q, subI bn d q = Q := ⟨_, rfl⟩
                rw [hP, hQ] at HN2
                have HP := Lib.hid hP
                have HQ := Lib.hid hQ
                have W1 := Lib.hid (IntWalk.i64_in ((bn : Int) / 2) ⟨by omega, by omega⟩)
                clear hP hQ hFl
                by_cases hfar : lstI P Q = (bn : Int) / 2
                · have heq : (lstI P Q == (bn : Int) / 2) = true := by simpa using hfar
                  have hadd : ∀ W : World, (Op.stringOp .add t (strOfNums [48 + (q : Int)])).run Try.prog W = .ok (.string (t ++ strOfNums [48 + (q : Int)])) W := fun W => run_string_add_sum _ _ _ (by rw [strOne_size]; omega)
                  have HG1 : Hid (farQ bn d t F (q + 1) = G ++ [t ++ strOfNums [48 + (q : Int)]]) := Lib.hid (by rw [HN2.out, if_pos hfar])
                  clear hfar
                  go_wp2_with (go_at_call 38; refine (whFar_any _ _ _ _ _ (by omega) (by omega) (by omega) (by omega)).mono ?_; rw [HP.out, HQ.out]; rintro e w3 ⟨rfl, hb3⟩; have q0 := (hb3.cell (p := ⟨w.heap.size, 0, none⟩) z4).trans m0; have q1 := (hb3.cell (p := ⟨w.heap.size, 1, none⟩) z4).trans m1)
                  have hw1 := W1.out
                  go_quiet ((go_at_call 39; exact Calls.quiet_of_same (l1Least_q _ _ _)))
                  clear hw1
                  go_wp2_with (first
                    | (go_at_call 40; refine (l1Num_any _ _ (by omega) (by omega)).mono ?_; rintro e w5 ⟨rfl, hb5⟩; have HW5 := Lib.hid (show Below wr.heap.size wr w5 from bel_call (bel_drewN hb3 _) hb5))
                    | (at_builtin; refine wpList_append_own _ rfl _ _ 24 rfl wi.heap.size 9 i0 (.string ByteArray.empty) 1 16 Try.underlying24 hi hy0 hy1 hy2 rfl (by decide) _ _ _ rfl ((own_keeps HOQ.out HW5.out).alloc _) ⟨w5.heap.size, 0, none⟩ 1 1 [.string (t ++ strOfNums [48 + (q : Int)])] rfl rfl (news_of rfl) (by simp [Value.oneCell']) (by unfold maxLen; omega) (by omega) (by have h1 := hB2.size; have h3 := HW5.out.size; simp; omega) ?_; intro v' w6 hown' hgrow _))
                  have HB6 := Lib.hid (((bel_call hB2 HW5.out).alloc (by have h1 := hB2.size; have h3 := HW5.out.size; omega) _).grown hgrow (by have h1 := hB2.size; have h3 := HW5.out.size; simp; omega) (fun j hj => ((own_keeps HOQ.out HW5.out).lt j hj).1))
                  have HO6 : Hid (w6.ownsRow wi.heap.size 9 1 v' (farQ bn d t F (q + 1)).length (sv (farQ bn d t F (q + 1)))) := Lib.hid (by rw [HG1.out, sv_snoc, List.length_append, List.length_singleton]; exact hown')
                  clear hgrow hown' hb5 hb3
                  go_wp2_with fail
                  go_roundw
                  case rel => exact ⟨q + 1, by omega, by go_num, HO6.out, HB6.out⟩
                  case measure => simp [intOf]; omega
                · have heq : (lstI P Q == (bn : Int) / 2) = false := by simpa using hfar
                  have HG1 : Hid (farQ bn d t F (q + 1) = G) := Lib.hid (by rw [HN2.out, if_neg hfar])
                  go_wp2_with (go_at_call 38; refine (whFar_any _ _ _ _ _ (by omega) (by omega) (by omega) (by omega)).mono ?_; rw [HP.out, HQ.out]; rintro e w3 ⟨rfl, hb3⟩; have q0 := (hb3.cell (p := ⟨w.heap.size, 0, none⟩) z4).trans m0; have q1 := (hb3.cell (p := ⟨w.heap.size, 1, none⟩) z4).trans m1)
                  have hw1 := W1.out
                  go_quiet ((go_at_call 39; exact Calls.quiet_of_same (l1Least_q _ _ _)))
                  clear hw1
                  go_wp2_with fail
                  go_roundw
                  case rel => exact ⟨q + 1, by omega, by go_num, by rw [HG1.out]; exact own_keeps HOQ.out (bel_drewN hb3 _), bel_drewN (bel_call hB2 hb3) _⟩
                  case measure => simp [intOf]; omega
              · obtain rfl : q = bn := by omega
                go_wp2_with fail
                go_roundw
                case rel => exact ⟨i + 1, by omega, by go_num, by rw [HF1.out]; exact HOQ.out, hB2⟩
                case measure => simp [intOf]; omega
          · have hin2 : i = n := by omega
            subst hin2
            go_wp2_with fail
            obtain ⟨A', c', rfl, hO'⟩ := own_strs HOW.out (by have := farAll_length bn d R i; have h2 : i * (bn : Int).toNat ≤ 1000000 * 10 := Nat.mul_le_mul (by omega) (by rw [Int.toNat_natCast]; omega); omega)
            go_roundw
            case rel => exact ⟨k + 1, c', A', by omega, by go_num, by rw [HN.out], by rw [HN.out]; exact hO'.base (Nat.le_of_lt z1), HC.out.call hB2, by rw [hB2.cell (p := ⟨w.heap.size, 0, none⟩) z1, l0], by rw [hB2.cell (p := ⟨w.heap.size, 1, none⟩) z1, l1], Nat.lt_of_lt_of_le z1 hB2.size, bel_call hB hB2⟩
            case measure => simp [intOf]; omega
      · obtain rfl : k = s.size := by omega
        go_wp2_with fail
        go_ret3
        exact far_some HY.out rfl rfl HO.out hB
  · have HY := Lib.hid (Bool.eq_false_iff.2 ha)
    clear ha
    go_enter Try.func11, Try.ntmps11
    go_wp2_with (go_at_call 36; refine (whAsked_any _ _ _ _ HS.out).mono ?_; rw [HY.out]; rintro e w1 ⟨rfl, hb⟩; obtain ⟨hc, hf, hz⟩ := bcell hb; have hz0 : w.heap.size < w1.heap.size := by (try simp at hz); omega)
    go_ret3
    refine far_none HY.out ?_
    (repeat (first | assumption | exact Below.refl _ _ | (refine Below.alloc ?_ (by first | omega | (simp; done) | (simp; omega)) _) | (refine Below.setCell ?_ (by first | omega | (simp; done) | (simp; omega)) _) | refine bel_drewN ?_ _ | refine bel_drew ?_ | (refine bel_call ?_ (by assumption))))

end Go.Proofs.Ythnekpdakjcadab
