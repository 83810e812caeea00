/- The mean distance: both programs' answers. No conditions. -/
import Derived.Test.YthnekpdakjcadabMean
import Derived.IntWalk
import Derived.OwnWalk
namespace Go.Proofs.Ythnekpdakjcadab
open Go.ChangeShapes Go.WideShapes Go.ChangeAt Go.RowKit Go.Joins

set_option maxHeartbeats 1000000 in
theorem mean_any (a b : Int) (w : World) :
    Calls Try.prog 18 #[.agg #[.int .i64 a, .int .i64 b]] w fun e w' => e = .returned (.tuple #[.int .i64 (mnZ a b), .int .i64 (mdZ a b), .bool (goodB a b)]) ∧ Below w.heap.size w w' := by
  by_cases hg : goodB a b = true
  · have HG := Lib.hid hg
    obtain ⟨a1, a6, b2, b10⟩ := good_yes hg
    obtain ⟨bn, hbn⟩ : ∃ bn : Nat, b = bn := ⟨b.toNat, by omega⟩
    subst hbn
    clear hg
    go_enter Try.func18, Try.ntmps18
    go_wp2_with (go_at_call 48; refine (isLock_any _ _ _).mono ?_; rw [HG.out]; rintro e w1 ⟨rfl, hb⟩; obtain ⟨hc, hf, hz⟩ := bcell hb; have hz0 : w.heap.size < w1.heap.size := by (try simp at hz); omega)
    have m0 : w1.cell? ⟨w.heap.size, 0, none⟩ = some (.int .i64 a) := by rw [hc _ _ (by simp)]; simp
    have m1 : w1.cell? ⟨w.heap.size, 1, none⟩ = some (.int .i64 bn) := by rw [hc _ _ (by simp)]; simp
    have hB1 : Below w.heap.size w w1 := by (repeat (first | assumption | exact Below.refl _ _ | (refine Below.alloc ?_ (by first | omega | (simp; done) | (simp; omega)) _) | (refine Below.setCell ?_ (by first | omega | (simp; done) | (simp; omega)) _) | refine bel_drewN ?_ _ | refine bel_drew ?_ | (refine bel_call ?_ (by assumption))))
    clear hc hf hz hb
    go_loopw [5, 13] (fun v i wr => ∃ q : Nat, q ≤ bn ∧ i = .int .i64 q ∧ v = .int .i64 (totT bn a q) ∧ wr.cell? ⟨w.heap.size, 0, none⟩ = some (.int .i64 a) ∧ wr.cell? ⟨w.heap.size, 1, none⟩ = some (.int .i64 bn) ∧ Below w.heap.size w wr ∧ w.heap.size < wr.heap.size) (fun _ i _ => bn - (intOf i).toNat)
    case atStart => exact ⟨0, by omega, rfl, rfl, m0, m1, hB1, hz0⟩
    case round =>
      clear m0 m1 hB1 hz0
      obtain ⟨q, hq, rfl, rfl, d0, d1, dB, dz⟩ := hrel
      obtain ⟨t0, t1⟩ := totT_bd (b := (bn : Int)) (n := a) b2 b10 (by omega) a6 q
      by_cases hlt : q < bn
      · have hT : totT bn a (q + 1) = totT bn a q + a * farI bn 0 q := rfl
        have HT := Lib.hid hT
        have hfb := farI_bd b2 0 (q : Int)
        obtain ⟨f0, f1⟩ := hfb
        have p0 := Int.mul_nonneg (show 0 ≤ a by omega) f0
        have p1 : a * farI bn 0 q ≤ 6 * 10 := Int.mul_le_mul a6 (by omega) f0 (by omega)
        clear hT
        generalize totT bn a q = T at t0 t1 HT
        obtain ⟨f, HF⟩ : ∃ f, Hid (farI bn 0 q = f) := ⟨_, Lib.hid rfl⟩
        rw [HF.out] at f0 f1 p0 p1 HT
        have hw1 : IntKind.i64.wrap (a * f) = a * f := IntWalk.i64_in _ (by omega)
        have hw2 : IntKind.i64.wrap (T + a * f) = T + a * f := IntWalk.i64_in _ (by omega)
        have W1 := Lib.hid hw1
        have W2 := Lib.hid hw2
        clear hw1 hw2
        go_wp2_with fail
        have hw1 := W1.out
        have hw2 := W2.out
        go_region_held3 (fun w' => w'.cell? ⟨w.heap.size, 0, none⟩ = some (.int .i64 a) ∧ w'.cell? ⟨w.heap.size, 1, none⟩ = some (.int .i64 bn) ∧ Below w.heap.size w w' ∧ w.heap.size < w'.heap.size) (first | assumption | exact ⟨d0, d1, bel_drew dB, dz⟩ | go_keep)
          (first | (go_at_call 49; refine (call_held2 (by assumption) (digitDistance_any _ _ _ _ _ (by assumption) (by assumption) (by omega) (by omega))).mono ?_; rw [HF.out]; rintro e w2 ⟨rfl, hS⟩))
        clear hw1 hw2
        go_wp2_with fail
        go_roundw
        case rel => exact ⟨q + 1, by omega, by go_num, by rw [HT.out], hS⟩
        case measure => simp [intOf]; omega
      · have hqb : q = bn := by omega
        have HQ : Hid (totT bn a q = totT bn a bn) := Lib.hid (by rw [hqb])
        obtain ⟨T, hTT⟩ : ∃ T : Nat, totT bn a q = T := ⟨(totT bn a q).toNat, by omega⟩
        have HTT : Hid (totT bn a bn = T) := Lib.hid (by rw [← HQ.out]; exact hTT)
        have t9 : T ≤ 1000000000 := by omega
        rw [hTT]
        rw [hTT] at t0 t1
        clear hTT hqb HQ
        go_wp2_with (go_at_call 50; refine (commonDivisor_any _ _ _ t9 (by omega)).mono ?_; rintro e w2 ⟨rfl, hb2⟩)
        obtain ⟨D, HD⟩ : ∃ D, Hid (Nat.gcd T bn = D) := ⟨_, Lib.hid rfl⟩
        rw [HD.out]
        have hD0 : 0 < D := by rw [← HD.out]; exact Nat.gcd_pos_of_pos_right _ (by omega)
        have hD1 : (1 : Int) ≤ (D : Int) := by omega
        have k1 : w2.cell? ⟨w.heap.size, 1, none⟩ = some (.int .i64 bn) := by rw [hb2.cell (p := ⟨w.heap.size, 1, none⟩) dz, d1]
        have hB2 : Below w.heap.size w w2 := bel_call dB hb2
        have hne : ((D : Int) == 0) = false := by simp; omega
        have HZ : Hid (mnZ a bn = (T : Int) / (D : Int) ∧ mdZ a bn = (bn : Int) / (D : Int)) := Lib.hid (by
          rw [(mean_yes HG.out).1, (mean_yes HG.out).2, meanNum, meanDen, Int.toNat_natCast, HTT.out, gcdI, Int.toNat_natCast, Int.toNat_natCast, HD.out]
          exact ⟨rfl, rfl⟩)
        clear d0 d1 dB hb2 HD
        have q1 := Int.ediv_nonneg t0 (show (0 : Int) ≤ (D : Int) by omega)
        have q2 := Int.ediv_le_self (D : Int) t0
        have r1 := Int.ediv_nonneg (show (0 : Int) ≤ (bn : Int) by omega) (show (0 : Int) ≤ (D : Int) by omega)
        have r2 := Int.ediv_le_self (D : Int) (show (0 : Int) ≤ (bn : Int) by omega)
        have E1 := Lib.hid (IntWalk.wrap64_in ((T : Int) / (D : Int)) ⟨by omega, by omega⟩)
        have E2 := Lib.hid (IntWalk.wrap64_in ((bn : Int) / (D : Int)) ⟨by omega, by omega⟩)
        clear q1 q2 r1 r2
        go_quiet (fail)
        rw [E1.out, E2.out]
        go_wp2_with fail
        go_ret3
        exact ⟨by rw [HG.out, HZ.out.1, HZ.out.2]; rfl, bel_drewN hB2 _⟩
  · have HG := Lib.hid (Bool.eq_false_iff.2 hg)
    clear hg
    go_enter Try.func18, Try.ntmps18
    go_wp2_with (go_at_call 48; refine (isLock_any _ _ _).mono ?_; rw [HG.out]; rintro e w1 ⟨rfl, hb⟩; obtain ⟨hc, hf, hz⟩ := bcell hb; have hz0 : w.heap.size < w1.heap.size := by (try simp at hz); omega)
    go_ret3
    refine ⟨by rw [HG.out, (mean_no HG.out).1, (mean_no HG.out).2]; rfl, ?_⟩
    (repeat (first | assumption | exact Below.refl _ _ | (refine Below.alloc ?_ (by first | omega | (simp; done) | (simp; omega)) _) | (refine Below.setCell ?_ (by first | omega | (simp; done) | (simp; omega)) _) | refine bel_drewN ?_ _ | refine bel_drew ?_ | (refine bel_call ?_ (by assumption))))

set_option maxHeartbeats 1000000 in
theorem specMean_any (a b : Int) (w : World) :
    Calls Try.prog 17 #[.agg #[.int .i64 a, .int .i64 b]] w fun e w' => e = .returned (.tuple #[.int .i64 (mnZ a b), .int .i64 (mdZ a b), .bool (goodB a b)]) ∧ Below w.heap.size w w' := by
  by_cases hg : goodB a b = true
  · have HG := Lib.hid hg
    obtain ⟨a1, a6, b2, b10⟩ := good_yes hg
    obtain ⟨n, rfl⟩ : ∃ n : Nat, a = n := ⟨a.toNat, by omega⟩
    clear hg
    obtain ⟨R, HR⟩ : ∃ R, Hid (roundsL b n = R) := ⟨_, Lib.hid rfl⟩
    have HBn := Lib.hid (rounds_bnd b2 b10 (k := n) (by omega))
    have hlen : (roundsL b n).length ≤ 31 := by
      rw [roundsL_length]
      have h5 : (b / 2).toNat ≤ 5 := by omega
      have := Nat.mul_le_mul (show n ≤ 6 by omega) h5
      omega
    have hmean := mean_eq HG.out
    rw [← (mean_yes HG.out).1, ← (mean_yes HG.out).2] at hmean
    obtain ⟨C, hC⟩ : ∃ C : Nat, pw b n = C := ⟨(pw b n).toNat, by have := pw_bd6 b2 b10 (k := n) (by omega); omega⟩
    have hCb := pw_bd6 b2 b10 (k := n) (by omega)
    rw [hC] at hmean hCb
    have HCC := Lib.hid hC
    rw [HR.out] at hmean hlen HBn
    obtain ⟨len, hl⟩ : ∃ len, R.length = len := ⟨_, rfl⟩
    rw [hl] at hmean hlen
    have HL := Lib.hid hl
    obtain ⟨S, hS⟩ : ∃ S : Nat, sumD R len = S := ⟨(sumD R len).toNat, by have := sumD_bd HBn.out len hlen; omega⟩
    have hSb : S ≤ 1000000000 := by have := sumD_bd HBn.out len hlen; omega
    rw [hS] at hmean
    unfold gcdI at hmean
    rw [Int.toNat_natCast, Int.toNat_natCast] at hmean
    have HM := Lib.hid hmean
    have HS := Lib.hid hS
    clear hmean hC hl hS
    go_enter Try.func17, Try.ntmps17
    go_wp2_with (first | (go_at_call 45; refine (whGood_any _ _ _).mono ?_; rw [HG.out]; rintro e w1 ⟨rfl, hb⟩; obtain ⟨hc, hf, hz⟩ := bcell hb; have hz0 : w.heap.size < w1.heap.size := by (try simp at hz); omega))
    refine (whRounds_any _ _ _ HG.out).mono ?_
    rintro e w3 ⟨g, c, rfl, hgg, hCl, hb3⟩
    rw [HR.out] at hCl ⊢
    rw [HL.out] at hCl ⊢
    have m0 : w3.cell? ⟨w.heap.size, 0, none⟩ = some (.int .i64 n) := by rw [hb3.cell (p := ⟨w.heap.size, 0, none⟩) (by omega), hc _ _ (by simp)]; simp
    have m1 : w3.cell? ⟨w.heap.size, 1, none⟩ = some (.int .i64 b) := by rw [hb3.cell (p := ⟨w.heap.size, 1, none⟩) (by omega), hc _ _ (by simp)]; simp
    have hB3 : Below w.heap.size w w3 := by (repeat (first | assumption | exact Below.refl _ _ | (refine Below.alloc ?_ (by first | omega | (simp; done) | (simp; omega)) _) | (refine Below.setCell ?_ (by first | omega | (simp; done) | (simp; omega)) _) | refine bel_drewN ?_ _ | refine bel_drew ?_ | (refine bel_call ?_ (by assumption))))
    have hz3 : w.heap.size < w3.heap.size := Nat.lt_of_lt_of_le hz0 hb3.size
    have HCl := Lib.hid hCl
    clear hCl hc hf hz hb hb3
    go_wp2_with fail
    go_loopw [5, 16] (fun v i wr => ∃ d : Nat, d ≤ len ∧ i = .int .i64 d ∧ v = .int .i64 (sumD R d) ∧ wr = w3) (fun _ i _ => len - (intOf i).toNat)
    case atStart => exact ⟨0, by omega, rfl, rfl, rfl⟩
    case round =>
      obtain ⟨d, hd, rfl, rfl, rfl⟩ := hrel
      by_cases hlt : d < len
      · have o1 := HCl.out.cell hlt
        unfold digF at o1
        have hs := sumD_bd HBn.out d (by omega)
        obtain ⟨x0, x1⟩ := HBn.out d
        have p0 := Int.mul_nonneg (show (0 : Int) ≤ (d : Int) by omega) x0
        have p1 : (d : Int) * R.getD d 0 ≤ 31 * 1000000 := Int.mul_le_mul (by omega) x1 x0 (by omega)
        have HN : Hid (sumD R (d + 1) = sumD R d + (d : Int) * R.getD d 0) := Lib.hid rfl
        generalize R.getD d 0 = x at o1 x0 x1 p0 p1 HN
        generalize sumD R d = s at hs HN
        go_wp2_with fail
        go_roundw
        case rel => exact ⟨d + 1, by omega, by go_num, by rw [HN.out], trivial⟩
        case measure => simp [intOf]; omega
      · have hde : d = len := by omega
        subst hde
        rw [HS.out]
        go_wp2_with (go_at_call 47; refine (whCount_any _ _ _ HG.out).mono ?_; rintro e w4 ⟨rfl, hb4⟩; rw [HCC.out])
        have n0 : w4.cell? ⟨w.heap.size, 0, none⟩ = some (.int .i64 n) := by rw [hb4.cell (p := ⟨w.heap.size, 0, none⟩) hz3]; exact m0
        have n1 : w4.cell? ⟨w.heap.size, 1, none⟩ = some (.int .i64 b) := by rw [hb4.cell (p := ⟨w.heap.size, 1, none⟩) hz3]; exact m1
        have hB4 : Below w.heap.size w w4 := bel_call hB3 hb4
        have hz4 : w.heap.size < w4.heap.size := Nat.lt_of_lt_of_le hz3 hb4.size
        clear m0 m1 hB3 hz3 hb4
        go_loopw [8, 9] (fun u v wr => ∃ (c d : Nat), c ≤ 1000000000 ∧ d ≤ 1000000000 ∧ u = .int .i64 (c : Int) ∧ v = .int .i64 (d : Int) ∧ Nat.gcd c d = Nat.gcd S C ∧ wr.cell? ⟨w.heap.size, 0, none⟩ = some (.int .i64 n) ∧ wr.cell? ⟨w.heap.size, 1, none⟩ = some (.int .i64 b) ∧ w.heap.size < wr.heap.size ∧ Below w.heap.size w wr) (fun _ v _ => (intOf v).toNat)
        case atStart => exact ⟨S, C, hSb, by omega, rfl, rfl, rfl, n0, n1, hz4, hB4⟩
        case round =>
          clear n0 n1 hz4 hB4
          obtain ⟨c, e, hcb, heb, rfl, rfl, hgc, n0, n1, hz4, hB4⟩ := hrel
          have HGC := Lib.hid hgc
          clear hgc
          by_cases he : 0 < e
          · have hne : ((e : Int) != 0) = true := by simp; omega
            have d1 : (1 : Int) ≤ (e : Int) := by omega
            have hlt := Nat.mod_lt c (show 0 < e by omega)
            have HE : Hid (((c : Int) % (e : Int)) = ((c % e : Nat) : Int)) := Lib.hid (Int.natCast_emod c e).symm
            have HGG : Hid (Nat.gcd e (c % e) = Nat.gcd S C) := Lib.hid (by rw [← HGC.out, Nat.gcd_comm c e, Nat.gcd_rec e c, Nat.gcd_comm])
            go_wp2_with fail
            go_quiet (fail)
            go_wp2_with fail
            go_roundw
            case rel => exact ⟨e, c % e, heb, by omega, rfl, congrArg (Value.int .i64) HE.out, HGG.out, n0, n1, hz4, bel_drewN hB4 _⟩
            case measure => simp [intOf]; omega
          · obtain rfl : e = 0 := by omega
            have hD : c = Nat.gcd S C := by rw [← HGC.out, Nat.gcd_zero_right]
            rw [← hD] at HM
            have hc0 : (1 : Int) ≤ (c : Int) := by
              have := Nat.gcd_pos_of_pos_right S (show 0 < C by omega)
              omega
            have hne : ((c : Int) == 0) = false := by simp; omega
            clear hD
            have q1 := Int.ediv_nonneg (show (0 : Int) ≤ (S : Int) by omega) (show (0 : Int) ≤ (c : Int) by omega)
            have q2 := Int.ediv_le_self (c : Int) (show (0 : Int) ≤ (S : Int) by omega)
            have r1 := Int.ediv_nonneg (show (0 : Int) ≤ (C : Int) by omega) (show (0 : Int) ≤ (c : Int) by omega)
            have r2 := Int.ediv_le_self (c : Int) (show (0 : Int) ≤ (C : Int) by omega)
            have hw1 : IntKind.i64.wrap ((S : Int) / (c : Int)) = (S : Int) / (c : Int) := IntWalk.i64_in _ ⟨by omega, by omega⟩
            have hw2 : IntKind.i64.wrap ((C : Int) / (c : Int)) = (C : Int) / (c : Int) := IntWalk.i64_in _ ⟨by omega, by omega⟩
            have W1 := Lib.hid hw1
            have W2 := Lib.hid hw2
            clear hw1 hw2
            go_wp2_with fail
            have hw1 := W1.out
            have hw2 := W2.out
            go_region_with (go_at_call 47; refine (whCount_any _ _ _ HG.out).mono ?_; rw [HCC.out]; rintro e w5 ⟨rfl, hb5⟩)
            all_goals clear hw1 hw2
            all_goals have hB5 : Below w.heap.size w w5 := bel_call (by (repeat (first | assumption | exact Below.refl _ _ | (refine Below.alloc ?_ (by first | omega | (simp; done) | (simp; omega)) _) | (refine Below.setCell ?_ (by first | omega | (simp; done) | (simp; omega)) _) | refine bel_drewN ?_ _ | refine bel_drew ?_ | (refine bel_call ?_ (by assumption))))) hb5
            all_goals go_wp2_with fail
            all_goals go_ret3
            all_goals exact ⟨by rw [HG.out, ← HM.out.1, ← HM.out.2]; rfl, by (repeat (first | assumption | exact Below.refl _ _ | (refine Below.alloc ?_ (by first | omega | (simp; done) | (simp; omega)) _) | (refine Below.setCell ?_ (by first | omega | (simp; done) | (simp; omega)) _) | refine bel_drewN ?_ _ | refine bel_drew ?_ | (refine bel_call ?_ (by assumption))))⟩
  · have HG := Lib.hid (Bool.eq_false_iff.2 hg)
    clear hg
    go_enter Try.func17, Try.ntmps17
    go_wp2_with (first | (go_at_call 45; refine (whGood_any _ _ _).mono ?_; rw [HG.out]; rintro e w1 ⟨rfl, hb⟩; obtain ⟨hc, hf, hz⟩ := bcell hb; have hz0 : w.heap.size < w1.heap.size := by (try simp at hz); omega))
    go_ret3
    refine ⟨by rw [HG.out, (mean_no HG.out).1, (mean_no HG.out).2]; rfl, ?_⟩
    (repeat (first | assumption | exact Below.refl _ _ | (refine Below.alloc ?_ (by first | omega | (simp; done) | (simp; omega)) _) | (refine Below.setCell ?_ (by first | omega | (simp; done) | (simp; omega)) _) | refine bel_drewN ?_ _ | refine bel_drew ?_ | (refine bel_call ?_ (by assumption))))

end Go.Proofs.Ythnekpdakjcadab
