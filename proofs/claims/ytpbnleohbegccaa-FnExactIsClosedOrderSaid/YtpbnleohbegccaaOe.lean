/- The forth and back order: the code with a rank, as both programs answer. No conditions. -/
import Derived.Test.YtpbnleohbegccaaOd
namespace Go.Proofs.Ytpbnleohbegccaa
open Go.ChangeShapes Go.WideShapes Go.ChangeAt Go.RowKit Go.Joins

/-- The code with a rank in an order. -/
def ocT (f : Int → Int → Int) (a b x : Int) : ByteArray := if hasNum a b x then textOf (orL f b x a.toNat) else ⟨#[]⟩

theorem ocT_yes {f : Int → Int → Int} {n : Nat} {b x : Int} (h : hasNum n b x = true) : ocT f n b x = textOf (orL f b x n) := by unfold ocT; rw [h]; rfl

theorem ocT_no {f : Int → Int → Int} {a b x : Int} (h : hasNum a b x = false) : ocT f a b x = ⟨#[]⟩ := by unfold ocT; rw [h]; rfl

theorem has_parts {a b x : Int} (h : hasNum a b x = true) : goodB a b = true ∧ a = (a.toNat : Int) ∧ 0 ≤ x ∧ x < pw b a.toNat := by
  unfold hasNum at h
  rw [Bool.and_eq_true] at h
  obtain ⟨h1, h2⟩ := h
  have h3 := good_yes h1
  have h4 : countZ a b = pw b a.toNat := by unfold countZ; rw [h1]; rfl
  have h5 : 0 ≤ x ∧ x ≤ countZ a b - 1 := of_decide_eq_true h2
  exact ⟨h1, by omega, h5.1, by omega⟩

theorem has_of {n : Nat} {b x : Int} (hg : goodB n b = true) (h0 : 0 ≤ x) (hx : x < pw b n) : hasNum n b x = true := by
  unfold hasNum
  rw [hg, countZ_yes hg]
  exact decide_eq_true ⟨h0, by omega⟩

theorem orRank_any (a b x : Int) (w : World) :
    Calls Try.prog 64 #[.agg #[.int .i64 a, .int .i64 b], .int .i64 x] w fun e w' => e = .returned (.bool (hasNum a b x)) ∧ Below w.heap.size w w' := by
  by_cases hg : goodB a b = true
  · have HG := Lib.hid hg
    have hg' := good_yes hg
    obtain ⟨n, rfl⟩ : ∃ n : Nat, a = n := ⟨a.toNat, by omega⟩
    have HY : Hid (hasNum n b x = inB x 0 (pw b n - 1)) := Lib.hid (by unfold hasNum; rw [hg, countZ_yes hg]; rfl)
    obtain ⟨p1, p2⟩ := pw_bd6 hg'.2.2.1 hg'.2.2.2 (k := n) (by omega)
    clear hg hg'
    go_enter Try.func64, Try.ntmps64
    go_wp2_with (first | (go_at_call 88; refine (whGood_any _ _ _).mono ?_; rw [HG.out]; rintro e w1 ⟨rfl, hb⟩; obtain ⟨hc, hf, hz⟩ := bcell hb; have hz0 : w.heap.size < w1.heap.size := by (try simp at hz); omega) | (go_at_call 80; refine (whCount_any _ _ _ HG.out).mono ?_; rintro e w1 ⟨rfl, hb⟩; obtain ⟨hc, hf, hz⟩ := bcell hb; have hz0 : w.heap.size < w1.heap.size := by (try simp at hz); omega) | (go_at_call 84; refine (l1In_any _ _ _ _).mono ?_; rintro e w1 ⟨rfl, rfl⟩))
    go_ret
    refine ⟨ret_bool HY.out.symm, ?_⟩
    (repeat (first | assumption | exact Below.refl _ _ | (refine Below.alloc ?_ (by first | omega | (simp; done) | (simp; omega)) _) | (refine Below.setCell ?_ (by first | omega | (simp; done) | (simp; omega)) _) | refine bel_drewN ?_ _ | refine bel_drew ?_ | (refine bel_call ?_ (by assumption))))
  · have HG := Lib.hid (Bool.eq_false_iff.2 hg)
    have HY : Hid (hasNum a b x = false) := Lib.hid (by unfold hasNum; rw [HG.out]; rfl)
    clear hg
    go_enter Try.func64, Try.ntmps64
    go_wp2_with (first | (go_at_call 88; refine (whGood_any _ _ _).mono ?_; rw [HG.out]; rintro e w1 ⟨rfl, hb⟩; obtain ⟨hc, hf, hz⟩ := bcell hb; have hz0 : w.heap.size < w1.heap.size := by (try simp at hz); omega))
    go_ret
    refine ⟨ret_bool HY.out.symm, ?_⟩
    (repeat (first | assumption | exact Below.refl _ _ | (refine Below.alloc ?_ (by first | omega | (simp; done) | (simp; omega)) _) | (refine Below.setCell ?_ (by first | omega | (simp; done) | (simp; omega)) _) | refine bel_drewN ?_ _ | refine bel_drew ?_ | (refine bel_call ?_ (by assumption))))

theorem specForthCode_any (a b x : Int) (w : World) :
    Calls Try.prog 19 #[.agg #[.int .i64 a, .int .i64 b], .int .i64 x] w fun e w' => e = .returned (.tuple #[.string (ocT foI a b x), .bool (hasNum a b x)]) ∧ Below w.heap.size w w' := by
  by_cases hy : hasNum a b x = true
  · have HY := Lib.hid hy
    obtain ⟨hg, ha, h0, hx⟩ := has_parts hy
    generalize a.toNat = n at ha hx
    subst ha
    have HG := Lib.hid hg
    have HX := Lib.hid hx
    clear hg hy
    go_enter Try.func19, Try.ntmps19
    go_wp2_with (first | (go_at_call 64; refine (orRank_any _ _ _ _).mono ?_; rw [HY.out]; rintro e w1 ⟨rfl, hb⟩; obtain ⟨hc, hf, hz⟩ := bcell hb; have hz0 : w.heap.size < w1.heap.size := by (try simp at hz); omega) | (go_at_call 65; refine (orForth_any _ _ _ _ HG.out h0 HX.out).mono ?_; rintro e w1 ⟨rfl, hb⟩; obtain ⟨hc, hf, hz⟩ := bcell hb; have hz0 : w.heap.size < w1.heap.size := by (try simp at hz); omega))
    go_ret2
    refine ⟨by rw [HY.out, ocT_yes HY.out]; first | done | rfl, ?_⟩
    (repeat (first | assumption | exact Below.refl _ _ | (refine Below.alloc ?_ (by first | omega | (simp; done) | (simp; omega)) _) | (refine Below.setCell ?_ (by first | omega | (simp; done) | (simp; omega)) _) | refine bel_drewN ?_ _ | refine bel_drew ?_ | (refine bel_call ?_ (by assumption))))
  · have HY := Lib.hid (Bool.eq_false_iff.2 hy)
    clear hy
    go_enter Try.func19, Try.ntmps19
    go_wp2_with (first | (go_at_call 64; refine (orRank_any _ _ _ _).mono ?_; rw [HY.out]; rintro e w1 ⟨rfl, hb⟩; obtain ⟨hc, hf, hz⟩ := bcell hb; have hz0 : w.heap.size < w1.heap.size := by (try simp at hz); omega))
    go_ret2
    refine ⟨by rw [HY.out, ocT_no HY.out]; first | done | rfl, ?_⟩
    (repeat (first | assumption | exact Below.refl _ _ | (refine Below.alloc ?_ (by first | omega | (simp; done) | (simp; omega)) _) | (refine Below.setCell ?_ (by first | omega | (simp; done) | (simp; omega)) _) | refine bel_drewN ?_ _ | refine bel_drew ?_ | (refine bel_call ?_ (by assumption))))

theorem foR_zero {b x : Int} {n : Nat} (h0 : 0 ≤ x) (hx : x < pw b n) : foR b x n 0 = x := by
  unfold foR
  rw [Nat.sub_zero, Int.ediv_eq_zero_of_lt h0 hx, Int.emod_eq_of_lt h0 hx, if_neg (by omega)]

set_option maxRecDepth 100000 in
set_option maxHeartbeats 4000000 in
theorem forthYes_any (n : Nat) (b x : Int) (w : World) (hg : goodB n b = true) (h0 : 0 ≤ x) (hx : x < pw b n) :
    Calls Try.prog 21 #[.agg #[.int .i64 n, .int .i64 b], .int .i64 x] w fun e w' => e = .returned (.tuple #[.string (textOf (orL foI b x n)), .bool true]) ∧ Below w.heap.size w w' := by
  have HG := Lib.hid hg
  obtain ⟨h1, h6, h2, h10⟩ := good_yes hg
  obtain ⟨p1, p2⟩ := pw_bd6 h2 h10 (k := n) (by omega)
  have hmk := make_ints n (by omega)
  have HF := Lib.hid (foR_zero h0 hx)
  go_enter Try.func21, Try.ntmps21
  go_wp2_with (first | (go_at_call 66; refine (count_any _ _ _).mono ?_; rw [HG.out, countZ_yes HG.out]; rintro e w1 ⟨rfl, hb1⟩; have z1 : w.heap.size < w1.heap.size := (by have := hb1.size; simp at this; omega); have m0 : w1.cell? ⟨w.heap.size, 0, none⟩ = some (.int .i64 n) := (hb1.cell (p := ⟨w.heap.size, 0, none⟩) (by simp)).trans (by simp); have m1 : w1.cell? ⟨w.heap.size, 1, none⟩ = some (.int .i64 b) := (hb1.cell (p := ⟨w.heap.size, 1, none⟩) (by simp)).trans (by simp); have HB1 := Lib.hid (show Below w.heap.size w w1 from bel_call ((Below.refl _ _).alloc (Nat.le_refl _) _) hb1); clear hb1))
  have hN := Cells.made w1 (.int .i64 0) n 3
  have HN := Lib.hid hN
  have m2 : (w1.alloc (.cells (madeCells #[.int .i64 0] n) 3)).cell? ⟨w.heap.size, 1, none⟩ = some (.int .i64 b) := by rw [World.cell?_alloc_lt _ _ _ z1]; exact m1
  clear hN hmk m0 m1
  go_loopw [1, 6, 31] (fun r q i wr => ∃ k : Nat, k ≤ n ∧ i = .int .i64 k ∧ r = .int .i64 (foR b x n k) ∧ q = .int .i64 (pw b (n - k)) ∧ Cells wr w1.heap.size n (fun j => if j < k then digF (orL foI b x n) j else .int .i64 0) ∧ wr.cell? ⟨w.heap.size, 1, none⟩ = some (.int .i64 b) ∧ Below w.heap.size w wr) (fun _ _ i _ => n - (intOf i).toNat)
  case atStart => exact ⟨0, by omega, rfl, by rw [HF.out], rfl, HN.out.congr (fun j hj => by simp), m2, HB1.out.alloc HB1.out.size _⟩
  case round =>
    clear m2
    obtain ⟨k, hk, rfl, rfl, rfl, hC, hc1, hB⟩ := hrel
    have HC := Lib.hid hC
    clear hC
    by_cases hlt : k < n
    · obtain ⟨r0, r1, r2, r3⟩ := foR_step (x := x) h2 h0 hlt
      have hd := foI_bd h2 (x / pw b (n - 1 - k))
      have hc0 := pw_bd6 h2 h10 (k := n - (k + 1)) (by omega)
      have hC0 := pw_bd6 h2 h10 (k := n - k) (by omega)
      have hCc : pw b (n - k) / b = pw b (n - (k + 1)) := by rw [show n - k = (n - (k + 1)) + 1 by omega, pw_succ]; exact Int.mul_ediv_cancel _ (by omega)
      have o1 : wr.cell? ⟨w1.heap.size, k, none⟩ = some (.int .i64 0) := by rw [HC.out.cell hlt, if_neg (by omega)]
      have o2 : wr.frozen? ⟨w1.heap.size, k, none⟩ = false := HC.out.frozen hlt
      have hv : digF (orL foI b x n) k = .int .i64 (foI b (x / pw b (n - 1 - k))) := by unfold digF; rw [orL_at hlt]
      have hS := HC.out.set_ hlt (digF (orL foI b x n) k)
      have HS := Lib.hid (hS.congr (f' := fun j => if j < k + 1 then digF (orL foI b x n) j else .int .i64 0) (fun j hj => cells_step j k (digF (orL foI b x n)) _))
      rw [hv] at HS
      have r4 := Int.emod_nonneg (foR b x n k) (show pw b (n - (k + 1)) ≠ 0 by omega)
      have r5 := Int.emod_lt_of_pos (foR b x n k) (show 0 < pw b (n - (k + 1)) by omega)
      have R3 := Lib.hid r3
      clear r3 hS hv
      generalize foI b (x / pw b (n - 1 - k)) = d at *
      generalize foR b x n k = R at *
      generalize hce : pw b (n - (k + 1)) = c at hc0 hCc r1 r2 r4 r5 R3
      have HCE := Lib.hid hce
      clear hce
      generalize pw b (n - k) = C at *
      obtain ⟨d0, d1⟩ := hd
      obtain ⟨c0, c1⟩ := hc0
      obtain ⟨C0, C1⟩ := hC0
      have o3 : (wr.setCell ⟨w1.heap.size, k, none⟩ (.int .i64 d)).cell? ⟨w1.heap.size, k, none⟩ = some (.int .i64 d) := by have := HS.out.cell hlt; rw [if_pos (by omega)] at this; exact World.cell?_setCell_same _ _ _ o1
      have o4 : (wr.setCell ⟨w1.heap.size, k, none⟩ (.int .i64 d)).cell? ⟨w.heap.size, 1, none⟩ = some (.int .i64 b) := by rw [World.cell?_setCell_far _ _ _ _ (by simp; omega)]; exact hc1
      have HB' := Lib.hid (hB.setCell (p := ⟨w1.heap.size, k, none⟩) (Nat.le_of_lt z1) (.int .i64 d))
      by_cases hodd : d % 2 = 1
      · have HR : Hid (foR b x n (k + 1) = c - 1 - R % c) := Lib.hid (by rw [R3.out, if_pos hodd])
        go_wp2_with (go_at_call 67; refine (isBackwards_any _ _ d0 (by omega)).mono ?_; rw [decide_eq_true hodd]; rintro e w3 ⟨rfl, rfl⟩)
        go_roundw
        case rel => exact ⟨k + 1, by omega, by go_num, by rw [HR.out], by rw [HCE.out], HS.out, o4, HB'.out⟩
        case measure => simp [intOf]; omega
      · have HR : Hid (foR b x n (k + 1) = R % c) := Lib.hid (by rw [R3.out, if_neg hodd])
        go_wp2_with (go_at_call 67; refine (isBackwards_any _ _ d0 (by omega)).mono ?_; rw [decide_eq_false hodd]; rintro e w3 ⟨rfl, rfl⟩)
        go_roundw
        case rel => exact ⟨k + 1, by omega, by go_num, by rw [HR.out], by rw [HCE.out], HS.out, o4, HB'.out⟩
        case measure => simp [intOf]; omega
    · have hkn : k = n := by omega
      subst hkn
      go_wp2_with (go_at_call 68; refine (codeOf_n _ _ (orL foI b x k) (orL_length _ _ _ _) _ (HC.out.congr (fun j hj => by rw [if_pos hj])) (orL_digits h10 (foI_bd h2)) (by omega)).mono ?_; rintro e w2 ⟨rfl, hb⟩)
      go_ret2
      exact ⟨rfl, bel_call hB hb⟩

theorem forthCode_any (a b x : Int) (w : World) :
    Calls Try.prog 21 #[.agg #[.int .i64 a, .int .i64 b], .int .i64 x] w fun e w' => e = .returned (.tuple #[.string (ocT foI a b x), .bool (hasNum a b x)]) ∧ Below w.heap.size w w' := by
  by_cases hy : hasNum a b x = true
  · obtain ⟨hg, ha, h0, hx⟩ := has_parts hy
    rw [hy]
    generalize a.toNat = n at ha hx
    subst ha
    rw [ocT_yes hy]
    exact forthYes_any n b x w hg h0 hx
  · have HY := Lib.hid (Bool.eq_false_iff.2 hy)
    by_cases hg : goodB a b = true
    · have HG := Lib.hid hg
      have hg' := good_yes hg
      have hno : ¬(0 ≤ x ∧ x ≤ countZ a b - 1) := fun h => by
        apply hy; unfold hasNum; rw [hg]; exact decide_eq_true h
      obtain ⟨N, hN⟩ : ∃ N, countZ a b = N := ⟨_, rfl⟩
      rw [hN] at hno
      have HN := Lib.hid hN
      clear hy hg hg' hN
      by_cases hx : x < 0
      all_goals
        go_enter Try.func21, Try.ntmps21
        go_wp2_with (first | (go_at_call 66; refine (count_any _ _ _).mono ?_; rw [HG.out, HN.out]; rintro e w1 ⟨rfl, hb⟩; obtain ⟨hc, hf, hz⟩ := bcell hb; have hz0 : w.heap.size < w1.heap.size := by (try simp at hz); omega))
        go_ret2
        refine ⟨by rw [HY.out, ocT_no HY.out]; first | done | rfl, ?_⟩
        (repeat (first | assumption | exact Below.refl _ _ | (refine Below.alloc ?_ (by first | omega | (simp; done) | (simp; omega)) _) | (refine Below.setCell ?_ (by first | omega | (simp; done) | (simp; omega)) _) | refine bel_drewN ?_ _ | refine bel_drew ?_ | (refine bel_call ?_ (by assumption))))
    · have HG := Lib.hid (Bool.eq_false_iff.2 hg)
      clear hg hy
      go_enter Try.func21, Try.ntmps21
      go_wp2_with (first | (go_at_call 66; refine (count_any _ _ _).mono ?_; rw [HG.out]; rintro e w1 ⟨rfl, hb⟩; obtain ⟨hc, hf, hz⟩ := bcell hb; have hz0 : w.heap.size < w1.heap.size := by (try simp at hz); omega))
      go_ret2
      refine ⟨by rw [HY.out, ocT_no HY.out]; first | done | rfl, ?_⟩
      (repeat (first | assumption | exact Below.refl _ _ | (refine Below.alloc ?_ (by first | omega | (simp; done) | (simp; omega)) _) | (refine Below.setCell ?_ (by first | omega | (simp; done) | (simp; omega)) _) | refine bel_drewN ?_ _ | refine bel_drew ?_ | (refine bel_call ?_ (by assumption))))

end Go.Proofs.Ytpbnleohbegccaa
