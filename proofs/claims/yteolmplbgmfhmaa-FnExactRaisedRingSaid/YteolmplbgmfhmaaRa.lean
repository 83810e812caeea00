/- Whether a text is a ring: both programs' answers. No conditions, whatever the library's own variable holds. -/
import Derived.Test.YteolmplbgmfhmaaRh
import Derived.Test.YteolmplbgmfhmaaRq
namespace Go.Proofs.Yteolmplbgmfhmaa
open Go.ChangeShapes Go.WideShapes Go.ChangeAt Go.RowKit Go.Joins

set_option maxRecDepth 100000 in
set_option maxHeartbeats 4000000 in
theorem hasRing_any (a b : Int) (s : ByteArray) (w : World) (hs : s.size ≤ maxLen) (hm : Mx w) :
    Calls Try.prog 40 #[.agg #[.int .i64 a, .int .i64 b], .string s] w fun e w' => e = .returned (.bool (ringB a b s)) ∧ Below w.heap.size w w' := by
  unfold maxLen at hs
  have hml := hm.lt
  have HM := Lib.hid hm
  clear hm
  by_cases hg : riB a b = true
  · have HR := Lib.hid hg
    obtain ⟨n, rfl⟩ : ∃ n : Nat, a = n := ⟨a.toNat, by have := good_yes (riB_good hg); omega⟩
    have HG := Lib.hid (riB_good hg)
    have hge := cn_ge (riB_good hg)
    have hcn := cn_le hg
    have HCC := Lib.hid (rlZ_cn hg)
    clear hg
    by_cases hz5 : s.size = cnN n b
    · have hz6 : s.size ≤ 1000 := by omega
      have hz8 : (arT n s).size ≤ 2000 := by rw [arT_size (by omega)]; omega
      have HE : Hid (ringB n b s = ((missL n b (arT n s)).length == 0)) := Lib.hid (by
        unfold ringB
        rw [HR.out, decide_eq_true hz5, Int.toNat_natCast, Bool.true_and, Bool.true_and]
        cases missL n b (arT n s) <;> rfl)
      have HZ := Lib.hid hz5
      generalize cnN n b = C at HCC hz5 hge hcn
      go_enter Try.func40, Try.ntmps40
      go_wp2_with (go_at_call 39; refine (ringLength_any _ _ _).mono ?_; rw [HR.out, HCC.out]; rintro e w1 ⟨rfl, hb⟩; have z1 : w.heap.size < w1.heap.size := (by have := hb.size; simp at this; omega); have m0 : w1.cell? ⟨w.heap.size, 0, none⟩ = some (.int .i64 n) := (by rw [hb.cell (p := ⟨w.heap.size, 0, none⟩) (by simp)]; simp); have m1 : w1.cell? ⟨w.heap.size, 1, none⟩ = some (.int .i64 b) := (by rw [hb.cell (p := ⟨w.heap.size, 1, none⟩) (by simp)]; simp); have HB := Lib.hid (show Below w.heap.size w w1 from bel_call ((Below.refl _ _).alloc (Nat.le_refl _) _) hb); clear hb)
      go_region_with (first | (go_at_call 42; refine (around_any _ _ _ _ HG.out (by omega) (by omega)).mono ?_; rintro e w3 ⟨rfl, hb3⟩; have HB3 := Lib.hid (show Below w.heap.size w w3 from by first | exact bel_call HB.out hb3 | exact bel_call (bel_drew HB.out) hb3 | exact bel_call (bel_drewN HB.out _) hb3); have q0 : w3.cell? ⟨w.heap.size, 0, none⟩ = some (.int .i64 n) := (by rw [hb3.cell (p := ⟨w.heap.size, 0, none⟩) z1]; exact m0); have q1 : w3.cell? ⟨w.heap.size, 1, none⟩ = some (.int .i64 b) := (by rw [hb3.cell (p := ⟨w.heap.size, 1, none⟩) z1]; exact m1); clear hb3) | (go_at_call 60; refine (missedIn_any _ _ _ _ HR.out hz8 (HM.out.below HB3.out hml)).mono ?_; rintro e w4 ⟨A, c4, rfl, _, _, hb4⟩; have HB4 := Lib.hid (bel_call HB3.out hb4); clear hb4))
      all_goals
        go_wp2
        go_ret
        refine ⟨ret_bool ?_, HB4.out⟩
        rw [HE.out]
        first | rfl | (rw [Bool.eq_iff_iff]; simp)
    · have HN : Hid (ringB n b s = false) := Lib.hid (by unfold ringB; rw [decide_eq_false hz5, Bool.and_false, Bool.false_and])
      have hz6 : ¬ (s.size : Int) = ((cnN n b : Nat) : Int) := by omega
      go_enter Try.func40, Try.ntmps40
      go_wp2_with (go_at_call 39; refine (ringLength_any _ _ _).mono ?_; rw [HR.out, HCC.out]; rintro e w1 ⟨rfl, hb⟩; obtain ⟨hc, hf, hz⟩ := bcell hb; have hz0 : w.heap.size < w1.heap.size := by (try simp at hz); omega)
      go_ret
      refine ⟨ret_bool (by rw [HN.out]), ?_⟩
      (repeat (first | assumption | exact Below.refl _ _ | (refine Below.alloc ?_ (by first | omega | (simp; done) | (simp; omega)) _) | (refine Below.setCell ?_ (by first | omega | (simp; done) | (simp; omega)) _) | refine bel_drewN ?_ _ | refine bel_drew ?_ | (refine bel_call ?_ (by assumption))))
  · have HR := Lib.hid (Bool.eq_false_iff.2 hg)
    have HN : Hid (ringB a b s = false) := Lib.hid (by unfold ringB; rw [HR.out]; rfl)
    clear hg
    go_enter Try.func40, Try.ntmps40
    go_wp2_with (go_at_call 39; refine (ringLength_any _ _ _).mono ?_; rw [HR.out]; rintro e w1 ⟨rfl, hb⟩; obtain ⟨hc, hf, hz⟩ := bcell hb; have hz0 : w.heap.size < w1.heap.size := by (try simp at hz); omega)
    go_ret
    refine ⟨ret_bool (by rw [HN.out]), ?_⟩
    (repeat (first | assumption | exact Below.refl _ _ | (refine Below.alloc ?_ (by first | omega | (simp; done) | (simp; omega)) _) | (refine Below.setCell ?_ (by first | omega | (simp; done) | (simp; omega)) _) | refine bel_drewN ?_ _ | refine bel_drew ?_ | (refine bel_call ?_ (by assumption))))

theorem isRing_any (a b : Int) (s : ByteArray) (w : World) (hs : s.size ≤ maxLen) (hm : Mx w) :
    Calls Try.prog 15 #[.agg #[.int .i64 a, .int .i64 b], .string s] w fun e w' => e = .returned (.tuple #[.bool (ringB a b s), .bool (riB a b)]) ∧ Below w.heap.size w w' := by
  have hml := hm.lt
  have HM := Lib.hid hm
  have HS := Lib.hid hs
  clear hm hs
  go_enter Try.func15, Try.ntmps15
  go_wp2_with (first | (go_at_call 39; refine (ringLength_any _ _ _).mono ?_; rintro e w1 ⟨rfl, hb⟩; have z1 : w.heap.size < w1.heap.size := (by have := hb.size; simp at this; omega); have m0 : w1.cell? ⟨w.heap.size, 0, none⟩ = some (.int .i64 a) := (by rw [hb.cell (p := ⟨w.heap.size, 0, none⟩) (by simp)]; simp); have m1 : w1.cell? ⟨w.heap.size, 1, none⟩ = some (.int .i64 b) := (by rw [hb.cell (p := ⟨w.heap.size, 1, none⟩) (by simp)]; simp); have HB := Lib.hid (show Below w.heap.size w w1 from bel_call ((Below.refl _ _).alloc (Nat.le_refl _) _) hb); clear hb) | (go_at_call 40; refine (hasRing_any _ _ _ _ HS.out (HM.out.below HB.out hml)).mono ?_; rintro e w2 ⟨rfl, hb2⟩; have HB2 := Lib.hid (bel_call HB.out hb2)))
  go_ret2
  exact ⟨rfl, HB2.out⟩

theorem ringB_no {a b : Int} {s : ByteArray} (h : riB a b = false) : ringB a b s = false := by unfold ringB; rw [h]; rfl

theorem specIsRing_any (a b : Int) (s : ByteArray) (w : World) (hs : s.size ≤ maxLen) :
    Calls Try.prog 13 #[.agg #[.int .i64 a, .int .i64 b], .string s] w fun e w' => e = .returned (.tuple #[.bool (ringB a b s), .bool (riB a b)]) ∧ Below w.heap.size w w' := by
  have HS := Lib.hid hs
  clear hs
  by_cases hg : riB a b = true
  · have HR := Lib.hid hg
    obtain ⟨n, rfl⟩ : ∃ n : Nat, a = n := ⟨a.toNat, by have := good_yes (riB_good hg); omega⟩
    clear hg
    go_enter Try.func13, Try.ntmps13
    go_wp2_with (first | (go_at_call 37; refine (riGood_any _ _ _).mono ?_; rw [HR.out]; rintro e w1 ⟨rfl, hb⟩; obtain ⟨hc, hf, hz⟩ := bcell hb; have hz0 : w.heap.size < w1.heap.size := by (try simp at hz); omega) | (go_at_call 38; refine (riRing_any _ _ _ _ HS.out HR.out).mono ?_; rintro e w1 ⟨rfl, hb⟩; obtain ⟨hc, hf, hz⟩ := bcell hb; have hz0 : w.heap.size < w1.heap.size := by (try simp at hz); omega))
    go_ret2
    refine ⟨by rw [HR.out]; rfl, ?_⟩
    (repeat (first | assumption | exact Below.refl _ _ | (refine Below.alloc ?_ (by first | omega | (simp; done) | (simp; omega)) _) | (refine Below.setCell ?_ (by first | omega | (simp; done) | (simp; omega)) _) | refine bel_drewN ?_ _ | refine bel_drew ?_ | (refine bel_call ?_ (by assumption))))
  · have HR := Lib.hid (Bool.eq_false_iff.2 hg)
    clear hg
    go_enter Try.func13, Try.ntmps13
    go_wp2_with (first | (go_at_call 37; refine (riGood_any _ _ _).mono ?_; rw [HR.out]; rintro e w1 ⟨rfl, hb⟩; obtain ⟨hc, hf, hz⟩ := bcell hb; have hz0 : w.heap.size < w1.heap.size := by (try simp at hz); omega))
    go_ret2
    refine ⟨by rw [HR.out, ringB_no HR.out]; rfl, ?_⟩
    (repeat (first | assumption | exact Below.refl _ _ | (refine Below.alloc ?_ (by first | omega | (simp; done) | (simp; omega)) _) | (refine Below.setCell ?_ (by first | omega | (simp; done) | (simp; omega)) _) | refine bel_drewN ?_ _ | refine bel_drew ?_ | (refine bel_call ?_ (by assumption))))

end Go.Proofs.Yteolmplbgmfhmaa
