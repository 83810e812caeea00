/- How many classes there are, as both programs tell it. No conditions. -/
import Derived.Test.YtejpcbkhlnjlfaaReachI
import Derived.Test.YtejpcbkhlnjlfaaZero
import Derived.Test.YtejpcbkhlnjlfaaGS
namespace Go.Proofs.Ytejpcbkhlnjlfaa
open Go.ChangeShapes Go.WideShapes Go.ChangeAt Go.RowKit Go.Joins

theorem digL_zeroN (b : Int) (n : Nat) : digL b 0 n = List.replicate n 0 := by
  unfold digL
  apply List.ext_getElem
  · simp
  · intro i h1 h2
    simp

theorem zero_ask {n : Nat} {b : Int} (hg : goodB n b = true) : askB n b (textOf (List.replicate n 0)) = true := by
  have h := good_yes hg
  refine knob_ask hg ?_
  unfold knobB
  rw [List.length_replicate, decide_eq_true rfl, Bool.true_and, List.all_eq_true]
  intro x hx
  rw [(List.mem_replicate.1 hx).2]
  unfold inB
  exact decide_eq_true (by omega)

def ccZ (a b : Int) (ks : List (List Int)) : Int := if gearsB a b ks then wrap64 ((cntN a b : Int) / (allL a b ks (textOf (List.replicate a.toNat 0))).length) else 0

theorem allL_pos (a b : Int) {ks : List (List Int)} {s : ByteArray} (hk : KnobsB a b ks) (hs : askB a b s = true) : 1 ≤ (allL a b ks s).length := by
  have := (allL_all hk hs).head
  exact (List.getElem?_eq_some_iff.1 this).1

set_option maxHeartbeats 4000000 in
theorem specCountClasses_any (a b : Int) (A : Option Addr) (n c : Nat) (ks : List (List Int)) (w : World) (hm : n + lensAt ks n ≤ 1048576) (hA : KnobsC w A n ks) :
    Calls Try.prog 43 #[.agg #[.int .i64 a, .int .i64 b, .slice A n c]] w fun e w' => e = .returned (.tuple #[.int .i64 (ccZ a b ks), .bool (gearsB a b ks)]) ∧ Below w.heap.size w w' := by
  have HA := Lib.hid hA
  have HN := Lib.hid hA.len
  have G0 := gs_new w a b A n c
  clear hA
  by_cases hg : gearsB a b ks = true
  · have HG := Lib.hid hg
    have HK := Lib.hid (gears_knobs hg)
    have HGB := Lib.hid (gearsB_yes hg).1
    obtain ⟨hc1, hc2⟩ := gears_cnt hg
    have hn5 : n ≤ 1000 := by have := (gearsB_yes hg).2.2.2.1; have := HN.out; omega
    obtain ⟨an, rfl⟩ : ∃ an : Nat, a = an := ⟨a.toNat, by have := good_yes HGB.out; omega⟩
    have HZA := Lib.hid (zero_ask HGB.out)
    obtain ⟨z, hz⟩ : ∃ z, textOf (List.replicate an 0) = z := ⟨_, rfl⟩
    have HOF : Hid (textOf (digL b 0 an) = z) := Lib.hid (by rw [digL_zeroN]; exact hz)
    rw [hz] at HZA
    obtain ⟨M, hMe⟩ : ∃ M, cntN an b = M := ⟨_, rfl⟩
    have HM := Lib.hid hMe
    have HPW : Hid (pw b an = (M : Int)) := Lib.hid (by rw [← hMe, hc2, Int.toNat_natCast])
    rw [hMe] at hc1
    obtain ⟨R, hRe⟩ : ∃ R, (allL an b ks z).length = R := ⟨_, rfl⟩
    have HR : Hid (cntF (farV an b (allL an b ks z)) M = R) := Lib.hid (by rw [← hMe, cntF_allL HK.out HZA.out]; exact hRe)
    have hR1 : 1 ≤ R := by rw [← hRe]; exact allL_pos _ _ HK.out HZA.out
    have HZ : Hid (ccZ an b ks = wrap64 ((M : Int) / (R : Int))) := Lib.hid (by unfold ccZ; rw [if_pos hg, Int.toNat_natCast, hz, hRe, hMe])
    clear hg hc2 hz hMe hRe
    go_enter Try.func43, Try.ntmps43
    go_wp2_with (first
      | (go_at_call 62; refine (joGood_any _ _ _ _ _ ks _ hm ((HA.out.knobs hm).below G0.out.bel)).mono ?_; rw [HG.out]; rintro e w1 ⟨rfl, hb1⟩
         have G1 := gs_call G0 hb1
         have l0 := gs_0 G1
         have l1 := gs_1 G1
         have l2 := gs_2 G1
         clear hb1))
    go_region_with (first
      | (go_at_call 69; refine (whCount_any _ _ _ HGB.out).mono ?_; rw [HPW.out]; rintro e w2 ⟨rfl, hb2⟩
         have G2 := gs_call (by first | assumption | exact gs_drew (by assumption)) hb2
         have m0 := gs_0 G2
         have m1 := gs_1 G2
         have m2 := gs_2 G2
         try have HCB := hc_call (by first | assumption | exact hc_drew (by assumption)) hb2)
      | (go_at_call 88; refine (whOf_any _ _ _ _ HGB.out (by omega) (by omega)).mono ?_; rw [HOF.out]; rintro e w3 ⟨rfl, hb3⟩
         have G3 := gs_call (by first | assumption | exact gs_drew (by assumption)) hb3
         have p0 := gs_0 G3
         have p1 := gs_1 G3
         have p2 := gs_2 G3)
      | (go_at_call 82; refine (joFar_any _ _ _ _ _ _ ks _ hn5 (HA.out.below (by first | exact G3.out.bel | exact G2.out.bel | exact (gs_drew G3).out.bel | exact (gs_drew G2).out.bel)) HZA.out HK.out (by rw [HM.out]; exact hc1)).mono ?_; rw [HM.out]; rintro e w4 ⟨g4, rfl, hg4, hC4, hb4⟩
         have G4 := gs_call (by first | assumption | exact gs_drew (by assumption)) hb4
         have q0 := gs_0 G4
         have q1 := gs_1 G4
         have q2 := gs_2 G4
         have HCA := Lib.hid hC4
         clear hC4)
      | (go_at_call 86; refine (joReached_any _ _ _ _ _ hc1 (by first | exact HCA.out | exact HCB.out | exact (hc_drew HCA).out | exact (hc_drew HCB).out)).mono ?_; rw [HR.out]; rintro e w5 ⟨rfl, rfl⟩))
    all_goals
      go_wp2_with fail
      go_ret2
      refine ⟨by rw [HG.out, HZ.out]; rfl, ?_⟩
      first
        | exact (show Hid (GS w _ (an : Int) b A n c) from by assumption).out.bel
        | exact (gs_drew (show Hid (GS w _ (an : Int) b A n c) from by assumption)).out.bel
  · have HG := Lib.hid (Bool.eq_false_iff.2 hg)
    clear hg
    go_enter Try.func43, Try.ntmps43
    go_wp2_with (go_at_call 62; refine (joGood_any _ _ _ _ _ ks _ hm ((HA.out.knobs hm).below G0.out.bel)).mono ?_; rw [HG.out]; rintro e w1 ⟨rfl, hb1⟩)
    go_ret2
    exact ⟨by unfold ccZ; rw [HG.out]; rfl, bel_call G0.out.bel hb1⟩

set_option maxHeartbeats 1000000 in
theorem countClasses_any (a b : Int) (A : Option Addr) (n c : Nat) (ks : List (List Int)) (w : World) (hm : n + lensAt ks n ≤ 1048576) (hA : KnobsC w A n ks) :
    Calls Try.prog 44 #[.agg #[.int .i64 a, .int .i64 b, .slice A n c]] w fun e w' => e = .returned (.tuple #[.int .i64 (ccZ a b ks), .bool (gearsB a b ks)]) ∧ Below w.heap.size w w' := by
  have HA := Lib.hid hA
  have HN := Lib.hid hA.len
  have G0 := gs_new w a b A n c
  clear hA
  by_cases hg : gearsB a b ks = true
  · have HG := Lib.hid hg
    have HK := Lib.hid (gears_knobs hg)
    have HGB := Lib.hid (gearsB_yes hg).1
    obtain ⟨hc1, hc2⟩ := gears_cnt hg
    have hn5 : n ≤ 1000 := by have := (gearsB_yes hg).2.2.2.1; have := HN.out; omega
    obtain ⟨an, rfl⟩ : ∃ an : Nat, a = an := ⟨a.toNat, by have := good_yes HGB.out; omega⟩
    have HZA := Lib.hid (zero_ask HGB.out)
    obtain ⟨z, hz⟩ : ∃ z, textOf (List.replicate an 0) = z := ⟨_, rfl⟩
    have HOF : Hid (zerosT an b = z) := Lib.hid ((zerosT_yes HGB.out).trans hz)
    rw [hz] at HZA
    obtain ⟨M, hMe⟩ : ∃ M, cntN an b = M := ⟨_, rfl⟩
    have HM := Lib.hid hMe
    have HPW : Hid (countZ an b = (M : Int)) := Lib.hid (by rw [countZ_yes HGB.out, ← hMe, hc2, Int.toNat_natCast])
    rw [hMe] at hc1
    obtain ⟨R, hRe⟩ : ∃ R, (allL an b ks z).length = R := ⟨_, rfl⟩
    have HR := Lib.hid hRe
    have hR1 : 1 ≤ R := by rw [← hRe]; exact allL_pos _ _ HK.out HZA.out
    have HZ : Hid (ccZ an b ks = wrap64 ((M : Int) / (R : Int))) := Lib.hid (by unfold ccZ; rw [if_pos hg, Int.toNat_natCast, hz, hRe, hMe])
    clear hg hc2 hz hMe hRe
    go_enter Try.func44, Try.ntmps44
    go_wp2_with (first
      | (go_at_call 21; refine (areGears_any _ _ _ _ _ ks _ hm ((HA.out.knobs hm).below G0.out.bel)).mono ?_; rw [HG.out]; rintro e w1 ⟨rfl, hb1⟩
         have G1 := gs_call G0 hb1
         have l0 := gs_0 G1
         have l1 := gs_1 G1
         have l2 := gs_2 G1
         clear hb1)
      | (go_at_call 64; refine (count_any _ _ _).mono ?_; rw [HPW.out, HGB.out]; rintro e w2 ⟨rfl, hb2⟩
         have G2 := gs_call G1 hb2
         have m0 := gs_0 G2
         have m1 := gs_1 G2
         have m2 := gs_2 G2
         clear hb2)
      | (go_at_call 89; refine (zero_any _ _ _).mono ?_; rw [HOF.out, HGB.out]; rintro e w3 ⟨rfl, hb3⟩
         have G3 := gs_call G2 hb3
         have p0 := gs_0 G3
         have p1 := gs_1 G3
         have p2 := gs_2 G3
         clear hb3)
      | (go_at_call 87; refine (allArrivals_any _ _ _ _ _ _ ks _ hn5 (HA.out.below G3.out.bel) HZA.out HK.out (by rw [HM.out]; exact hc1)).mono ?_; rintro e w4 ⟨g4, rfl, hg4, hC4, hb4⟩
         have HC4 := Lib.hid hC4
         clear hC4)
      | (at_len; refine wpList_len_arr rfl _ rfl g4 (allL an b ks z) HC4.out rfl ?_; rw [HR.out]))
    go_ret2
    exact ⟨by rw [HG.out, HZ.out]; rfl, bel_call G3.out.bel hb4⟩
  · have HG := Lib.hid (Bool.eq_false_iff.2 hg)
    clear hg
    go_enter Try.func44, Try.ntmps44
    go_wp2_with (go_at_call 21; refine (areGears_any _ _ _ _ _ ks _ hm ((HA.out.knobs hm).below G0.out.bel)).mono ?_; rw [HG.out]; rintro e w1 ⟨rfl, hb1⟩)
    go_ret2
    exact ⟨by unfold ccZ; rw [HG.out]; rfl, bel_call G0.out.bel hb1⟩

end Go.Proofs.Ytejpcbkhlnjlfaa
