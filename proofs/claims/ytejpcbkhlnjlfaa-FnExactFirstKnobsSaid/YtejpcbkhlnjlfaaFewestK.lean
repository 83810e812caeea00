/- The fewest number of turns of knobs, as both programs tell it. For texts that are no longer than any may be. -/
import Derived.Test.YtejpcbkhlnjlfaaFirstJ
import Derived.Test.YtejpcbkhlnjlfaaGS
namespace Go.Proofs.Ytejpcbkhlnjlfaa
open Go.ChangeShapes Go.WideShapes Go.ChangeAt Go.RowKit Go.Joins

def fwZ (a b : Int) (ks : List (List Int)) (s t : ByteArray) : Int := ((fkT a b ks s t).length : Int)

theorem fk_no {a b : Int} {ks : List (List Int)} {s t : ByteArray} (h : fkB a b ks s t = false) : fwZ a b ks s t = 0 := by unfold fwZ fkT; rw [h]; rfl

theorem far_ent (a b : Int) (ks : List (List Int)) (s t : ByteArray) : farV a b (allL a b ks s) (nmN a b t) = match entT a b ks s t with
    | some e => (e.way.length : Int)
    | none => -1 := rfl

/-- Gears and two codes. -/
def gtB (a b : Int) (ks : List (List Int)) (s t : ByteArray) : Bool := gcB a b ks s && isCodeB a b t

theorem gt_fk {a b : Int} {ks : List (List Int)} {s t : ByteArray} (h : gtB a b ks s t = false) : fkB a b ks s t = false := by
  unfold gtB at h
  unfold fkB
  cases h1 : gcB a b ks s
  · rfl
  · rw [h1, Bool.true_and] at h
    unfold askB
    rw [h, Bool.and_false]
    rfl

theorem gt_yes {a b : Int} {ks : List (List Int)} {s t : ByteArray} (h : gtB a b ks s t = true) : gcB a b ks s = true ∧ askB a b t = true := by
  unfold gtB at h
  rw [Bool.and_eq_true] at h
  refine ⟨h.1, ?_⟩
  unfold askB
  rw [(gearsB_yes (gcB_yes h.1).1).1, h.2]
  rfl

theorem joTwo_any (a b : Int) (s t : ByteArray) (A : Option Addr) (n c : Nat) (ks : List (List Int)) (w : World) (hm : n + lensAt ks n ≤ 1048576) (hs : s.size ≤ maxLen) (ht : t.size ≤ maxLen) (hA : KnobsC w A n ks) :
    Calls Try.prog 81 #[.agg #[.int .i64 a, .int .i64 b, .slice A n c], .string s, .string t] w fun e w' => e = .returned (.bool (gtB a b ks s t)) ∧ Below w.heap.size w w' := by
  have HS := Lib.hid hs
  have HT := Lib.hid ht
  have HA := Lib.hid hA
  have G0 := gs_new w a b A n c
  clear hA hs ht
  obtain ⟨u, HU⟩ : ∃ u, Hid (gcB a b ks s = u) := ⟨_, Lib.hid rfl⟩
  rcases u with _ | _
  · go_enter Try.func81, Try.ntmps81
    go_wp2_with (go_at_call 73; refine (joCode_any _ _ _ _ _ _ ks _ hm HS.out (HA.out.below G0.out.bel)).mono ?_; rw [HU.out]; rintro e w1 ⟨rfl, hb1⟩)
    go_ret
    exact ⟨ret_bool (by unfold gtB; rw [HU.out]; rfl), bel_call G0.out.bel hb1⟩
  · have HG := Lib.hid (gearsB_yes (gcB_yes HU.out).1).1
    go_enter Try.func81, Try.ntmps81
    go_wp2_with (first
      | (go_at_call 73; refine (joCode_any _ _ _ _ _ _ ks _ hm HS.out (HA.out.below G0.out.bel)).mono ?_; rw [HU.out]; rintro e w1 ⟨rfl, hb1⟩
         have G1 := gs_call G0 hb1
         have l0 := gs_0 G1
         have l1 := gs_1 G1
         clear hb1)
      | (go_at_call 98; refine (whCode_any _ _ _ _ HT.out HG.out).mono ?_; rintro e w2 ⟨rfl, hb2⟩))
    go_ret
    exact ⟨ret_bool (by unfold gtB; rw [HU.out, Bool.true_and]), bel_call G1.out.bel hb2⟩

set_option maxHeartbeats 4000000 in
theorem specFewestKnobs_any (a b : Int) (s t : ByteArray) (A : Option Addr) (n c : Nat) (ks : List (List Int)) (w : World) (hm : n + lensAt ks n ≤ 1048576) (hs : s.size ≤ maxLen) (ht : t.size ≤ maxLen) (hA : KnobsC w A n ks) :
    Calls Try.prog 34 #[.agg #[.int .i64 a, .int .i64 b, .slice A n c], .string s, .string t] w fun e w' => e = .returned (.tuple #[.int .i64 (fwZ a b ks s t), .bool (fkB a b ks s t)]) ∧ Below w.heap.size w w' := by
  have HS := Lib.hid hs
  have HT := Lib.hid ht
  have HA := Lib.hid hA
  have HN := Lib.hid hA.len
  have G0 := gs_new w a b A n c
  clear hA hs ht
  obtain ⟨u, HU⟩ : ∃ u, Hid (gtB a b ks s t = u) := ⟨_, Lib.hid rfl⟩
  rcases u with _ | _
  · have HF := Lib.hid (gt_fk HU.out)
    go_enter Try.func34, Try.ntmps34
    go_wp2_with (go_at_call 81; refine (joTwo_any _ _ _ _ _ _ _ ks _ hm HS.out HT.out (HA.out.below G0.out.bel)).mono ?_; rw [HU.out]; rintro e w1 ⟨rfl, hb1⟩)
    go_ret2
    exact ⟨by rw [HF.out, fk_no HF.out]; rfl, bel_call G0.out.bel hb1⟩
  · have HGC := Lib.hid (gt_yes HU.out)
    have HGY := Lib.hid (gcB_yes HGC.out.1)
    have HK := Lib.hid (gears_knobs HGY.out.1)
    obtain ⟨hc1, _⟩ := gears_cnt HGY.out.1
    have hn5 : n ≤ 1000 := by have := (gearsB_yes HGY.out.1).2.2.2.1; have := HN.out; omega
    have hyn := nmN_lt HGC.out.2
    obtain ⟨yn, hyne⟩ : ∃ yn, nmN a b t = yn := ⟨_, rfl⟩
    have HYN : Hid (numZ a b t = (yn : Int)) := Lib.hid (by rw [← hyne]; exact (nmN_cast HGC.out.2).symm)
    rw [hyne] at hyn
    have HFE := far_ent a b ks s t
    rw [hyne] at HFE
    obtain ⟨fv, hfv⟩ : ∃ fv, farV a b (allL a b ks s) yn = fv := ⟨_, rfl⟩
    have HFV := Lib.hid hfv
    have hval : (fv < 0 ∧ fkB a b ks s t = false) ∨ (0 ≤ fv ∧ fkB a b ks s t = true ∧ fwZ a b ks s t = fv) := by
      rw [← hfv, HFE]
      rcases h : entT a b ks s t with _ | e0
      · left
        exact ⟨by simp, by unfold fkB; rw [h]; simp⟩
      · right
        have h1 : fkB a b ks s t = true := by unfold fkB; rw [h, HGC.out.1, HGC.out.2]; rfl
        exact ⟨by simp only []; omega, h1, by unfold fwZ fkT; rw [h1, h]; simp only [if_pos]; rw [wayT_length]⟩
    obtain ⟨M, hMe⟩ : ∃ M, cntN a b = M := ⟨_, rfl⟩
    have HM := Lib.hid hMe
    rw [hMe] at hyn hc1
    clear hyne hfv HFE hMe
    rcases hval with ⟨hneg, hF⟩ | ⟨hpos, hF, hZ⟩
    · have HF := Lib.hid hF
      clear hF
      go_enter Try.func34, Try.ntmps34
      go_wp2_with (first
        | (go_at_call 81; refine (joTwo_any _ _ _ _ _ _ _ ks _ hm HS.out HT.out (HA.out.below G0.out.bel)).mono ?_; rw [HU.out]; rintro e w1 ⟨rfl, hb1⟩
           have G1 := gs_call G0 hb1
           have l0 := gs_0 G1
           have l1 := gs_1 G1
           have l2 := gs_2 G1
           clear hb1))
      go_region_with (first
        | (go_at_call 82; refine (joFar_any _ _ _ _ _ _ ks _ hn5 (HA.out.below (by first | exact (gs_drew G1).out.bel | exact G1.out.bel | exact G3.out.bel | exact (gs_drew G3).out.bel)) HGY.out.2 HK.out (by rw [HM.out]; exact hc1)).mono ?_; rw [HM.out]; rintro e w4 ⟨g4, rfl, hg4, hC4, hb4⟩
           have G4 := gs_call (by first | assumption | exact gs_drew (by assumption)) hb4
           have q0 := gs_0 G4
           have q1 := gs_1 G4
           have q2 := gs_2 G4
           have HCA := Lib.hid hC4
           have z1 := (HCA.out.cell hyn)
           rw [HFV.out] at z1
           clear hC4)
        | (go_at_call 83; refine (whNumber_any _ _ _ _ HGC.out.2).mono ?_; rw [HYN.out]; rintro e w3 ⟨rfl, hb3⟩
           have G3 := gs_call (by first | assumption | exact gs_drew (by assumption)) hb3
           have p0 := gs_0 G3
           have p1 := gs_1 G3
           have p2 := gs_2 G3
           try have z2 := ((hc_call (by first | assumption | exact hc_drew (by assumption)) hb3).out.cell hyn); rw [HFV.out] at z2))
      all_goals
        go_wp2_with fail
        go_ret2
        refine ⟨by rw [HF.out, fk_no HF.out]; rfl, ?_⟩
        first
          | exact (show Hid (GS w _ a b A n c) from by assumption).out.bel
          | exact (gs_drew (show Hid (GS w _ a b A n c) from by assumption)).out.bel
    · have HF := Lib.hid hF
      have HZ := Lib.hid hZ
      clear hF hZ
      go_enter Try.func34, Try.ntmps34
      go_wp2_with (first
        | (go_at_call 81; refine (joTwo_any _ _ _ _ _ _ _ ks _ hm HS.out HT.out (HA.out.below G0.out.bel)).mono ?_; rw [HU.out]; rintro e w1 ⟨rfl, hb1⟩
           have G1 := gs_call G0 hb1
           have l0 := gs_0 G1
           have l1 := gs_1 G1
           have l2 := gs_2 G1
           clear hb1))
      go_region_with (first
        | (go_at_call 82; refine (joFar_any _ _ _ _ _ _ ks _ hn5 (HA.out.below (by first | exact (gs_drew G1).out.bel | exact G1.out.bel | exact G3.out.bel | exact (gs_drew G3).out.bel)) HGY.out.2 HK.out (by rw [HM.out]; exact hc1)).mono ?_; rw [HM.out]; rintro e w4 ⟨g4, rfl, hg4, hC4, hb4⟩
           have G4 := gs_call (by first | assumption | exact gs_drew (by assumption)) hb4
           have q0 := gs_0 G4
           have q1 := gs_1 G4
           have q2 := gs_2 G4
           have HCA := Lib.hid hC4
           have z1 := (HCA.out.cell hyn)
           rw [HFV.out] at z1
           clear hC4)
        | (go_at_call 83; refine (whNumber_any _ _ _ _ HGC.out.2).mono ?_; rw [HYN.out]; rintro e w3 ⟨rfl, hb3⟩
           have G3 := gs_call (by first | assumption | exact gs_drew (by assumption)) hb3
           have p0 := gs_0 G3
           have p1 := gs_1 G3
           have p2 := gs_2 G3
           try have z2 := ((hc_call (by first | assumption | exact hc_drew (by assumption)) hb3).out.cell hyn); rw [HFV.out] at z2))
      all_goals
        go_wp2_with fail
        go_ret2
        refine ⟨by rw [HF.out, HZ.out]; rfl, ?_⟩
        first
          | exact (show Hid (GS w _ a b A n c) from by assumption).out.bel
          | exact (gs_drew (show Hid (GS w _ a b A n c) from by assumption)).out.bel

theorem fewestKnobs_any (a b : Int) (s t : ByteArray) (A : Option Addr) (n c : Nat) (ks : List (List Int)) (w : World) (hm : n + lensAt ks n ≤ 1048576) (hs : s.size ≤ maxLen) (ht : t.size ≤ maxLen) (hA : KnobsC w A n ks) :
    Calls Try.prog 35 #[.agg #[.int .i64 a, .int .i64 b, .slice A n c], .string s, .string t] w fun e w' => e = .returned (.tuple #[.int .i64 (fwZ a b ks s t), .bool (fkB a b ks s t)]) ∧ Below w.heap.size w w' := by
  have HS := Lib.hid hs
  have HT := Lib.hid ht
  have HA := Lib.hid hA
  have G0 := gs_new w a b A n c
  have HZ : Hid (fwZ a b ks s t = ((fkT a b ks s t).length : Int)) := Lib.hid rfl
  clear hA hs ht
  go_enter Try.func35, Try.ntmps35
  go_wp2_with (go_at_call 37; refine (firstKnobs_any _ _ _ _ _ _ _ ks _ hm HS.out HT.out (HA.out.below G0.out.bel)).mono ?_; rintro e w1 ⟨A1, c1, rfl, hO, hb1⟩)
  go_ret2
  exact ⟨by rw [HZ.out]; rfl, bel_call G0.out.bel hb1⟩

end Go.Proofs.Ytejpcbkhlnjlfaa
