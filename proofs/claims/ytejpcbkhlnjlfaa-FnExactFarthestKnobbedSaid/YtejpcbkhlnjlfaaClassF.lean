/- The first code of a class, as both programs tell it. For texts that are no longer than any may be. -/
import Derived.Test.YtejpcbkhlnjlfaaReachI
import Derived.Test.YtejpcbkhlnjlfaaGS
import Derived.Test.YtejpcbkhlnjlfaaOrd
import Derived.Test.YtejpcbkhlnjlfaaRng
namespace Go.Proofs.Ytejpcbkhlnjlfaa
open Go.ChangeShapes Go.WideShapes Go.ChangeAt Go.RowKit Go.Joins

def firstN (f : Nat → Int) (n : Nat) : Nat := ((List.range n).find? fun i => decide (0 ≤ f i)).getD 0

theorem firstN_of {f : Nat → Int} {n k : Nat} (hk : k < n) (h0 : 0 ≤ f k) (hn : ∀ i, i < k → f i < 0) : firstN f n = k := by
  unfold firstN
  have : (List.range n).find? (fun i => decide (0 ≤ f i)) = some k := by
    rw [List.find?_range_eq_some]
    refine ⟨by simp [h0], by simp; omega, fun j hj => ?_⟩
    have := hn j hj
    simp
    omega
  rw [this]
  rfl

def fcS (a b : Int) (ks : List (List Int)) (s : ByteArray) : ByteArray := if gcB a b ks s then textOf (digL b (firstN (farV a b (allL a b ks s)) (cntN a b) : Int) a.toNat) else ⟨#[]⟩

theorem fcS_no {a b : Int} {ks : List (List Int)} {s : ByteArray} (h : gcB a b ks s = false) : fcS a b ks s = ⟨#[]⟩ := by unfold fcS; rw [h]; rfl

/-- The least code of a list of codes. -/
theorem fcS_of {a b : Int} {ks : List (List Int)} {s : ByteArray} (hg : gcB a b ks s = true) {e : Ent ByteArray} (he : e ∈ allL a b ks s) (hl : ∀ f, f ∈ allL a b ks s → nmN a b e.code ≤ nmN a b f.code) : fcS a b ks s = e.code := by
  have hk := gears_knobs (gcB_yes hg).1
  have hs := (gcB_yes hg).2
  have ha := allL_ask hk hs
  have h1 : firstN (farV a b (allL a b ks s)) (cntN a b) = nmN a b e.code := by
    refine firstN_of (nmN_lt (ha e he)) ?_ fun i hi => ?_
    · rw [farV_mem (allL_all hk hs).nodup ha he]; omega
    · unfold farV
      rcases hf : (allL a b ks s).find? (fun f => nmN a b f.code == i) with _ | f
      · rw [hf]; simp
      · have h2 := List.find?_some hf
        rw [beq_iff_eq] at h2
        have := hl f (List.mem_of_find?_eq_some hf)
        omega
  unfold fcS
  rw [if_pos hg, h1, nmN_cast (ha e he), of_num (ha e he)]

theorem min_codes {a b : Int} {x y : ByteArray} (hx : askB a b x = true) (hy : askB a b y = true) (W : World) : (Builtin.min_ #[9, 9] 9 #[.string x, .string y]).run Try.prog W = .ok (.string (if nmN a b x ≤ nmN a b y then x else y)) W := by
  have key : (Op.bytesLess x.toList y.toList || x.toList == y.toList) = decide (nmN a b x ≤ nmN a b y) := by
    rw [less_nm hx hy]
    by_cases h : nmN a b x < nmN a b y
    · rw [decide_eq_true h, decide_eq_true (by omega)]; rfl
    · rw [decide_eq_false h, Bool.false_or]
      by_cases e : x = y
      · subst e
        rw [decide_eq_true (Nat.le_refl _)]
        simp
      · have e2 : nmN a b x ≠ nmN a b y := fun h2 => e (nmN_inj hx hy h2)
        rw [bytes_neA e, decide_eq_false (by omega)]
  simp only [Builtin.min_, List.foldlM, Builtin.min2, Op.stringOp, key]
  by_cases h : nmN a b x ≤ nmN a b y
  · simp [h, asBool]
  · simp [h, asBool]

set_option maxHeartbeats 2000000 in
theorem specFirstOfClass_any (a b : Int) (s : ByteArray) (A : Option Addr) (n c : Nat) (ks : List (List Int)) (w : World) (hm : n + lensAt ks n ≤ 1048576) (hs : s.size ≤ maxLen) (hA : KnobsC w A n ks) :
    Calls Try.prog 45 #[.agg #[.int .i64 a, .int .i64 b, .slice A n c], .string s] w fun e w' => e = .returned (.tuple #[.string (fcS a b ks s), .bool (gcB a b ks s)]) ∧ Below w.heap.size w w' := by
  have HS := Lib.hid hs
  have HA := Lib.hid hA
  have HN := Lib.hid hA.len
  have G0 := gs_new w a b A n c
  clear hA hs
  obtain ⟨u, HU⟩ : ∃ u, Hid (gcB a b ks s = u) := ⟨_, Lib.hid rfl⟩
  rcases u with _ | _
  · go_enter Try.func45, Try.ntmps45
    go_wp2_with (go_at_call 73; refine (joCode_any _ _ _ _ _ _ ks _ hm HS.out (HA.out.below G0.out.bel)).mono ?_; rw [HU.out]; rintro e w1 ⟨rfl, hb1⟩)
    go_ret2
    exact ⟨by rw [HU.out, fcS_no HU.out]; rfl, bel_call G0.out.bel hb1⟩
  · have HGY := Lib.hid (gcB_yes HU.out)
    have HK := Lib.hid (gears_knobs HGY.out.1)
    have HGB := Lib.hid (gearsB_yes HGY.out.1).1
    obtain ⟨hc1, _⟩ := gears_cnt HGY.out.1
    have hn5 : n ≤ 1000 := by have := (gearsB_yes HGY.out.1).2.2.2.1; have := HN.out; omega
    obtain ⟨an, rfl⟩ : ∃ an : Nat, a = an := ⟨a.toNat, by have := good_yes HGB.out; omega⟩
    have hns := nmN_lt HGY.out.2
    have HNS := Lib.hid (farV_in (allL_all HK.out HGY.out.2).nodup (allL_ask HK.out HGY.out.2) (mem_keysE.2 ⟨entS s, List.mem_of_getElem? (allL_all HK.out HGY.out.2).head, rfl⟩))
    obtain ⟨M, hMe⟩ : ∃ M, cntN an b = M := ⟨_, rfl⟩
    have HM := Lib.hid hMe
    rw [hMe] at hc1 hns
    obtain ⟨f, hf⟩ : ∃ f, farV an b (allL an b ks s) = f := ⟨_, rfl⟩
    have HF := Lib.hid hf
    have HV : Hid (∀ k, k < M → 0 ≤ f k → (∀ i, i < k → f i < 0) → textOf (digL b (k : Int) an) = fcS an b ks s) := Lib.hid fun k h1 h2 h3 => by
      unfold fcS
      rw [if_pos HU.out, hf, hMe, firstN_of h1 h2 h3, Int.toNat_natCast]
    obtain ⟨ns, hnse⟩ : ∃ ns, nmN an b s = ns := ⟨_, rfl⟩
    have HNS2 : Hid (0 ≤ f ns) := Lib.hid (by have := HNS.out; rw [hf] at this; rw [← hnse]; exact this)
    rw [hnse] at hns
    clear hMe hf hnse HNS
    go_enter Try.func45, Try.ntmps45
    go_wp2_with (first
      | (go_at_call 73; refine (joCode_any _ _ _ _ _ _ ks _ hm HS.out (HA.out.below G0.out.bel)).mono ?_; rw [HU.out]; rintro e w1 ⟨rfl, hb1⟩
         have G1 := gs_call G0 hb1
         have l0 := gs_0 G1
         have l1 := gs_1 G1
         have l2 := gs_2 G1
         clear hb1)
      | (go_at_call 82; refine (joFar_any _ _ _ _ _ _ ks _ hn5 (HA.out.below G1.out.bel) HGY.out.2 HK.out (by rw [HM.out]; exact hc1)).mono ?_; rw [HM.out, HF.out]; rintro e w2 ⟨g2, rfl, hg2, hC2, hb2⟩
         have G2 := gs_call G1 hb2
         have HC2 := Lib.hid hC2
         clear hC2 hb2))
    clear l0 l1 l2
    go_loopw [16] (fun i wr => ∃ k : Nat, k ≤ M ∧ i = .int .i64 k ∧ (∀ i, i < k → f i < 0) ∧ wr = w2) (fun i _ => M - (intOf i).toNat)
    case atStart => exact ⟨0, by omega, rfl, fun i hi => by omega, rfl⟩
    case round =>
      obtain ⟨k, hk, rfl, hneg, hwr⟩ := hrel
      subst hwr
      have HNEG := Lib.hid hneg
      clear hneg
      by_cases hlt : k < M
      · have o1 := HC2.out.cell hlt
        have l0 := gs_0 G2
        have l1 := gs_1 G2
        by_cases h0 : 0 ≤ f k
        · have HVK := Lib.hid (HV.out k hlt h0 HNEG.out)
          generalize f k = x at o1 h0
          go_wp2_with (go_at_call 88; refine (whOf_any _ _ _ _ HGB.out (by omega) (by omega)).mono ?_; rw [HVK.out]; rintro e w3 ⟨rfl, hb3⟩)
          go_ret2
          exact ⟨by rw [HU.out]; rfl, bel_call G2.out.bel hb3⟩
        · have HNG : Hid (∀ i, i < k + 1 → f i < 0) := Lib.hid fun i hi => by
            by_cases e : i = k
            · subst e; omega
            · exact HNEG.out i (by omega)
          generalize f k = x at o1 h0
          go_wp2_with fail
          go_roundw
          case rel => exact ⟨k + 1, by omega, by go_num, HNG.out, trivial⟩
          case measure => simp [intOf]; omega
      · exfalso
        have h1 := HNEG.out ns (by omega)
        have h2 := HNS2.out
        omega

set_option maxHeartbeats 2000000 in
theorem firstOfClass_any (a b : Int) (s : ByteArray) (A : Option Addr) (n c : Nat) (ks : List (List Int)) (w : World) (hm : n + lensAt ks n ≤ 1048576) (hs : s.size ≤ maxLen) (hA : KnobsC w A n ks) :
    Calls Try.prog 46 #[.agg #[.int .i64 a, .int .i64 b, .slice A n c], .string s] w fun e w' => e = .returned (.tuple #[.string (fcS a b ks s), .bool (gcB a b ks s)]) ∧ Below w.heap.size w w' := by
  have HS := Lib.hid hs
  have HA := Lib.hid hA
  have HN := Lib.hid hA.len
  have G0 := gs_new w a b A n c
  clear hA hs
  obtain ⟨u, HU⟩ : ∃ u, Hid (gcB a b ks s = u) := ⟨_, Lib.hid rfl⟩
  rcases u with _ | _
  · go_enter Try.func46, Try.ntmps46
    go_wp2_with (go_at_call 79; refine (haveCode_any _ _ _ _ _ _ ks _ hm HS.out (HA.out.below G0.out.bel)).mono ?_; rw [HU.out]; rintro e w1 ⟨rfl, hb1⟩)
    go_ret2
    exact ⟨by rw [HU.out, fcS_no HU.out]; rfl, bel_call G0.out.bel hb1⟩
  · have HGY := Lib.hid (gcB_yes HU.out)
    have HK := Lib.hid (gears_knobs HGY.out.1)
    obtain ⟨hc1, _⟩ := gears_cnt HGY.out.1
    have hn5 : n ≤ 1000 := by have := (gearsB_yes HGY.out.1).2.2.2.1; have := HN.out; omega
    have HASK := Lib.hid (allL_ask HK.out HGY.out.2)
    have HSZ := Lib.hid (show ∀ e, e ∈ allL a b ks s → e.code.size ≤ maxLen from fun e he => by have := (asked (HASK.out e he)).n6; unfold maxLen; omega)
    go_enter Try.func46, Try.ntmps46
    go_wp2_with (first
      | (go_at_call 79; refine (haveCode_any _ _ _ _ _ _ ks _ hm HS.out (HA.out.below G0.out.bel)).mono ?_; rw [HU.out]; rintro e w1 ⟨rfl, hb1⟩
         have G1 := gs_call G0 hb1
         have l0 := gs_0 G1
         have l1 := gs_1 G1
         have l2 := gs_2 G1
         clear hb1)
      | (go_at_call 87; refine (allArrivals_any _ _ _ _ _ _ ks _ hn5 (HA.out.below G1.out.bel) HGY.out.2 HK.out hc1).mono ?_; rintro e w2 ⟨B, rfl, hB, hMP, hb2⟩
         have HB2 := Lib.hid (bel_call G1.out.bel hb2)
         have HMP := Lib.hid hMP
         clear hMP)
      | (at_range; refine wpList_range_arr rfl _ rfl B (allL a b ks s) HMP.out HSZ.out rfl ?_; intro w3 left cnt hrg hlf hg3 hs3))
    go_frame
    have hBw : w.heap.size ≤ w2.heap.size := HB2.out.size
    have HB3 := Lib.hid (HB2.out.grown hg3 (by omega) (fun j hj => by cases hj))
    obtain ⟨r, hr⟩ : ∃ r, w2.heap.size = r := ⟨_, rfl⟩
    rw [hr] at hrg hBw ⊢
    have HRG := Lib.hid hrg
    have HLF := Lib.hid hlf
    clear hrg hlf hg3 hs3 hb2 hr HMP HB2 l0 l1 l2
    go_loopw [6] (fun v wr => ∃ (e : Ent ByteArray) (left : Lit → Bool) (cnt : Nat), v = .string e.code ∧ e ∈ allL a b ks s ∧ RngS wr B r (allL a b ks s) left cnt ∧ (∀ f, f ∈ allL a b ks s → left (strK f.code) = false → nmN a b e.code ≤ nmN a b f.code) ∧ Below w.heap.size w wr) (fun _ wr => wr.rangeLeft B r)
    case atStart => exact ⟨entS s, left, cnt, rfl, List.mem_of_getElem? (allL_all HK.out HGY.out.2).head, HRG.out, fun f hf h => (by rw [HLF.out f hf] at h; cases h), HB3.out⟩
    case round =>
      clear HRG HLF HB3
      obtain ⟨e, left, cnt, rfl, he, hrg, hmin, hB⟩ := hrel
      have HE := Lib.hid he
      have HMIN := Lib.hid hmin
      have HRG := Lib.hid hrg
      have HB := Lib.hid hB
      clear he hmin hrg hB
      go_wp2_with (first
        | (at_next; refine wpList_next_arr rfl _ rfl B r _ _ _ rfl HRG.out ?_ ?_))
      · intro hl0
        have HFC : Hid (e.code = fcS a b ks s) := Lib.hid (fcS_of HU.out HE.out fun f hf => HMIN.out f hf (hl0 _)).symm
        clear hl0
        rw [HFC.out]
        go_wp2_with fail
        go_ret2
        exact ⟨by rw [HU.out]; rfl, HB.out⟩
      · intro e1 w4 cnt1 he1 hrg1 hlt hg4 hs4 hen
        have HE1 := Lib.hid he1
        have HRG1 := Lib.hid hrg1
        have HB4 := Lib.hid (HB.out.grown hg4 (Nat.le_trans HB.out.size (by omega)) (fun j hj => by injection hj with hj; omega))
        have HLT := Lib.hid hlt
        have HL0 := Lib.hid HRG.out.left_eq
        clear he1 hrg1 hg4 hs4 hlt
        have HEA := Lib.hid (HASK.out e HE.out)
        have HEB := Lib.hid (HASK.out e1 HE1.out)
        by_cases hle : nmN a b e.code ≤ nmN a b e1.code
        · have hmi := min_codes HEA.out HEB.out w4
          rw [if_pos hle] at hmi
          have HLE := Lib.hid hle
          clear hle
          go_wp2_with fail
          go_roundw
          case rel => exact ⟨e, _, cnt1, rfl, HE.out, HRG1.out, fun f hf h => (strike_no h).elim (HMIN.out f hf) (fun e2 => by rw [e2]; exact HLE.out), HB4.out⟩
          case measure => rw [HRG1.out.left_eq, HL0.out]; exact HLT.out
        · have hmi := min_codes HEA.out HEB.out w4
          rw [if_neg hle] at hmi
          have HLE := Lib.hid hle
          clear hle
          go_wp2_with fail
          go_roundw
          case rel => exact ⟨e1, _, cnt1, rfl, HE1.out, HRG1.out, fun f hf h => (strike_no h).elim (fun h2 => by have := HMIN.out f hf h2; have := HLE.out; omega) (fun e2 => by rw [e2]; exact Nat.le_refl _), HB4.out⟩
          case measure => rw [HRG1.out.left_eq, HL0.out]; exact HLT.out

end Go.Proofs.Ytejpcbkhlnjlfaa
