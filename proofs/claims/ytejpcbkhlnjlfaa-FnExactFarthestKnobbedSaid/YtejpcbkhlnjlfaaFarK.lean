/- The farthest code, as both programs tell it. For texts that are no longer than any may be. -/
import Derived.Test.YtejpcbkhlnjlfaaClassF
import Derived.BigQuiet
namespace Go.Proofs.Ytejpcbkhlnjlfaa
open Go.ChangeShapes Go.WideShapes Go.ChangeAt Go.RowKit Go.Joins

/-- The first place of the greatest number. -/
def bestN (f : Nat → Int) : Nat → Nat
  | 0 => 0
  | k + 1 => if f (bestN f k) < f k then k else bestN f k

theorem bestN_spec (f : Nat → Int) : ∀ n, (∀ i, i < n → f i ≤ f (bestN f n)) ∧ (∀ i, i < bestN f n → f i < f (bestN f n)) ∧ bestN f n < n + 1
  | 0 => ⟨fun i hi => by omega, fun i hi => by rw [bestN] at hi; omega, by rw [bestN]; omega⟩
  | n + 1 => by
    obtain ⟨h1, h2, h3⟩ := bestN_spec f n
    rw [bestN]
    by_cases h : f (bestN f n) < f n
    · rw [if_pos h]
      refine ⟨fun i hi => ?_, fun i hi => ?_, by omega⟩
      · by_cases e : i = n
        · subst e; exact Int.le_refl _
        · have := h1 i (by omega); omega
      · have := h1 i hi; omega
    · rw [if_neg h]
      refine ⟨fun i hi => ?_, h2, by omega⟩
      by_cases e : i = n
      · subst e; omega
      · exact h1 i (by omega)

theorem bestN_of {f : Nat → Int} {n k : Nat} (hk : k < n) (h1 : ∀ i, i < n → f i ≤ f k) (h2 : ∀ i, i < k → f i < f k) : bestN f n = k := by
  obtain ⟨g1, g2, g3⟩ := bestN_spec f n
  have a1 := g1 k hk
  rcases Nat.lt_trichotomy (bestN f n) k with h | h | h
  · have := h2 _ h; omega
  · exact h
  · have h4 := g2 _ h
    have h5 : bestN f n < n := by
      rcases Nat.lt_or_ge (bestN f n) n with h | h
      · exact h
      · exfalso
        have e : bestN f n = n := by omega
        clear g1 g2 g3 a1 h4 h
        have aux : ∀ m, 1 ≤ m → bestN f m < m := by
          intro m hm
          induction m with
          | zero => omega
          | succ m ih =>
            rw [bestN]
            split
            · omega
            · rcases m with _ | m
              · rw [bestN]; omega
              · have := ih (by omega); omega
        have := aux n (by omega)
        omega
    have := h1 _ h5
    omega

theorem bestN_lt (f : Nat → Int) {n : Nat} (hn : 1 ≤ n) : bestN f n < n := by
  induction n with
  | zero => omega
  | succ n ih =>
    rw [bestN]
    split
    · omega
    · rcases n with _ | n
      · rw [bestN]; omega
      · have := ih (by omega); omega

def fgN (a b : Int) (ks : List (List Int)) (s : ByteArray) : Int := if gcB a b ks s then farV a b (allL a b ks s) (bestN (farV a b (allL a b ks s)) (cntN a b)) else 0

def fgS (a b : Int) (ks : List (List Int)) (s : ByteArray) : ByteArray := if gcB a b ks s then textOf (digL b (bestN (farV a b (allL a b ks s)) (cntN a b) : Int) a.toNat) else ⟨#[]⟩

/-- The first one of the farthest entries. -/
theorem fg_of {a b : Int} {ks : List (List Int)} {s : ByteArray} (hg : gcB a b ks s = true) {e : Ent ByteArray} (he : e ∈ allL a b ks s) (hl : ∀ f, f ∈ allL a b ks s → f.way.length < e.way.length ∨ (f.way.length = e.way.length ∧ nmN a b e.code ≤ nmN a b f.code)) :
    fgS a b ks s = e.code ∧ fgN a b ks s = (e.way.length : Int) := by
  have hk := gears_knobs (gcB_yes hg).1
  have hs := (gcB_yes hg).2
  have ha := allL_ask hk hs
  have hn := (allL_all hk hs).nodup
  have key : ∀ i, farV a b (allL a b ks s) i = -1 ∨ ∃ f, f ∈ allL a b ks s ∧ nmN a b f.code = i ∧ farV a b (allL a b ks s) i = f.way.length := fun i => by
    unfold farV
    rcases hf : (allL a b ks s).find? (fun f => nmN a b f.code == i) with _ | f
    · left; rw [hf]
    · right
      have h2 := List.find?_some hf
      rw [beq_iff_eq] at h2
      exact ⟨f, List.mem_of_find?_eq_some hf, h2, by rw [hf]⟩
  have he2 := farV_mem hn ha he
  have hb : bestN (farV a b (allL a b ks s)) (cntN a b) = nmN a b e.code := by
    refine bestN_of (nmN_lt (ha e he)) (fun i _ => ?_) fun i hi => ?_
    · rw [he2]
      rcases key i with h | ⟨f, h1, _, h3⟩
      · omega
      · rw [h3]; have := hl f h1; omega
    · rw [he2]
      rcases key i with h | ⟨f, h1, h2, h3⟩
      · omega
      · rw [h3]; have := hl f h1; omega
  refine ⟨?_, ?_⟩
  · unfold fgS
    rw [if_pos hg, hb, nmN_cast (ha e he), of_num (ha e he)]
  · unfold fgN
    rw [if_pos hg, hb, he2]

theorem way_bdK {a b : Int} {ks : List (List Int)} {s : ByteArray} (hk : KnobsB a b ks) (hs : askB a b s = true) {e : Ent ByteArray} (he : e ∈ allL a b ks s) : e.way.length ≤ cntN a b := by
  obtain ⟨i, hi, rfl⟩ := List.getElem_of_mem he
  have h1 := (bfsL_inv (b := b) (ks := ks) (s := s) (cntN a b)).way_le rfl i _ (List.getElem?_eq_getElem hi)
  have h2 := bfsL_length hk hs (cntN a b)
  have h3 : (allL a b ks s).length ≤ cntN a b := h2
  have h4 : (allL a b ks s)[i].way.length ≤ i := h1
  omega

theorem fg_no {a b : Int} {ks : List (List Int)} {s : ByteArray} (h : gcB a b ks s = false) : fgS a b ks s = ⟨#[]⟩ ∧ fgN a b ks s = 0 := by unfold fgS fgN; rw [h]; exact ⟨rfl, rfl⟩

set_option maxHeartbeats 2000000 in
theorem specFarthestKnobbed_any (a b : Int) (s : ByteArray) (A : Option Addr) (n c : Nat) (ks : List (List Int)) (w : World) (hm : n + lensAt ks n ≤ 1048576) (hs : s.size ≤ maxLen) (hA : KnobsC w A n ks) :
    Calls Try.prog 55 #[.agg #[.int .i64 a, .int .i64 b, .slice A n c], .string s] w fun e w' => e = .returned (.tuple #[.string (fgS a b ks s), .int .i64 (fgN a b ks s), .bool (gcB a b ks s)]) ∧ Below w.heap.size w w' := by
  have HS := Lib.hid hs
  have HA := Lib.hid hA
  have HN := Lib.hid hA.len
  have G0 := gs_new w a b A n c
  clear hA hs
  obtain ⟨u, HU⟩ : ∃ u, Hid (gcB a b ks s = u) := ⟨_, Lib.hid rfl⟩
  rcases u with _ | _
  · go_enter Try.func55, Try.ntmps55
    go_wp2_with (go_at_call 73; refine (joCode_any _ _ _ _ _ _ ks _ hm HS.out (HA.out.below G0.out.bel)).mono ?_; rw [HU.out]; rintro e w1 ⟨rfl, hb1⟩)
    go_ret3
    exact ⟨by rw [HU.out, (fg_no HU.out).1, (fg_no HU.out).2]; rfl, bel_call G0.out.bel hb1⟩
  · have HGY := Lib.hid (gcB_yes HU.out)
    have HK := Lib.hid (gears_knobs HGY.out.1)
    have HGB := Lib.hid (gearsB_yes HGY.out.1).1
    obtain ⟨hc1, _⟩ := gears_cnt HGY.out.1
    have hn5 : n ≤ 1000 := by have := (gearsB_yes HGY.out.1).2.2.2.1; have := HN.out; omega
    obtain ⟨an, rfl⟩ : ∃ an : Nat, a = an := ⟨a.toNat, by have := good_yes HGB.out; omega⟩
    have hns := nmN_lt HGY.out.2
    obtain ⟨M, hMe⟩ : ∃ M, cntN an b = M := ⟨_, rfl⟩
    have HM := Lib.hid hMe
    rw [hMe] at hc1 hns
    have hM1 : 1 ≤ M := by omega
    obtain ⟨f, hf⟩ : ∃ f, farV an b (allL an b ks s) = f := ⟨_, rfl⟩
    have HF := Lib.hid hf
    have HV : Hid (textOf (digL b (bestN f M : Int) an) = fgS an b ks s ∧ f (bestN f M) = fgN an b ks s) := Lib.hid (by
      unfold fgS fgN
      rw [if_pos HU.out, if_pos HU.out, hf, hMe, Int.toNat_natCast]
      exact ⟨rfl, rfl⟩)
    clear hMe hf hns
    go_enter Try.func55, Try.ntmps55
    go_wp2_with (first
      | (go_at_call 73; refine (joCode_any _ _ _ _ _ _ ks _ hm HS.out (HA.out.below G0.out.bel)).mono ?_; rw [HU.out]; rintro e w1 ⟨rfl, hb1⟩
         have G1 := gs_call G0 hb1
         have l0 := gs_0 G1
         have l1 := gs_1 G1
         have l2 := gs_2 G1
         clear hb1)
      | (go_at_call 82; refine (joFar_any _ _ _ _ _ _ ks _ hn5 (HA.out.below G1.out.bel) HGY.out.2 HK.out (by rw [HM.out]; exact hc1)).mono ?_; rw [HM.out, HF.out]; rintro e w2 ⟨g2, rfl, hg2, hC2, hb2⟩
         have G2 := gs_call G1 hb2
         have HC2 := Lib.hid hC2
         clear hC2 hb2))
    clear l0 l1 l2
    go_loopw [7, 20] (fun v i wr => ∃ k : Nat, k ≤ M ∧ i = .int .i64 k ∧ v = .int .i64 (bestN f k : Int) ∧ wr = w2) (fun _ i _ => M - (intOf i).toNat)
    case atStart => exact ⟨0, by omega, rfl, rfl, rfl⟩
    case round =>
      obtain ⟨k, hk, rfl, rfl, hwr⟩ := hrel
      subst hwr
      by_cases hlt : k < M
      · have o1 := HC2.out.cell hlt
        have hbl : bestN f k < M := by
          rcases Nat.eq_zero_or_pos k with h | h
          · subst h; rw [bestN]; omega
          · have := bestN_lt f h; omega
        have o2 := HC2.out.cell hbl
        have HSU : Hid (bestN f (k + 1) = if f (bestN f k) < f k then k else bestN f k) := Lib.hid rfl
        obtain ⟨y, hy⟩ : ∃ y, f (bestN f k) = y := ⟨_, rfl⟩
        rw [hy] at o2 HSU
        obtain ⟨x, hx⟩ : ∃ x, f k = x := ⟨_, rfl⟩
        rw [hx] at o1 HSU
        obtain ⟨q, hq⟩ : ∃ q, bestN f k = q := ⟨_, rfl⟩
        rw [hq] at o2 HSU hbl ⊢
        clear hx hy hq
        by_cases h0 : y < x
        · go_wp2_with fail
          go_roundw
          case rel => exact ⟨k + 1, by omega, by go_num, by rw [HSU.out, if_pos h0], trivial⟩
          case measure => simp [intOf]; omega
        · go_wp2_with fail
          go_roundw
          case rel => exact ⟨k + 1, by omega, by go_num, by rw [HSU.out, if_neg h0], trivial⟩
          case measure => simp [intOf]; omega
      · obtain rfl : M = k := by omega
        have hbl : bestN f M < M := bestN_lt f hM1
        have o2 := HC2.out.cell hbl
        rw [HV.out.2] at o2
        have HV1 := Lib.hid HV.out.1
        have HFQ := Lib.hid HV.out.2
        have l0 := gs_0 G2
        have l1 := gs_1 G2
        obtain ⟨q, hq⟩ : ∃ q, bestN f M = q := ⟨_, rfl⟩
        rw [hq] at o2 HV1 hbl HFQ ⊢
        clear hq
        go_wp2_with fail
        go_region_with (go_at_call 88; refine (whOf_any _ _ _ _ HGB.out (by omega) (by omega)).mono ?_; rw [HV1.out]; rintro e w3 ⟨rfl, hb3⟩; have G3 := gs_call (by first | assumption | exact gs_drew (by assumption)) hb3; have z2 : w3.cell? ⟨g2, q, none⟩ = some (.int .i64 (f q)) := (hc_call (by first | assumption | exact hc_drew (by assumption)) hb3).out.cell hbl; rw [HFQ.out] at z2)
        all_goals
          go_wp2_with fail
          go_ret3
          refine ⟨by rw [HU.out]; rfl, ?_⟩
          first
            | exact (show Hid (GS w _ (an : Int) b A n c) from by assumption).out.bel
            | exact (gs_drew (show Hid (GS w _ (an : Int) b A n c) from by assumption)).out.bel

set_option maxHeartbeats 4000000 in
theorem farthestKnobbed_any (a b : Int) (s : ByteArray) (A : Option Addr) (n c : Nat) (ks : List (List Int)) (w : World) (hm : n + lensAt ks n ≤ 1048576) (hs : s.size ≤ maxLen) (hA : KnobsC w A n ks) :
    Calls Try.prog 56 #[.agg #[.int .i64 a, .int .i64 b, .slice A n c], .string s] w fun e w' => e = .returned (.tuple #[.string (fgS a b ks s), .int .i64 (fgN a b ks s), .bool (gcB a b ks s)]) ∧ Below w.heap.size w w' := by
  have HS := Lib.hid hs
  have HA := Lib.hid hA
  have HN := Lib.hid hA.len
  have G0 := gs_new w a b A n c
  clear hA hs
  obtain ⟨u, HU⟩ : ∃ u, Hid (gcB a b ks s = u) := ⟨_, Lib.hid rfl⟩
  rcases u with _ | _
  · go_enter Try.func56, Try.ntmps56
    go_wp2_with (go_at_call 79; refine (haveCode_any _ _ _ _ _ _ ks _ hm HS.out (HA.out.below G0.out.bel)).mono ?_; rw [HU.out]; rintro e w1 ⟨rfl, hb1⟩)
    go_ret3
    exact ⟨by rw [HU.out, (fg_no HU.out).1, (fg_no HU.out).2]; rfl, bel_call G0.out.bel hb1⟩
  · have HGY := Lib.hid (gcB_yes HU.out)
    have HK := Lib.hid (gears_knobs HGY.out.1)
    obtain ⟨hc1, _⟩ := gears_cnt HGY.out.1
    have hn5 : n ≤ 1000 := by have := (gearsB_yes HGY.out.1).2.2.2.1; have := HN.out; omega
    have HASK := Lib.hid (allL_ask HK.out HGY.out.2)
    have HSZ := Lib.hid (show ∀ e, e ∈ allL a b ks s → e.code.size ≤ maxLen from fun e he => by have := (asked (HASK.out e he)).n6; unfold maxLen; omega)
    have HWB := Lib.hid (show ∀ e, e ∈ allL a b ks s → e.way.length ≤ 1000 from fun e he => Nat.le_trans (way_bdK HK.out HGY.out.2 he) hc1)
    go_enter Try.func56, Try.ntmps56
    go_wp2_with (first
      | (go_at_call 79; refine (haveCode_any _ _ _ _ _ _ ks _ hm HS.out (HA.out.below G0.out.bel)).mono ?_; rw [HU.out]; rintro e w1 ⟨rfl, hb1⟩
         have G1 := gs_call G0 hb1
         have l0 := gs_0 G1
         have l1 := gs_1 G1
         have l2 := gs_2 G1
         clear hb1)
      | (go_at_call 87; refine (allArrivals_any _ _ _ _ _ _ ks _ hn5 (HA.out.below G1.out.bel) HGY.out.2 HK.out hc1).mono ?_; rintro e w2 ⟨B, rfl, hB, hMP, hb2⟩
         have HB2 := Lib.hid (bel_call G1.out.bel hb2)
         have HMP := Lib.hid hMP
         clear hMP)
      | (at_range; refine wpList_range_arr rfl _ rfl B (allL a b ks s) HMP.out HSZ.out rfl ?_; intro w3 left cnt hrg hlf hg3 hs3))
    go_frame
    have hBw : w.heap.size ≤ w2.heap.size := HB2.out.size
    have HB3 := Lib.hid (HB2.out.grown hg3 (by omega) (fun j hj => by cases hj))
    obtain ⟨r, hr⟩ : ∃ r, w2.heap.size = r := ⟨_, rfl⟩
    rw [hr] at hrg hBw ⊢
    have HRG := Lib.hid hrg
    have HLF := Lib.hid hlf
    clear hrg hlf hg3 hs3 hb2 hr HMP HB2 l0 l1 l2
    go_loopw [7, 8] (fun v u wr => ∃ (e : Ent ByteArray) (left : Lit → Bool) (cnt : Nat), v = .string e.code ∧ u = .int .i64 (e.way.length : Int) ∧ e ∈ allL a b ks s ∧ RngS wr B r (allL a b ks s) left cnt ∧ (∀ f, f ∈ allL a b ks s → left (strK f.code) = false → f.way.length < e.way.length ∨ (f.way.length = e.way.length ∧ nmN a b e.code ≤ nmN a b f.code)) ∧ Below w.heap.size w wr) (fun _ _ wr => wr.rangeLeft B r)
    case atStart => exact ⟨entS s, left, cnt, rfl, rfl, List.mem_of_getElem? (allL_all HK.out HGY.out.2).head, HRG.out, fun f hf h => (by rw [HLF.out f hf] at h; cases h), HB3.out⟩
    case round =>
      clear HRG HLF HB3
      obtain ⟨e, left, cnt, rfl, rfl, he, hrg, hmin, hB⟩ := hrel
      have HE := Lib.hid he
      have HMIN := Lib.hid hmin
      have HRG := Lib.hid hrg
      have HB := Lib.hid hB
      clear he hmin hrg hB
      go_wp2_with (first
        | (at_next; refine wpList_next_arr rfl _ rfl B r _ _ _ rfl HRG.out ?_ ?_))
      · intro hl0
        have HFC := Lib.hid (fg_of HU.out HE.out fun f hf => HMIN.out f hf (hl0 _))
        clear hl0
        rw [← HFC.out.1, ← HFC.out.2]
        go_wp2_with fail
        go_ret3
        exact ⟨by rw [HU.out, HFC.out.1, HFC.out.2]; rfl, HB.out⟩
      · intro e1 w4 cnt1 he1 hrg1 hlt hg4 hs4 hen
        have HE1 := Lib.hid he1
        have HRG1 := Lib.hid hrg1
        have hwr := HB.out.size
        have HB4 := Lib.hid (HB.out.grown hg4 (Nat.le_trans HB.out.size (by omega)) (fun j hj => by injection hj with hj; omega))
        have HLT := Lib.hid hlt
        have HL0 := Lib.hid HRG.out.left_eq
        have hw1 := HWB.out e HE.out
        have hw2 := HWB.out e1 he1
        have HEA := Lib.hid (HASK.out e HE.out)
        have HEB := Lib.hid (HASK.out e1 HE1.out)
        have hz4 : w4.heap.size = wr.heap.size := hs4
        have HB5 := Lib.hid (HB4.out.alloc (by omega) (.cells #[.string e1.before, .int .i64 (lastW e1), .int .i64 (lastB e1), .int .i64 (e1.way.length : Int)] 95))
        have HR5 := Lib.hid (HRG1.out.alloc (.cells #[.string e1.before, .int .i64 (lastW e1), .int .i64 (lastB e1), .int .i64 (e1.way.length : Int)] 95))
        obtain ⟨x, hx⟩ : ∃ x, e1.way.length = x := ⟨_, rfl⟩
        obtain ⟨y, hy⟩ : ∃ y, e.way.length = y := ⟨_, rfl⟩
        have HX := Lib.hid hx
        have HY := Lib.hid hy
        rw [hx] at hen hw2 HB5 HR5 ⊢
        rw [hy] at hw1 ⊢
        clear he1 hrg1 hg4 hs4 hlt hx hy hwr
        by_cases h1 : y < x
        · have H1 := Lib.hid h1
          go_wp2_with fail
          go_quiet (fail)
          go_wp2_with fail
          go_roundw
          case rel => exact ⟨e1, _, cnt1, rfl, by rw [HX.out], HE1.out, HR5.out, fun f hf h => (strike_no h).elim (fun h2 => by have h3 := HMIN.out f hf h2; have h4 := H1.out; have h5 := HX.out; have h6 := HY.out; omega) (fun e2 => by
            have := keysE_inj (allL_all HK.out HGY.out.2).nodup hf HE1.out e2
            subst this
            exact .inr ⟨rfl, Nat.le_refl _⟩), bel_drewN HB5.out _⟩
          case measure => exact Nat.lt_of_lt_of_le (Nat.lt_of_le_of_lt (Nat.le_of_eq HR5.out.left_eq) HLT.out) (Nat.le_of_eq HL0.out.symm)
        · by_cases h2 : x = y
          · subst h2
            by_cases h3 : nmN a b e1.code < nmN a b e.code
            · have hls := less_nm HEB.out HEA.out
              rw [decide_eq_true h3] at hls
              have H3 := Lib.hid h3
              clear h1 h3
              go_wp2_with fail
              go_quiet (fail)
              go_wp2_with fail
              go_roundw
              case rel => exact ⟨e1, _, cnt1, rfl, by rw [HX.out], HE1.out, HR5.out, fun f hf h => (strike_no h).elim (fun h2 => by have h3 := HMIN.out f hf h2; have h4 := H3.out; have h5 := HX.out; have h6 := HY.out; omega) (fun e2 => by
                have := keysE_inj (allL_all HK.out HGY.out.2).nodup hf HE1.out e2
                subst this
                exact .inr ⟨rfl, Nat.le_refl _⟩), bel_drewN HB5.out _⟩
              case measure => exact Nat.lt_of_lt_of_le (Nat.lt_of_le_of_lt (Nat.le_of_eq HR5.out.left_eq) HLT.out) (Nat.le_of_eq HL0.out.symm)
            · have hls := less_nm HEB.out HEA.out
              rw [decide_eq_false h3] at hls
              have H3 := Lib.hid h3
              clear h1 h3
              go_wp2_with fail
              go_roundw
              case rel => exact ⟨e, _, cnt1, rfl, by rw [HY.out], HE.out, HR5.out, fun f hf h => (strike_no h).elim (HMIN.out f hf) (fun e2 => by
                have := keysE_inj (allL_all HK.out HGY.out.2).nodup hf HE1.out e2
                subst this
                have h4 := H3.out; have h5 := HX.out; have h6 := HY.out; omega), HB5.out⟩
              case measure => rw [HR5.out.left_eq, HL0.out]; exact HLT.out
          · have H1 := Lib.hid h1
            have H2 := Lib.hid h2
            have h3 : x < y := by omega
            have h4 : ((x : Int) == (y : Int)) = false := by
              rw [beq_eq_false_iff_ne]
              omega
            clear h1 h2
            go_wp2_with fail
            go_roundw
            case rel => exact ⟨e, _, cnt1, rfl, by rw [HY.out], HE.out, HR5.out, fun f hf h => (strike_no h).elim (HMIN.out f hf) (fun e2 => by
              have := keysE_inj (allL_all HK.out HGY.out.2).nodup hf HE1.out e2
              subst this
              have h4 := H1.out; have h5 := HX.out; have h6 := HY.out; have h7 := H2.out; omega), HB5.out⟩
            case measure => rw [HR5.out.left_eq, HL0.out]; exact HLT.out

end Go.Proofs.Ytejpcbkhlnjlfaa
