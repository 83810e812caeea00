/- The round order: the rank of a code, as both programs answer. No conditions. -/
import Derived.Test.YtpbnleohbegccaaOg
namespace Go.Proofs.Ytpbnleohbegccaa
open Go.ChangeShapes Go.WideShapes Go.ChangeAt Go.RowKit Go.Joins

/-- The rank in the round order. -/
def rrZ (a b : Int) (s : ByteArray) : Int := if askB a b s then numAt b (psL b (dg s) s.size) s.size else 0

theorem rrZ_yes {a b : Int} {s : ByteArray} (h : askB a b s = true) : rrZ a b s = numAt b (psL b (dg s) s.size) s.size := by unfold rrZ; rw [h]; rfl

theorem rrZ_no {a b : Int} {s : ByteArray} (h : askB a b s = false) : rrZ a b s = 0 := by unfold rrZ; rw [h]; rfl

theorem ps_good {a b : Int} {s : ByteArray} (h : Asked a b s) : Good a b (psL b (dg s) s.size) := ⟨by rw [psL_length]; exact h.size, fun j hj => by
  rw [psL_length] at hj
  rw [psL_at hj]
  exact psA_bd h.b2 _ _⟩

theorem ps_step {a b : Int} {s : ByteArray} (h : Asked a b s) {k : Nat} (hk : k < s.size) :
    0 ≤ numAt b (psL b (dg s) s.size) k ∧ numAt b (psL b (dg s) s.size) k ≤ 1000000 ∧ 0 ≤ numAt b (psL b (dg s) s.size) k * b ∧ numAt b (psL b (dg s) s.size) k * b ≤ 1000000 ∧
    numAt b (psL b (dg s) s.size) (k + 1) = numAt b (psL b (dg s) s.size) k * b + psA b (dg s) (k + 1) := by
  have hg := ps_good h
  have hlow : ∀ j, j < s.size → 0 ≤ (psL b (dg s) s.size).getD j 0 ∧ (psL b (dg s) s.size).getD j 0 < b := fun j hj => hg.low j (by rw [psL_length]; exact hj)
  obtain ⟨i1, i2⟩ := numAt_bd h.b2 hlow k (by omega)
  obtain ⟨j1, j2⟩ := numAt_bd h.b2 hlow (k + 1) (by omega)
  have p1 := pw_bd6 h.b2 h.b10 (k := k) (by have := h.n6; omega)
  have p2 := pw_bd6 h.b2 h.b10 (k := k + 1) (by have := h.n6; omega)
  have d := hlow k hk
  have m := Int.mul_nonneg i1 (show 0 ≤ b by have := h.b2; omega)
  rw [numAt] at j1 j2
  refine ⟨i1, by omega, m, by omega, ?_⟩
  rw [numAt, psL_at hk]

set_option maxRecDepth 100000 in
set_option maxHeartbeats 4000000 in
theorem specRoundRank_any (a b : Int) (s : ByteArray) (w : World) (hs : s.size ≤ maxLen) :
    Calls Try.prog 26 #[.agg #[.int .i64 a, .int .i64 b], .string s] w fun e w' => e = .returned (.tuple #[.int .i64 (rrZ a b s), .bool (askB a b s)]) ∧ Below w.heap.size w w' := by
  have HS := Lib.hid hs
  clear hs
  by_cases hg : askB a b s = true
  · have HG := Lib.hid hg
    have HA := Lib.hid (asked hg)
    obtain ⟨n6, b2, b10⟩ : s.size ≤ 6 ∧ 2 ≤ b ∧ b ≤ 10 := ⟨HA.out.n6, HA.out.b2, HA.out.b10⟩
    clear hg
    go_enter Try.func26, Try.ntmps26
    go_wp2_with (first
      | (go_at_call 69; refine (whAsked_any _ _ _ _ HS.out).mono ?_; rw [HG.out]; rintro e w1 ⟨rfl, hb1⟩; have z1 : w.heap.size < w1.heap.size := (by have := hb1.size; simp at this; omega); have m1 : w1.cell? ⟨w.heap.size, 1, none⟩ = some (.int .i64 b) := (hb1.cell (p := ⟨w.heap.size, 1, none⟩) (by simp)).trans (by simp); have HB1 := Lib.hid (show Below w.heap.size w w1 from bel_call ((Below.refl _ _).alloc (Nat.le_refl _) _) hb1); clear hb1)
      | (go_at_call 70; refine (whDigits_any _ _ HA.out.digits (by omega) HA.out.n1).mono ?_; rintro e w2 ⟨g, c, rfl, hgg, hC, hb2⟩; have m2 : w2.cell? ⟨w.heap.size, 1, none⟩ = some (.int .i64 b) := (hb2.cell (p := ⟨w.heap.size, 1, none⟩) z1).trans m1; have HB2 := Lib.hid (show Below w.heap.size w w2 from bel_call HB1.out hb2); have HC := Lib.hid hC; clear hb2 hC m1))
    go_loop [6, 7, 17] (fun u v i => ∃ k : Nat, k ≤ s.size ∧ i = .int .i64 k ∧ u = .int .i64 (psA b (dg s) k) ∧ v = .int .i64 (numAt b (psL b (dg s) s.size) k)) (fun _ _ i => s.size - (intOf i).toNat)
    case atStart => exact ⟨0, by omega, rfl, rfl, rfl⟩
    case round =>
      obtain ⟨k, hk, rfl, rfl, rfl⟩ := hrel
      by_cases hlt : k < s.size
      · have hc : w2.cell? ⟨g, k, none⟩ = some (.int .i64 ((dg s).getD k 0)) := HC.out.cell hlt
        obtain ⟨s1, s2, s3, s4, s5⟩ := ps_step HA.out hlt
        obtain ⟨d1, d2⟩ := HA.out.low k hlt
        have hp := psA_bd b2 (dg s) k
        have hp1 := psA_bd b2 (dg s) (k + 1)
        have HP : Hid (psA b (dg s) (k + 1) = (psA b (dg s) k + (dg s).getD k 0) % b) := Lib.hid rfl
        have HE := Lib.hid s5
        rw [HP.out] at HE hp1
        clear s5
        generalize (dg s).getD k 0 = d at hc d1 d2 HE HP hp1
        generalize psA b (dg s) k = p at hp HE HP hp1
        generalize hm : numAt b (psL b (dg s) s.size) k = m at s1 s2 s3 s4 HE
        clear hm
        obtain ⟨hp0, hpb⟩ := hp
        obtain ⟨hq0, hqb⟩ := hp1
        go_wp2_with fail
        go_round
        case rel => exact ⟨k + 1, by omega, by go_num, by rw [HP.out], by rw [HE.out]⟩
        case measure => simp [intOf]; omega
      · go_wp2_with fail
        go_ret2
        exact ⟨by rw [HG.out, rrZ_yes HG.out, show k = s.size by omega]; first | done | rfl, HB2.out⟩
  · have HG := Lib.hid (Bool.eq_false_iff.2 hg)
    clear hg
    go_enter Try.func26, Try.ntmps26
    go_wp2_with (first | (go_at_call 69; refine (whAsked_any _ _ _ _ HS.out).mono ?_; rw [HG.out]; rintro e w1 ⟨rfl, hb⟩; obtain ⟨hc, hf, hz⟩ := bcell hb; have hz0 : w.heap.size < w1.heap.size := by (try simp at hz); omega))
    go_ret2
    refine ⟨by rw [HG.out, rrZ_no HG.out]; first | done | rfl, ?_⟩
    (repeat (first | assumption | exact Below.refl _ _ | (refine Below.alloc ?_ (by first | omega | (simp; done) | (simp; omega)) _) | (refine Below.setCell ?_ (by first | omega | (simp; done) | (simp; omega)) _) | refine bel_drewN ?_ _ | refine bel_drew ?_ | (refine bel_call ?_ (by assumption))))

set_option maxRecDepth 100000 in
set_option maxHeartbeats 4000000 in
theorem roundRank_any (a b : Int) (s : ByteArray) (w : World) (hs : s.size ≤ maxLen) :
    Calls Try.prog 27 #[.agg #[.int .i64 a, .int .i64 b], .string s] w fun e w' => e = .returned (.tuple #[.int .i64 (rrZ a b s), .bool (askB a b s)]) ∧ Below w.heap.size w w' := by
  have HS := Lib.hid hs
  clear hs
  by_cases hg : askB a b s = true
  · have HG := Lib.hid hg
    have HA := Lib.hid (asked hg)
    obtain ⟨n6, b2, b10⟩ : s.size ≤ 6 ∧ 2 ≤ b ∧ b ≤ 10 := ⟨HA.out.n6, HA.out.b2, HA.out.b10⟩
    obtain ⟨t, ht⟩ : ∃ t, textOf (psL b (dg s) s.size) = t := ⟨_, rfl⟩
    have hpd := (ps_good HA.out).digits b10
    have HT : Hid (askB a b t = true) := Lib.hid (by rw [← ht]; exact ask_of HA.out.good (ps_good HA.out))
    have HN : Hid (numZ a b t = rrZ a b s) := Lib.hid (by rw [rrZ_yes hg, numZ_yes HT.out, ← ht, dg_textOf hpd, textOf_size, psL_length])
    have HTT := Lib.hid ht
    have HPD := Lib.hid hpd
    have hts : t.size ≤ maxLen := by have := (asked HT.out).n6; unfold maxLen; omega
    have HTS := Lib.hid hts
    clear hg ht hpd hts
    go_enter Try.func27, Try.ntmps27
    go_wp2_with (first
      | (go_at_call 71; refine (hasCode_any _ _ _ _ HS.out).mono ?_; rw [ask_eq, HG.out]; rintro e w1 ⟨rfl, hb1⟩; have z1 : w.heap.size < w1.heap.size := (by have := hb1.size; simp at this; omega); have m0 : w1.cell? ⟨w.heap.size, 0, none⟩ = some (.int .i64 a) := (hb1.cell (p := ⟨w.heap.size, 0, none⟩) (by simp)).trans (by simp); have m1 : w1.cell? ⟨w.heap.size, 1, none⟩ = some (.int .i64 b) := (hb1.cell (p := ⟨w.heap.size, 1, none⟩) (by simp)).trans (by simp); have HB1 := Lib.hid (show Below w.heap.size w w1 from bel_call ((Below.refl _ _).alloc (Nat.le_refl _) _) hb1); clear hb1)
      | (go_at_call 73; refine (digitsOf_any _ _ HA.out.digits (by omega)).mono ?_; rintro e w2 ⟨g, c, rfl, hgg, hC, hb2⟩; have n0 : w2.cell? ⟨w.heap.size, 0, none⟩ = some (.int .i64 a) := (hb2.cell (p := ⟨w.heap.size, 0, none⟩) z1).trans m0; have n1 : w2.cell? ⟨w.heap.size, 1, none⟩ = some (.int .i64 b) := (hb2.cell (p := ⟨w.heap.size, 1, none⟩) z1).trans m1; have HB2 := Lib.hid (show Below w.heap.size w w2 from bel_call HB1.out hb2); have HC := Lib.hid hC; have z2 : w.heap.size < w2.heap.size := Nat.lt_of_lt_of_le z1 hb2.size; have zg : w.heap.size < g := Nat.lt_of_lt_of_le z1 hgg; clear hb2 hC m0 m1))
    have HP0 : Hid ((psL b (dg s) s.size).getD 0 0 = (dg s).getD 0 0) := Lib.hid (by
      have hl := HA.out.low 0 HA.out.n1
      rw [psL_at HA.out.n1, psA, psA, Int.zero_add]
      exact Int.emod_eq_of_lt hl.1 hl.2)
    have hn1 := HA.out.n1
    go_loopw [7] (fun i wr => ∃ k : Nat, k + 1 ≤ s.size ∧ i = .int .i64 (k + 1 : Nat) ∧ Cells wr g s.size (fun j => if j < k + 1 then digF (psL b (dg s) s.size) j else digF (dg s) j) ∧ wr.cell? ⟨w.heap.size, 0, none⟩ = some (.int .i64 a) ∧ wr.cell? ⟨w.heap.size, 1, none⟩ = some (.int .i64 b) ∧ w.heap.size < wr.heap.size ∧ Below w.heap.size w wr) (fun i _ => s.size - (intOf i).toNat)
    case atStart =>
      refine ⟨0, hn1, rfl, HC.out.congr (fun j hj => ?_), n0, n1, z2, HB2.out⟩
      split
      · obtain rfl : j = 0 := by omega
        unfold digF; rw [HP0.out]
      · rfl
    case round =>
      clear n0 n1 z2
      obtain ⟨k, hk, rfl, hCr, c0, c1, hz, hB⟩ := hrel
      have HCR := Lib.hid hCr
      clear hCr
      by_cases hlt : k + 1 < s.size
      · have hx : wr.cell? ⟨g, k + 1, none⟩ = some (.int .i64 ((dg s).getD (k + 1) 0)) := by rw [HCR.out.cell hlt, if_neg (by omega)]; rfl
        have hy : wr.cell? ⟨g, k, none⟩ = some (.int .i64 (psA b (dg s) (k + 1))) := by rw [HCR.out.cell (show k < s.size by omega), if_pos (by omega)]; unfold digF; rw [psL_at (by omega)]
        have hfz : wr.frozen? ⟨g, k + 1, none⟩ = false := HCR.out.frozen hlt
        obtain ⟨d1, d2⟩ := HA.out.low (k + 1) hlt
        have hp := psA_bd b2 (dg s) (k + 1)
        have HV : Hid (digF (psL b (dg s) s.size) (k + 1) = .int .i64 (addI b ((dg s).getD (k + 1) 0) (psA b (dg s) (k + 1)))) := Lib.hid (by
          unfold digF addI; rw [psL_at hlt, psA, Int.add_comm])
        generalize (dg s).getD (k + 1) 0 = d at hx d1 d2 HV
        generalize psA b (dg s) (k + 1) = p at hy hp HV
        obtain ⟨hp0, hpb⟩ := hp
        have hk0 : (0 : Int) ≤ (k : Int) + 1 := by omega
        have hk1 : k < s.size := by omega
        have hw1 : IntKind.i64.wrap (k : Int) = (k : Int) := IntWalk.i64_in _ (by omega)
        go_wp2_with fail
        go_region_with (go_at_call 78; refine (sum_any _ _ _ _ _ b2 b10 (by omega) (by omega) (by omega)).mono ?_; rintro e w3 ⟨rfl, hb3⟩; have h3 := Lib.hid (HCR.out.drew.call hb3); have p1 := h3.out.cell hlt; have p2 := h3.out.frozen hlt)
        all_goals
          have HB3 := Lib.hid (below_undrew hb3)
          have HW := Lib.hid ((h3.out.set_ hlt (.int .i64 (addI b d p))).congr (f' := fun j => if j < k + 1 + 1 then digF (psL b (dg s) s.size) j else digF (dg s) j) (fun j hj => by
            by_cases e : j = k + 1
            · rw [if_pos e, if_pos (by omega), e, HV.out]
            · rw [if_neg e]
              by_cases e2 : j < k + 1
              · rw [if_pos e2, if_pos (by omega)]
              · rw [if_neg e2, if_neg (by omega)]))
          have d0 : (w3.setCell ⟨g, k + 1, none⟩ (.int .i64 (addI b d p))).cell? ⟨w.heap.size, 0, none⟩ = some (.int .i64 a) := by rw [World.cell?_setCell_far _ _ _ _ (by simp; omega), HB3.out.cell (p := ⟨w.heap.size, 0, none⟩) hz]; exact c0
          have d3 : (w3.setCell ⟨g, k + 1, none⟩ (.int .i64 (addI b d p))).cell? ⟨w.heap.size, 1, none⟩ = some (.int .i64 b) := by rw [World.cell?_setCell_far _ _ _ _ (by simp; omega), HB3.out.cell (p := ⟨w.heap.size, 1, none⟩) hz]; exact c1
          have HBW := Lib.hid ((bel_call hB HB3.out).setCell (p := ⟨g, k + 1, none⟩) (Nat.le_of_lt zg) (.int .i64 (addI b d p)))
          have hzw : w.heap.size < (w3.setCell ⟨g, k + 1, none⟩ (.int .i64 (addI b d p))).heap.size := by rw [size_setCell]; have := HB3.out.size; omega
          go_wp2_with fail
          go_roundw
          case rel => exact ⟨k + 1, by omega, by go_num, HW.out, d0, d3, hzw, HBW.out⟩
          case measure => simp [intOf]; omega
      · have HF := Lib.hid (HCR.out.congr (f' := digF (psL b (dg s) s.size)) (fun j hj => by rw [if_pos (by omega)]))
        go_wp2_with fail
        go_region_with (first
          | (go_at_call 68; refine (codeOf_n (n := s.size) _ _ (psL b (dg s) s.size) (psL_length _ _ _) _ HF.out.drew HPD.out (by omega)).mono ?_; rw [HTT.out]; rintro e w5 ⟨rfl, hb5⟩; have HB5 := Lib.hid (bel_call hB (below_undrew hb5)); have e0 := ((below_undrew hb5).cell (p := ⟨w.heap.size, 0, none⟩) hz).trans c0; have e1 := ((below_undrew hb5).cell (p := ⟨w.heap.size, 1, none⟩) hz).trans c1)
          | (go_at_call 79; refine (number_any _ _ _ _ HTS.out).mono ?_; rw [HN.out, HT.out]; rintro e w6 ⟨rfl, hb6⟩; have HB6 := Lib.hid (bel_call HB5.out hb6)))
        all_goals
          go_wp2_with fail
          go_ret2
          exact ⟨by rw [HG.out]; first | done | rfl, HB6.out⟩
  · have HG := Lib.hid (Bool.eq_false_iff.2 hg)
    clear hg
    go_enter Try.func27, Try.ntmps27
    go_wp2_with (first | (go_at_call 71; refine (hasCode_any _ _ _ _ HS.out).mono ?_; rw [ask_eq, HG.out]; rintro e w1 ⟨rfl, hb⟩; obtain ⟨hc, hf, hz⟩ := bcell hb; have hz0 : w.heap.size < w1.heap.size := by (try simp at hz); omega))
    go_ret2
    refine ⟨by rw [HG.out, rrZ_no HG.out]; first | done | rfl, ?_⟩
    (repeat (first | assumption | exact Below.refl _ _ | (refine Below.alloc ?_ (by first | omega | (simp; done) | (simp; omega)) _) | (refine Below.setCell ?_ (by first | omega | (simp; done) | (simp; omega)) _) | refine bel_drewN ?_ _ | refine bel_drew ?_ | (refine bel_call ?_ (by assumption))))

end Go.Proofs.Ytpbnleohbegccaa
