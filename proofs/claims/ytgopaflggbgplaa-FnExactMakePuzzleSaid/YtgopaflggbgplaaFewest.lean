/- The distance of two codes, as both programs reckon it. No conditions. -/
import Derived.Test.YtgopaflggbgplaaFar
namespace Go.Proofs.Ytgopaflggbgplaa
open Go.ChangeShapes Go.WideShapes Go.ChangeAt Go.RowKit Go.Joins

/-- The sum of the first numbers of a list. -/
def sumAt (ds : List Int) : Nat → Int
  | 0 => 0
  | k + 1 => sumAt ds k + ds.getD k 0

theorem sumAt_bd {ds : List Int} {n : Nat} (h : ∀ j, j < n → 0 ≤ ds.getD j 0 ∧ ds.getD j 0 ≤ 10) (k : Nat) : k ≤ n → 0 ≤ sumAt ds k ∧ sumAt ds k ≤ 10 * k := by
  induction k with
  | zero => intro _; simp [sumAt]
  | succ k ih =>
    intro hk
    have i := ih (by omega)
    have d := h k (by omega)
    rw [sumAt]
    omega

def distL (b : Int) (s t : ByteArray) : List Int := (dg s).zipWith (farI b) (dg t)

theorem distL_at {a b : Int} {s t : ByteArray} (h : Asked a b s) (ht : Asked a b t) {k : Nat} (hk : k < s.size) : (distL b s t).getD k 0 = farI b ((dg s).getD k 0) ((dg t).getD k 0) := by
  have h1 := h.size
  have h2 := ht.size
  exact zip_at _ _ _ (by rw [dg_length]; exact hk) (by rw [dg_length]; omega)

theorem distL_bd {a b : Int} {s t : ByteArray} (h : Asked a b s) (ht : Asked a b t) (k : Nat) (hk : k < s.size) : 0 ≤ (distL b s t).getD k 0 ∧ (distL b s t).getD k 0 ≤ 10 := by
  rw [distL_at h ht hk]
  have := farI_bd h.b2 ((dg s).getD k 0) ((dg t).getD k 0)
  have := h.b10
  omega

def fewZ (a b : Int) (s t : ByteArray) : Int := if twoB a b s t then sumAt (distL b s t) s.size else 0

theorem fewZ_yes {a b : Int} {s t : ByteArray} (h : twoB a b s t = true) : fewZ a b s t = sumAt (distL b s t) s.size := by unfold fewZ; rw [h]; rfl

theorem fewZ_no {a b : Int} {s t : ByteArray} (h : twoB a b s t = false) : fewZ a b s t = 0 := by unfold fewZ; rw [h]; rfl

set_option maxHeartbeats 1000000 in
theorem whDistance_any (a b : Int) (s t : ByteArray) (w : World) (h : twoB a b s t = true) :
    Calls Try.prog 76 #[.agg #[.int .i64 a, .int .i64 b], .string s, .string t] w fun e w' => e = .returned (.int .i64 (fewZ a b s t)) ∧ Below w.heap.size w w' := by
  have HG := Lib.hid h
  have HA := Lib.hid (asked (two_yes h).1)
  have HT := Lib.hid (asked (two_yes h).2)
  obtain ⟨n6, b2, b10⟩ : s.size ≤ 6 ∧ 2 ≤ b ∧ b ≤ 10 := ⟨HA.out.n6, HA.out.b2, HA.out.b10⟩
  have n6' := HT.out.n6
  clear h
  go_enter Try.func76, Try.ntmps76
  go_wp2_with (first | (go_at_call_of 73 s; refine (whDigits_any _ _ HA.out.digits (by omega) HA.out.n1).mono ?_; rintro e w1 ⟨g1, c1, rfl, hg1, hC1, hb1⟩) | (go_at_call_of 73 t; refine (whDigits_any _ _ HT.out.digits (by omega) HT.out.n1).mono ?_; rintro e w2 ⟨g2, c2, rfl, hg2, hC2, hb2⟩))
  have hB : Below w.heap.size w w2 := by (repeat (first | assumption | exact Below.refl _ _ | (refine Below.alloc ?_ (by first | omega | (simp; done) | (simp; omega)) _) | (refine Below.setCell ?_ (by first | omega | (simp; done) | (simp; omega)) _) | refine bel_drewN ?_ _ | refine bel_drew ?_ | (refine bel_call ?_ (by assumption))))
  have hz : w.heap.size < g1 ∧ g1 < w1.heap.size ∧ w1.heap.size ≤ g2 := by have := hC1.lt; simp at hg1; exact ⟨by omega, this, hg2⟩
  obtain ⟨z1, z2, z3⟩ := hz
  have HC1 := Lib.hid (hC1.call hb2)
  have HC2 := Lib.hid hC2
  have l0 : w2.cell? ⟨w.heap.size, 0, none⟩ = some (.int .i64 a) := by rw [hb2.cell (p := ⟨w.heap.size, 0, none⟩) (by show w.heap.size < w1.heap.size; omega), hb1.cell (p := ⟨w.heap.size, 0, none⟩) (by simp)]; simp
  have l1 : w2.cell? ⟨w.heap.size, 1, none⟩ = some (.int .i64 b) := by rw [hb2.cell (p := ⟨w.heap.size, 1, none⟩) (by show w.heap.size < w1.heap.size; omega), hb1.cell (p := ⟨w.heap.size, 1, none⟩) (by simp)]; simp
  have z4 : w.heap.size < w2.heap.size := by have := HC1.out.lt; omega
  have hst : s.size ≤ t.size ∧ t.size ≤ s.size := by have h1 := HA.out.size; have h2 := HT.out.size; omega
  obtain ⟨st1, st2⟩ := hst
  clear hC1 hC2 hb1 hb2 hg1 hg2
  go_loopw [9, 19] (fun v i wr => ∃ k : Nat, k ≤ s.size ∧ i = .int .i64 k ∧ v = .int .i64 (sumAt (distL b s t) k) ∧ Cells wr g1 s.size (digF (dg s)) ∧ Cells wr g2 s.size (digF (dg t)) ∧ wr.cell? ⟨w.heap.size, 0, none⟩ = some (.int .i64 a) ∧ wr.cell? ⟨w.heap.size, 1, none⟩ = some (.int .i64 b) ∧ w.heap.size < wr.heap.size ∧ Below w.heap.size w wr) (fun _ i _ => s.size - (intOf i).toNat)
  case atStart => exact ⟨0, by omega, rfl, rfl, HC1.out, HC2.out.sub st1, l0, l1, z4, hB⟩
  case round =>
    clear l0 l1 z4 hB
    obtain ⟨k, hk, rfl, rfl, hC1, hC2, l0, l1, z4, hB⟩ := hrel
    have H1 := Lib.hid hC1
    have H2 := Lib.hid hC2
    clear hC1 hC2
    by_cases hlt : k < s.size
    · have hlt' : k < t.size := by omega
      have o1 : wr.cell? ⟨g1, k, none⟩ = some (.int .i64 ((dg s).getD k 0)) := H1.out.cell hlt
      have o2 : wr.cell? ⟨g2, k, none⟩ = some (.int .i64 ((dg t).getD k 0)) := H2.out.cell hlt
      obtain ⟨d1, d2⟩ := HA.out.low k hlt
      obtain ⟨d3, d4⟩ := HT.out.low k hlt'
      obtain ⟨q1, q2⟩ := sumAt_bd (distL_bd HA.out HT.out) k hk
      have HV : Hid (sumAt (distL b s t) (k + 1) = sumAt (distL b s t) k + lstI (subI b ((dg t).getD k 0) ((dg s).getD k 0)) (subI b ((dg s).getD k 0) ((dg t).getD k 0))) := Lib.hid (by rw [sumAt, distL_at HA.out HT.out hlt]; rfl)
      have hfd := farI_bd b2 ((dg s).getD k 0) ((dg t).getD k 0)
      unfold farI at hfd
      obtain ⟨f1, f2⟩ := hfd
      generalize (dg s).getD k 0 = x at o1 d1 d2 HV f1 f2
      generalize (dg t).getD k 0 = y at o2 d3 d4 HV f1 f2
      generalize hq : sumAt (distL b s t) k = q at q1 q2 HV
      clear hq
      go_wp2_with fail
      go_region_with (go_at_call 83; refine (whFar_any _ _ _ _ _ (by omega) (by omega) (by omega) (by omega)).mono ?_; rintro e w3 ⟨rfl, hb3⟩)
      all_goals
        have HR := Lib.hid (below_undrew hb3)
        clear hb3
        go_wp2_with (go_at_call 81; refine (l1Least_any _ _ _).mono ?_; rintro e w4 ⟨rfl, rfl⟩)
        go_roundw
        case rel => exact ⟨k + 1, by omega, by go_num, by rw [HV.out], H1.out.call HR.out, H2.out.call HR.out, by rw [HR.out.cell (p := ⟨w.heap.size, 0, none⟩) z4, l0], by rw [HR.out.cell (p := ⟨w.heap.size, 1, none⟩) z4, l1], Nat.lt_of_lt_of_le z4 HR.out.size, bel_call hB HR.out⟩
        case measure => simp [intOf]; omega
    · go_wp2
      go_ret
      exact ⟨ret_int (by rw [fewZ_yes HG.out, show k = s.size by omega]), hB⟩

theorem fewest_any (a b : Int) (s t : ByteArray) (w : World) (hs : s.size ≤ maxLen) (ht : t.size ≤ maxLen) :
    Calls Try.prog 63 #[.agg #[.int .i64 a, .int .i64 b], .string s, .string t] w fun e w' => e = .returned (.tuple #[.int .i64 (fewZ a b s t), .bool (twoB a b s t)]) ∧ Below w.heap.size w w' := by
  have HS := Lib.hid hs
  have HT := Lib.hid ht
  clear hs ht
  by_cases h1 : askB a b s = true
  · have H1 := Lib.hid h1
    by_cases h2 : askB a b t = true
    · have H2 := Lib.hid h2
      have HG : Hid (twoB a b s t = true) := Lib.hid (by unfold twoB; rw [h1, h2]; rfl)
      have HA := Lib.hid (asked h1)
      have HT' := Lib.hid (asked h2)
      have n6 := (asked h1).n6
      clear h1 h2
      go_enter Try.func63, Try.ntmps63
      go_wp2_with (first | (go_at_call_of 42 s; refine (hasCode_any _ _ _ _ HS.out).mono ?_; rw [ask_eq, H1.out]; rintro e w1 ⟨rfl, hb⟩; obtain ⟨hc, hf, hz⟩ := bcell hb; have hz0 : w.heap.size < w1.heap.size := by (try simp at hz); omega) | (go_at_call_of 42 t; refine (hasCode_any _ _ _ _ HT.out).mono ?_; rw [ask_eq, H2.out]; rintro e w1 ⟨rfl, hb⟩; obtain ⟨hc, hf, hz⟩ := bcell hb; have hz0 : w.heap.size < w1.heap.size := by (try simp at hz); omega) | (go_at_call 78; refine (pairDist_any _ _ _ _ _ H1.out H2.out).mono ?_; rintro e w2 ⟨g, c, rfl, hgg, hC, hb2⟩))
      have hB : Below w.heap.size w w2 := by (repeat (first | assumption | exact Below.refl _ _ | (refine Below.alloc ?_ (by first | omega | (simp; done) | (simp; omega)) _) | (refine Below.setCell ?_ (by first | omega | (simp; done) | (simp; omega)) _) | refine bel_drewN ?_ _ | refine bel_drew ?_ | (refine bel_call ?_ (by assumption))))
      have HC := Lib.hid hC
      clear hC hb2 hgg
      go_loop [8, 26] (fun v i => ∃ k : Nat, k ≤ s.size ∧ i = .int .i64 k ∧ v = .int .i64 (sumAt (distL b s t) k)) (fun _ i => s.size - (intOf i).toNat)
      case atStart => exact ⟨0, by omega, rfl, rfl⟩
      case round =>
        obtain ⟨k, hk, rfl, rfl⟩ := hrel
        by_cases hlt : k < s.size
        · have o1 : w2.cell? ⟨g, k, none⟩ = some (.int .i64 ((distL b s t).getD k 0)) := HC.out.cell hlt
          obtain ⟨q1, q2⟩ := sumAt_bd (distL_bd HA.out HT'.out) k hk
          obtain ⟨d1, d2⟩ := distL_bd HA.out HT'.out k hlt
          have HV : Hid (sumAt (distL b s t) (k + 1) = sumAt (distL b s t) k + (distL b s t).getD k 0) := Lib.hid rfl
          generalize (distL b s t).getD k 0 = d at o1 d1 d2 HV
          generalize hq : sumAt (distL b s t) k = q at q1 q2 HV
          clear hq
          go_wp2
          go_round
          case rel => exact ⟨k + 1, by omega, by go_num, by rw [HV.out]⟩
          case measure => simp [intOf]; omega
        · go_wp2
          go_ret2
          exact ⟨by rw [HG.out, fewZ_yes HG.out, show k = s.size by omega]; rfl, hB⟩
    · have H2 := Lib.hid (Bool.eq_false_iff.2 h2)
      have HG : Hid (twoB a b s t = false) := Lib.hid (by unfold twoB; rw [h1, H2.out]; rfl)
      clear h1 h2
      go_enter Try.func63, Try.ntmps63
      go_wp2_with (first | (go_at_call_of 42 s; refine (hasCode_any _ _ _ _ HS.out).mono ?_; rw [ask_eq, H1.out]; rintro e w1 ⟨rfl, hb⟩; obtain ⟨hc, hf, hz⟩ := bcell hb; have hz0 : w.heap.size < w1.heap.size := by (try simp at hz); omega) | (go_at_call_of 42 t; refine (hasCode_any _ _ _ _ HT.out).mono ?_; rw [ask_eq, H2.out]; rintro e w1 ⟨rfl, hb⟩; obtain ⟨hc, hf, hz⟩ := bcell hb; have hz0 : w.heap.size < w1.heap.size := by (try simp at hz); omega))
      go_ret2
      refine ⟨by rw [HG.out, fewZ_no HG.out]; rfl, ?_⟩
      (repeat (first | assumption | exact Below.refl _ _ | (refine Below.alloc ?_ (by first | omega | (simp; done) | (simp; omega)) _) | (refine Below.setCell ?_ (by first | omega | (simp; done) | (simp; omega)) _) | refine bel_drewN ?_ _ | refine bel_drew ?_ | (refine bel_call ?_ (by assumption))))
  · have H1 := Lib.hid (Bool.eq_false_iff.2 h1)
    have HG : Hid (twoB a b s t = false) := Lib.hid (by unfold twoB; rw [H1.out]; rfl)
    clear h1
    go_enter Try.func63, Try.ntmps63
    go_wp2_with (go_at_call_of 42 s; refine (hasCode_any _ _ _ _ HS.out).mono ?_; rw [ask_eq, H1.out]; rintro e w1 ⟨rfl, hb⟩; obtain ⟨hc, hf, hz⟩ := bcell hb; have hz0 : w.heap.size < w1.heap.size := by (try simp at hz); omega)
    go_ret2
    refine ⟨by rw [HG.out, fewZ_no HG.out]; rfl, ?_⟩
    (repeat (first | assumption | exact Below.refl _ _ | (refine Below.alloc ?_ (by first | omega | (simp; done) | (simp; omega)) _) | (refine Below.setCell ?_ (by first | omega | (simp; done) | (simp; omega)) _) | refine bel_drewN ?_ _ | refine bel_drew ?_ | (refine bel_call ?_ (by assumption))))

end Go.Proofs.Ytgopaflggbgplaa
