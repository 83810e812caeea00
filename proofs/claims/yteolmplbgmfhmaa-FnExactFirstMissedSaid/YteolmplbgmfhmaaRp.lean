/- The first code that a text doesn't open: both programs' answers. No conditions, whatever the library's own variable holds. -/
import Derived.Test.YteolmplbgmfhmaaRo
namespace Go.Proofs.Yteolmplbgmfhmaa
open Go.ChangeShapes Go.WideShapes Go.ChangeAt Go.RowKit Go.Joins

/-- A text of digits misses a code. -/
def fmB (a b : Int) (s : ByteArray) : Bool := txB a b s && !(missL a b s).isEmpty

def fmT (a b : Int) (s : ByteArray) : ByteArray := if txB a b s then (missT a b s).headD ⟨#[]⟩ else ⟨#[]⟩

theorem fm_no {a b : Int} {s : ByteArray} (h : txB a b s = false) : fmB a b s = false ∧ fmT a b s = ⟨#[]⟩ := by
  refine ⟨by unfold fmB; rw [h]; rfl, by unfold fmT; rw [h]; rfl⟩

theorem fm_none {a b : Int} {s : ByteArray} (h : missL a b s = []) : fmB a b s = false ∧ fmT a b s = ⟨#[]⟩ := by
  refine ⟨by unfold fmB; rw [h]; simp, ?_⟩
  unfold fmT missT
  rw [h]
  split <;> rfl

theorem fm_some {a b : Int} {s : ByteArray} {k : Nat} {L : List Nat} (ht : txB a b s = true) (h : missL a b s = k :: L) : fmB a b s = true ∧ fmT a b s = cdN a b k := by
  refine ⟨by unfold fmB; rw [ht, h]; rfl, ?_⟩
  unfold fmT missT
  rw [h, ht]
  rfl

theorem first_miss {a b : Int} {s : ByteArray} {k : Nat} (hk : k < cnN a b) (h : metB a b s k = false) (hb : ∀ i, i < k → metB a b s i = true) : ∃ L, missL a b s = k :: L := by
  unfold missL
  have h0 : (List.range k).filter (fun i => !metB a b s i) = [] := by
    rw [List.filter_eq_nil_iff]
    intro i hi
    rw [hb i (List.mem_range.1 hi)]
    decide
  obtain ⟨m, hm⟩ : ∃ m, cnN a b = k + 1 + m := ⟨cnN a b - (k + 1), by omega⟩
  rw [hm, List.range_add, List.filter_append, List.range_succ, List.filter_append, h0, List.nil_append]
  exact ⟨_, by rw [List.filter_cons, h]; rfl⟩

set_option maxRecDepth 100000 in
set_option maxHeartbeats 4000000 in
theorem firstMissed_any (a b : Int) (s : ByteArray) (w : World) (hs : s.size ≤ maxLen) (hm : Mx w) :
    Calls Try.prog 34 #[.agg #[.int .i64 a, .int .i64 b], .string s] w fun e w' => e = .returned (.tuple #[.string (fmT a b s), .bool (fmB a b s)]) ∧ Below w.heap.size w w' := by
  have HS := Lib.hid hs
  have hml := hm.lt
  have HM := Lib.hid hm
  clear hm hs
  by_cases ht : txB a b s = true
  · obtain ⟨n, rfl⟩ := tx_nat ht
    have HT := Lib.hid ht
    have hx := tx_of ht
    have HR := Lib.hid hx.ri
    have hz5 := hx.size
    clear ht hx
    rcases hL : missL n b s with _ | ⟨k, L⟩
    · have HF := Lib.hid (fm_none hL)
      have HL : Hid ((missL n b s).length = 0) := Lib.hid (by rw [hL]; rfl)
      clear hL
      go_enter Try.func34, Try.ntmps34
      go_wp2_with (first | (go_at_call 58; refine (hasText_any _ _ _ _ HS.out).mono ?_; rw [HT.out]; rintro e w1 ⟨rfl, hb⟩; have HB := Lib.hid (show Below w.heap.size w w1 from bel_call ((Below.refl _ _).alloc (Nat.le_refl _) _) hb); have m0 : w1.cell? ⟨w.heap.size, 0, none⟩ = some (.int .i64 n) := (by rw [hb.cell (p := ⟨w.heap.size, 0, none⟩) (by simp)]; simp); have m1 : w1.cell? ⟨w.heap.size, 1, none⟩ = some (.int .i64 b) := (by rw [hb.cell (p := ⟨w.heap.size, 1, none⟩) (by simp)]; simp); clear hb) | (go_at_call 60; refine (missedIn_any _ _ _ _ HR.out (by omega) (HM.out.below HB.out hml)).mono ?_; rw [HL.out]; rintro e w4 ⟨A, c4, rfl, _, _, hb4⟩; have HB4 := Lib.hid (bel_call HB.out hb4); clear hb4))
      go_ret2
      exact ⟨by rw [HF.out.1, HF.out.2]; rfl, HB4.out⟩
    · have HF := Lib.hid (fm_some HT.out hL)
      have HMT : Hid (missT n b s = cdN n b k :: L.map (cdN n b)) := Lib.hid (by unfold missT; rw [hL]; rfl)
      obtain ⟨M, HL⟩ : ∃ M, Hid ((missL n b s).length = M + 1) := ⟨L.length, Lib.hid (by rw [hL]; rfl)⟩
      have hle := miss_le n b s
      have hcn := cn_le HR.out
      rw [HL.out] at hle
      clear hL
      go_enter Try.func34, Try.ntmps34
      go_wp2_with (first | (go_at_call 58; refine (hasText_any _ _ _ _ HS.out).mono ?_; rw [HT.out]; rintro e w1 ⟨rfl, hb⟩; have HB := Lib.hid (show Below w.heap.size w w1 from bel_call ((Below.refl _ _).alloc (Nat.le_refl _) _) hb); have m0 : w1.cell? ⟨w.heap.size, 0, none⟩ = some (.int .i64 n) := (by rw [hb.cell (p := ⟨w.heap.size, 0, none⟩) (by simp)]; simp); have m1 : w1.cell? ⟨w.heap.size, 1, none⟩ = some (.int .i64 b) := (by rw [hb.cell (p := ⟨w.heap.size, 1, none⟩) (by simp)]; simp); clear hb) | (go_at_call 60; refine (missedIn_any _ _ _ _ HR.out (by omega) (HM.out.below HB.out hml)).mono ?_; rw [HL.out]; rintro e w4 ⟨A, c4, rfl, hO4, _, hb4⟩; have HB4 := Lib.hid (bel_call HB.out hb4); obtain ⟨g, rfl, _, hC4⟩ := hO4.lt (show 0 < M + 1 by omega); have o4 := hC4.cell (show 0 < M + 1 by omega); unfold strF at o4; rw [HMT.out, List.getD_cons_zero] at o4; clear hb4 hC4 hO4))
      go_ret2
      exact ⟨by rw [HF.out.1, HF.out.2]; rfl, HB4.out⟩
  · have HT := Lib.hid (Bool.eq_false_iff.2 ht)
    clear ht
    go_enter Try.func34, Try.ntmps34
    go_wp2_with (go_at_call 58; refine (hasText_any _ _ _ _ HS.out).mono ?_; rw [HT.out]; rintro e w1 ⟨rfl, hb⟩; obtain ⟨hc, hf, hz⟩ := bcell hb; have hz0 : w.heap.size < w1.heap.size := by (try simp at hz); omega)
    go_ret2
    refine ⟨by rw [(fm_no HT.out).1, (fm_no HT.out).2]; rfl, ?_⟩
    (repeat (first | assumption | exact Below.refl _ _ | (refine Below.alloc ?_ (by first | omega | (simp; done) | (simp; omega)) _) | (refine Below.setCell ?_ (by first | omega | (simp; done) | (simp; omega)) _) | refine bel_drewN ?_ _ | refine bel_drew ?_ | (refine bel_call ?_ (by assumption))))

set_option maxRecDepth 100000 in
set_option maxHeartbeats 4000000 in
theorem specFirstMissed_any (a b : Int) (s : ByteArray) (w : World) (hs : s.size ≤ maxLen) :
    Calls Try.prog 33 #[.agg #[.int .i64 a, .int .i64 b], .string s] w fun e w' => e = .returned (.tuple #[.string (fmT a b s), .bool (fmB a b s)]) ∧ Below w.heap.size w w' := by
  have HS := Lib.hid hs
  clear hs
  by_cases ht : txB a b s = true
  · obtain ⟨n, rfl⟩ := tx_nat ht
    have HT := Lib.hid ht
    have hx := tx_of ht
    have HR := Lib.hid hx.ri
    have HG := Lib.hid (riB_good hx.ri)
    have hz5 := hx.size
    have hcn := cn_le hx.ri
    have hcc := cnN_cast (riB_good hx.ri)
    rw [Int.toNat_natCast] at hcc
    have HASK : Hid (∀ t ∈ codesT (rdT false n s) n, askB n b t = true) := Lib.hid (fun t ht => by
      obtain ⟨k, hk, rfl⟩ := codesT_mem.1 ht
      exact allD_ask HG.out hx.digits (by have hk' : k < s.size + 1 - n := hk; omega))
    have HMET : Hid (∀ i, i < cnN n b → seenB n b (codesT s n) i = metB n b s i) := Lib.hid (fun i hi => seen_met HG.out hx.digits hi)
    have HOF := Lib.hid (fun i (hi : i < cnN n b) => (cd_ofZ HG.out hi : ofZ n b (i : Int) = cdN n b i))
    obtain ⟨C, hC⟩ : ∃ C, cnN n b = C := ⟨_, rfl⟩
    rw [hC] at hcn HMET HOF hcc
    have HC := Lib.hid hC
    have HCC := Lib.hid hcc
    clear ht hx hC hcc
    go_enter Try.func33, Try.ntmps33
    go_wp2_with (go_at_call 56; refine (riAsked_any _ _ _ _ HS.out).mono ?_; rw [HT.out]; rintro e w2 ⟨rfl, hb⟩; have z2 : w.heap.size < w2.heap.size := (by have := hb.size; simp at this; omega); have p0 : w2.cell? ⟨w.heap.size, 0, none⟩ = some (.int .i64 n) := (by rw [hb.cell (p := ⟨w.heap.size, 0, none⟩) (by simp)]; simp); have p1 : w2.cell? ⟨w.heap.size, 1, none⟩ = some (.int .i64 b) := (by rw [hb.cell (p := ⟨w.heap.size, 1, none⟩) (by simp)]; simp); have HB2 := Lib.hid (show Below w.heap.size w w2 from bel_call ((Below.refl _ _).alloc (Nat.le_refl _) _) hb); clear hb)
    go_region_with (first | (go_at_call 41; refine (riCodes_any _ _ _ false _ HG.out (by omega) (fun h => by cases h)).mono ?_; rintro e w3 ⟨A, c3, rfl, hO3, hb3⟩; have HO3 := Lib.hid hO3; have HB3 := Lib.hid (show Below w.heap.size w w3 from by first | exact bel_call HB2.out hb3 | exact bel_call (bel_drew HB2.out) hb3 | exact bel_call (bel_drewN HB2.out _) hb3); have q0 : w3.cell? ⟨w.heap.size, 0, none⟩ = some (.int .i64 n) := (by rw [hb3.cell (p := ⟨w.heap.size, 0, none⟩) z2]; exact p0); have q1 : w3.cell? ⟨w.heap.size, 1, none⟩ = some (.int .i64 b) := (by rw [hb3.cell (p := ⟨w.heap.size, 1, none⟩) z2]; exact p1); have z3 : w.heap.size < w3.heap.size := (by have := hb3.size; simp at this; omega); clear hO3 hb3) | (go_at_call 57; refine (riSeen_any _ _ _ _ _ _ _ HR.out HO3.out HASK.out).mono ?_; rw [HC.out]; rintro e w4 ⟨g, c4, rfl, hC4, hg4, hb4⟩; have HC4 := Lib.hid hC4; have HB4 := Lib.hid (bel_call HB3.out hb4); have r0 : w4.cell? ⟨w.heap.size, 0, none⟩ = some (.int .i64 n) := (by rw [hb4.cell (p := ⟨w.heap.size, 0, none⟩) z3]; exact q0); have r1 : w4.cell? ⟨w.heap.size, 1, none⟩ = some (.int .i64 b) := (by rw [hb4.cell (p := ⟨w.heap.size, 1, none⟩) z3]; exact q1); have z4 : w.heap.size < w4.heap.size := (by have := hb4.size; omega); clear hC4 hb4))
    all_goals
      go_wp2
      go_simp
      go_loopw [5, 18] (fun v i wr => ∃ k : Nat, k ≤ C ∧ i = .int .i64 k ∧ (∀ j, j < k → metB n b s j = true) ∧ Cells wr g C (fun j => .bool (seenB n b (codesT s n) j)) ∧ wr.cell? ⟨w.heap.size, 0, none⟩ = some (.int .i64 n) ∧ wr.cell? ⟨w.heap.size, 1, none⟩ = some (.int .i64 b) ∧ Below w.heap.size w wr) (fun _ i _ => C - (intOf i).toNat)
      case atStart => exact ⟨0, by omega, rfl, fun j hj => by omega, HC4.out, r0, r1, HB4.out⟩
      case round =>
        clear r0 r1
        obtain ⟨k, hk, rfl, hall, hCr, c0, c1, hB⟩ := hrel
        have HA := Lib.hid hall
        have HCR := Lib.hid hCr
        clear hCr hall
        by_cases hlt : k < C
        · have hc := HCR.out.cell hlt
          rw [HMET.out k hlt] at hc
          by_cases hsee : metB n b s k = true
          · have HN : Hid (∀ j, j < k + 1 → metB n b s j = true) := Lib.hid (fun j hj => by
              by_cases e : j = k
              · rw [e]; exact hsee
              · exact HA.out j (by omega))
            rw [hsee] at hc
            clear hsee
            go_wp2
            go_roundw
            case rel => exact ⟨k + 1, by omega, by go_num, HN.out, HCR.out, c0, c1, hB⟩
            case measure => simp [intOf]; omega
          · have hsf := Bool.eq_false_iff.2 hsee
            have HFM : Hid (fmB n b s = true ∧ fmT n b s = cdN n b k) := Lib.hid (by
              obtain ⟨L, hL⟩ := first_miss (by rw [HC.out]; exact hlt) hsf HA.out
              exact fm_some HT.out hL)
            have HOK := Lib.hid (HOF.out k hlt)
            rw [hsf] at hc
            clear hsee hsf
            go_wp2_with (go_at_call 61; refine (whOf_any _ _ _ _ HG.out (by omega) (by omega)).mono ?_; rintro e w5 ⟨rfl, hb5⟩)
            go_ret2
            exact ⟨by rw [HFM.out.1, HFM.out.2]; rfl, bel_call hB hb5⟩
        · obtain rfl : k = C := by omega
          have HFM : Hid (fmB n b s = false ∧ fmT n b s = ⟨#[]⟩) := Lib.hid (fm_none (miss_nil.2 (fun i hi => HA.out i (by rw [HC.out] at hi; exact hi))))
          go_wp2
          go_ret2
          exact ⟨by rw [HFM.out.1, HFM.out.2]; rfl, hB⟩
  · have HT := Lib.hid (Bool.eq_false_iff.2 ht)
    clear ht
    go_enter Try.func33, Try.ntmps33
    go_wp2_with (go_at_call 56; refine (riAsked_any _ _ _ _ HS.out).mono ?_; rw [HT.out]; rintro e w1 ⟨rfl, hb⟩; obtain ⟨hc, hf, hz⟩ := bcell hb; have hz0 : w.heap.size < w1.heap.size := by (try simp at hz); omega)
    go_ret2
    refine ⟨by rw [(fm_no HT.out).1, (fm_no HT.out).2]; rfl, ?_⟩
    (repeat (first | assumption | exact Below.refl _ _ | (refine Below.alloc ?_ (by first | omega | (simp; done) | (simp; omega)) _) | (refine Below.setCell ?_ (by first | omega | (simp; done) | (simp; omega)) _) | refine bel_drewN ?_ _ | refine bel_drew ?_ | (refine bel_call ?_ (by assumption))))

end Go.Proofs.Yteolmplbgmfhmaa
