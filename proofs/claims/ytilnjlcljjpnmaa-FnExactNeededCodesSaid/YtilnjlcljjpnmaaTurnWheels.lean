/- Codes behind turns, as both programs make them. No conditions. -/
import Derived.Test.YtilnjlcljjpnmaaTurnDigits
import Derived.Test.YtilnjlcljjpnmaaOpenTurns
namespace Go.Proofs.Ytilnjlcljjpnmaa
open Go.ChangeShapes Go.WideShapes Go.ChangeAt Go.RowKit Go.Joins

theorem dg_textOf {ds : List Int} (h : Digits ds) : dg (textOf ds) = ds := by
  unfold dg textOf
  rw [strOfNums_data, List.map_map, List.map_map]
  refine (List.map_congr_left (fun d hd => ?_)).trans (List.map_id ds)
  obtain ⟨j, hj, rfl⟩ := List.getElem_of_mem hd
  have := h j hj
  simp only [List.getD, List.getElem?_eq_getElem hj, Option.getD_some] at this
  show ((UInt8.ofNat (48 + ds[j]).toNat).toNat : Int) - 48 = ds[j]
  rw [UInt8.toNat_ofNat']
  omega

theorem ask_of {a b : Int} {ds : List Int} (hg : goodB a b = true) (h : Good a b ds) : askB a b (textOf ds) = true := by
  have hg' := good_yes hg
  unfold askB isCodeB
  rw [hg, textOf_size]
  simp only [Bool.true_and, Bool.and_eq_true, decide_eq_true_eq, List.all_eq_true]
  refine ⟨h.size.symm, fun c hc => ?_⟩
  unfold textOf at hc
  rw [strOfNums_data] at hc
  simp only [List.map_map, List.mem_map] at hc
  obtain ⟨d, hd, rfl⟩ := hc
  obtain ⟨j, hj, rfl⟩ := List.getElem_of_mem hd
  have := h.low j hj
  simp only [List.getD, List.getElem?_eq_getElem hj, Option.getD_some] at this
  unfold digitB
  rw [decide_eq_true_eq]
  show 48 ≤ ((UInt8.ofNat (48 + ds[j]).toNat).toNat : Int) ∧ ((UInt8.ofNat (48 + ds[j]).toNat).toNat : Int) - 48 < b
  rw [UInt8.toNat_ofNat']
  omega

/-- The digits behind turns, one after the other. -/
def foldD (b : Int) (ds : List Int) (ts : List (Int × Int)) : List Int := ts.foldl (fun ds t => stepD b ds t.1 t.2) ds

theorem foldD_snoc (b : Int) (ds : List Int) {ts : List (Int × Int)} {k : Nat} (hk : k < ts.length) : foldD b ds (ts.take (k + 1)) = stepD b (foldD b ds (ts.take k)) (ts.getD k (0, 0)).1 (ts.getD k (0, 0)).2 := by
  unfold foldD
  rw [List.take_succ_eq_append_getElem hk, List.foldl_append]
  simp [List.getD, List.getElem?_eq_getElem hk]

theorem turns_all {a : Int} {ts : List (Int × Int)} (h : turnsB a ts = true) {k : Nat} (hk : k < ts.length) : turnB a (ts.getD k (0, 0)).1 (ts.getD k (0, 0)).2 = true := by
  unfold turnsB at h
  rw [Bool.and_eq_true, List.all_eq_true] at h
  have := h.2 ts[k] (List.getElem_mem _)
  simpa [List.getD, List.getElem?_eq_getElem hk] using this

theorem turns_few {a : Int} {ts : List (Int × Int)} (h : turnsB a ts = true) : ts.length ≤ 200 := by
  unfold turnsB at h
  rw [Bool.and_eq_true, decide_eq_true_eq] at h
  exact h.1

theorem foldD_good {a b : Int} {ds : List Int} {ts : List (Int × Int)} (h : Good a b ds) (hb : 2 ≤ b) (ht : turnsB a ts = true) (k : Nat) : k ≤ ts.length → Good a b (foldD b ds (ts.take k)) := by
  induction k with
  | zero => intro _; simpa [foldD] using h
  | succ k ih =>
    intro hk
    rw [foldD_snoc b ds (by omega)]
    exact (ih (by omega)).step hb (turns_all ht (by omega))

def okT (a b : Int) (s : ByteArray) (ts : List (Int × Int)) : Bool := askB a b s && turnsB a ts

def twZ (a b : Int) (s : ByteArray) (ts : List (Int × Int)) : ByteArray := if okT a b s ts then textOf (foldD b (dg s) ts) else ⟨#[]⟩

theorem twZ_yes {a b : Int} {s : ByteArray} {ts : List (Int × Int)} (h : okT a b s ts = true) : twZ a b s ts = textOf (foldD b (dg s) ts) := by unfold twZ; rw [h]; rfl

theorem twZ_no {a b : Int} {s : ByteArray} {ts : List (Int × Int)} (h : okT a b s ts = false) : twZ a b s ts = ⟨#[]⟩ := by unfold twZ; rw [h]; rfl

set_option maxHeartbeats 1000000 in
theorem turnWheels_any (a b : Int) (s : ByteArray) (ts : List (Int × Int)) (n g c : Nat) (w : World) (hs : s.size ≤ maxLen) (hl : ts.length = n) (hm : n ≤ 1048576) (hC : Cells w g (n * 2) (turnF ts)) :
    Calls Try.prog 136 #[.agg #[.int .i64 a, .int .i64 b], .string s, .slice (some ⟨g, 0, none⟩) n c] w fun e w' => e = .returned (.tuple #[.string (twZ a b s ts), .bool (okT a b s ts)]) ∧ Below w.heap.size w w' := by
  have HS := Lib.hid hs
  have HL := Lib.hid hl
  have HC := Lib.hid hC
  clear hs hl hC
  by_cases hg : askB a b s = true
  · have HG := Lib.hid hg
    by_cases ht : turnsB a ts = true
    · have HT := Lib.hid ht
      have HA := Lib.hid (asked hg)
      have HO : Hid (okT a b s ts = true) := Lib.hid (by unfold okT; rw [hg, ht]; rfl)
      have hm2 : n ≤ 200 := by rw [← HL.out]; exact turns_few ht
      obtain ⟨n6, b2, b10⟩ : s.size ≤ 6 ∧ 2 ≤ b ∧ b ≤ 10 := ⟨HA.out.n6, HA.out.b2, HA.out.b10⟩
      clear hg ht
      go_enter Try.func136, Try.ntmps136
      go_wp2_with (first | (go_at_call 62; refine (hasCode_any _ _ _ _ HS.out).mono ?_; rw [ask_eq, HG.out]; rintro e w1 ⟨rfl, hb⟩; obtain ⟨hc, hf, hz⟩ := bcell hb; have hz0 : w.heap.size < w1.heap.size := by (try simp at hz); omega))
      have HC1 := Lib.hid ((HC.out.alloc _).call hb)
      have l0 : w1.cell? ⟨w.heap.size, 0, none⟩ = some (.int .i64 a) := by rw [hc _ _ (by simp)]; simp
      have l1 : w1.cell? ⟨w.heap.size, 1, none⟩ = some (.int .i64 b) := by rw [hc _ _ (by simp)]; simp
      have hB : Below w.heap.size w w1 := by (repeat (first | assumption | exact Below.refl _ _ | (refine Below.alloc ?_ (by first | omega | (simp; done) | (simp; omega)) _) | (refine Below.setCell ?_ (by first | omega | (simp; done) | (simp; omega)) _) | refine bel_drewN ?_ _ | refine bel_drew ?_ | (refine bel_call ?_ (by assumption))))
      clear hc hf hz hb
      refine (hasTurns_any _ _ ts _ _ _ _ HL.out hm HC1.out).mono ?_
      rw [HT.out]
      rintro e w2 ⟨rfl, hb2⟩
      have hB2 : Below w.heap.size w w2 := bel_call hB hb2
      have k0 : w2.cell? ⟨w.heap.size, 0, none⟩ = some (.int .i64 a) := by rw [hb2.cell (p := ⟨w.heap.size, 0, none⟩) hz0, l0]
      have k1 : w2.cell? ⟨w.heap.size, 1, none⟩ = some (.int .i64 b) := by rw [hb2.cell (p := ⟨w.heap.size, 1, none⟩) hz0, l1]
      have z2 : w.heap.size < w2.heap.size := Nat.lt_of_lt_of_le hz0 hb2.size
      have HC2 := Lib.hid (HC1.out.call hb2)
      clear l0 l1 hB hb2
      go_wp2_with fail
      refine (digitsOf_any _ _ HA.out.digits (by omega)).mono ?_
      rintro e w3 ⟨g3, c3, rfl, hg3, hD3, hb3⟩
      have hB3 : Below w.heap.size w w3 := bel_call hB2 hb3
      have q0 : w3.cell? ⟨w.heap.size, 0, none⟩ = some (.int .i64 a) := by rw [hb3.cell (p := ⟨w.heap.size, 0, none⟩) z2, k0]
      have q1 : w3.cell? ⟨w.heap.size, 1, none⟩ = some (.int .i64 b) := by rw [hb3.cell (p := ⟨w.heap.size, 1, none⟩) z2, k1]
      have z3 : w.heap.size < w3.heap.size := Nat.lt_of_lt_of_le z2 hb3.size
      have z4 : w.heap.size < g3 := by omega
      have HC3 := Lib.hid (HC2.out.call hb3)
      have HD3 := Lib.hid hD3
      have zg : g < g3 := Nat.lt_of_lt_of_le HC2.out.lt hg3
      clear hB2 k0 k1 hb3 hg3 hD3 z2
      go_wp2_with fail
      go_loopw [25] (fun i wr => ∃ k : Nat, k ≤ n ∧ i = .int .i64 k ∧ Cells wr g3 s.size (digF (foldD b (dg s) (ts.take k))) ∧ Cells wr g (n * 2) (turnF ts) ∧ wr.cell? ⟨w.heap.size, 0, none⟩ = some (.int .i64 a) ∧ wr.cell? ⟨w.heap.size, 1, none⟩ = some (.int .i64 b) ∧ w.heap.size < wr.heap.size ∧ Below w.heap.size w wr) (fun i _ => n - (intOf i).toNat)
      case atStart => exact ⟨0, by omega, rfl, HD3.out, HC3.out, q0, q1, z3, hB3⟩
      case round =>
        clear q0 q1 z3 hB3
        obtain ⟨k, hk, rfl, hDr, hCr, q0, q1, z3, hB⟩ := hrel
        have HD := Lib.hid hDr
        have HR := Lib.hid hCr
        clear hDr hCr
        have HGd := Lib.hid (foldD_good (Good.of HA.out) b2 HT.out k (by rw [HL.out]; exact hk))
        have hfl : (foldD b (dg s) (ts.take k)).length = s.size := by have h1 := HGd.out.size; have h2 := HA.out.size; omega
        have HFL := Lib.hid hfl
        clear hfl
        by_cases hlt : k < n
        · have o0 : wr.cell? ⟨g, k * 2, none⟩ = some (.int .i64 (ts.getD k (0, 0)).1) := by rw [← turnF_0]; exact HR.out.cell (by omega)
          have o1 : wr.cell? ⟨g, k * 2 + 1, none⟩ = some (.int .i64 (ts.getD k (0, 0)).2) := by rw [← turnF_1]; exact HR.out.cell (by omega)
          have HSn := Lib.hid (foldD_snoc b (dg s) (show k < ts.length by rw [HL.out]; exact hlt))
          have HTu := Lib.hid (turns_all HT.out (show k < ts.length by rw [HL.out]; exact hlt))
          generalize (ts.getD k (0, 0)).1 = x at o0 HSn HTu
          generalize (ts.getD k (0, 0)).2 = y at o1 HSn HTu
          go_wp2_with (go_at_call 130; refine (turnDigits_any _ _ _ _ _ _ _ _ _ HFL.out HGd.out b2 b10 HTu.out (HD.out.alloc _)).mono ?_; rintro e w4 ⟨rfl, hD4, hz4, hb4⟩; have HD4 := Lib.hid hD4; have HB4 := Lib.hid hb4; clear hD4 hb4)
          have zz : wr.heap.size + 1 = (wr.alloc (.cells #[.int .i64 x, .int .i64 y] 68)).heap.size := by simp
          have zr : g < wr.heap.size := HR.out.lt
          have HN := Lib.hid (HB4.out (g + 1) (by omega) (by omega))
          have HN2 := Lib.hid (HB4.out (w.heap.size + 1) (by omega) (by omega))
          have HN3 := Lib.hid (HB4.out w.heap.size (by omega) (by omega))
          have hz5 : w.heap.size < w4.heap.size := by omega
          clear zz hz4
          go_roundw
          case rel => exact ⟨k + 1, by omega, by go_num, by rw [HSn.out]; exact HD4.out, (HR.out.alloc _).below HN.out (by omega), by rw [HN2.out.cell (p := ⟨w.heap.size, 0, none⟩) (by show w.heap.size < w.heap.size + 1; omega), World.cell?_alloc_lt _ _ _ z3]; exact q0, by rw [HN2.out.cell (p := ⟨w.heap.size, 1, none⟩) (by show w.heap.size < w.heap.size + 1; omega), World.cell?_alloc_lt _ _ _ z3]; exact q1, hz5, (hB.alloc (Nat.le_of_lt z3) _).trans HN3.out⟩
          case measure => simp [intOf]; omega
        · go_wp2_with (go_at_call 131; refine (codeOf_n _ _ _ HFL.out _ HD.out (HGd.out.digits b10) (by omega)).mono ?_; rintro e w4 ⟨rfl, hb4⟩)
          go_ret2
          refine ⟨?_, bel_call hB hb4⟩
          rw [HO.out, twZ_yes HO.out, List.take_of_length_le (by rw [HL.out]; omega)]
          rfl
    · have HT := Lib.hid (Bool.eq_false_iff.2 ht)
      have HO : Hid (okT a b s ts = false) := Lib.hid (by unfold okT; rw [hg, HT.out]; rfl)
      clear hg ht
      go_enter Try.func136, Try.ntmps136
      go_wp2_with (first | (go_at_call 62; refine (hasCode_any _ _ _ _ HS.out).mono ?_; rw [ask_eq, HG.out]; rintro e w1 ⟨rfl, hb⟩; obtain ⟨hc, hf, hz⟩ := bcell hb; have hz0 : w.heap.size < w1.heap.size := by (try simp at hz); omega))
      have HC1 := Lib.hid ((HC.out.alloc _).call hb)
      have hB : Below w.heap.size w w1 := by (repeat (first | assumption | exact Below.refl _ _ | (refine Below.alloc ?_ (by first | omega | (simp; done) | (simp; omega)) _) | (refine Below.setCell ?_ (by first | omega | (simp; done) | (simp; omega)) _) | refine bel_drewN ?_ _ | refine bel_drew ?_ | (refine bel_call ?_ (by assumption))))
      clear hc hf hz hb
      refine (hasTurns_any _ _ ts _ _ _ _ HL.out hm HC1.out).mono ?_
      rw [HT.out]
      rintro e w2 ⟨rfl, hb2⟩
      go_wp2_with fail
      go_ret2
      exact ⟨by rw [HO.out, twZ_no HO.out]; rfl, bel_call hB hb2⟩
  · have HG := Lib.hid (Bool.eq_false_iff.2 hg)
    have HO : Hid (okT a b s ts = false) := Lib.hid (by unfold okT; rw [HG.out]; rfl)
    clear hg
    go_enter Try.func136, Try.ntmps136
    go_wp2_with (first | (go_at_call 62; refine (hasCode_any _ _ _ _ HS.out).mono ?_; rw [ask_eq, HG.out]; rintro e w1 ⟨rfl, hb⟩; obtain ⟨hc, hf, hz⟩ := bcell hb; have hz0 : w.heap.size < w1.heap.size := by (try simp at hz); omega))
    go_ret2
    refine ⟨by rw [HO.out, twZ_no HO.out]; rfl, ?_⟩
    (repeat (first | assumption | exact Below.refl _ _ | (refine Below.alloc ?_ (by first | omega | (simp; done) | (simp; omega)) _) | (refine Below.setCell ?_ (by first | omega | (simp; done) | (simp; omega)) _) | refine bel_drewN ?_ _ | refine bel_drew ?_ | (refine bel_call ?_ (by assumption))))

end Go.Proofs.Ytilnjlcljjpnmaa
