/- How many codes a text opens, the first that it misses, and how many digits are read: both programs' answers. No conditions, whatever the library's own variable holds. -/
import Derived.Test.YteolmplbgmfhmaaRh
namespace Go.Proofs.Yteolmplbgmfhmaa
open Go.ChangeShapes Go.WideShapes Go.ChangeAt Go.RowKit Go.Joins

/-- How many codes a text opens. -/
def opZ (a b : Int) (s : ByteArray) : Int := if txB a b s then (cnN a b : Int) - (missL a b s).length else 0

theorem opZ_yes {a b : Int} {s : ByteArray} (h : txB a b s = true) : opZ a b s = (cnN a b : Int) - (missL a b s).length := by unfold opZ; rw [h]; rfl

theorem opZ_no {a b : Int} {s : ByteArray} (h : txB a b s = false) : opZ a b s = 0 := by unfold opZ; rw [h]; rfl

structure Tx (n : Nat) (b : Int) (s : ByteArray) : Prop where
  ri : riB n b = true
  size : s.size ≤ 1500
  digits : allD b s = true

theorem tx_of {n : Nat} {b : Int} {s : ByteArray} (h : txB n b s = true) : Tx n b s := by
  unfold txB at h
  rw [Bool.and_eq_true, Bool.and_eq_true] at h
  exact ⟨h.1.1, of_decide_eq_true h.1.2, h.2⟩

theorem tx_nat {a b : Int} {s : ByteArray} (h : txB a b s = true) : ∃ n : Nat, a = n := by
  unfold txB at h
  rw [Bool.and_eq_true, Bool.and_eq_true] at h
  exact ⟨a.toNat, by have := good_yes (riB_good h.1.1); omega⟩

theorem miss_le (a b : Int) (s : ByteArray) : (missL a b s).length ≤ cnN a b := by
  unfold missL
  have := List.length_filter_le (fun i => !metB a b s i) (List.range (cnN a b))
  rwa [List.length_range] at this

set_option maxRecDepth 100000 in
set_option maxHeartbeats 4000000 in
theorem countOpened_any (a b : Int) (s : ByteArray) (w : World) (hs : s.size ≤ maxLen) (hm : Mx w) :
    Calls Try.prog 32 #[.agg #[.int .i64 a, .int .i64 b], .string s] w fun e w' => e = .returned (.tuple #[.int .i64 (opZ a b s), .bool (txB a b s)]) ∧ Below w.heap.size w w' := by
  have HS := Lib.hid hs
  have hml := hm.lt
  have HM := Lib.hid hm
  clear hm hs
  by_cases ht : txB a b s = true
  · obtain ⟨n, rfl⟩ := tx_nat ht
    have HT := Lib.hid ht
    have hx := tx_of ht
    have HR := Lib.hid hx.ri
    have HG := Lib.hid (riB_good hx.ri)
    have hz5 := hx.size
    have hcn := cn_le hx.ri
    have hcc := cnN_cast (riB_good hx.ri)
    rw [Int.toNat_natCast] at hcc
    have HO := Lib.hid (opZ_yes ht)
    have hle := miss_le n b s
    generalize cnN n b = C at hcn hcc HO hle
    obtain ⟨M, hM⟩ : ∃ M, (missL n b s).length = M := ⟨_, rfl⟩
    rw [hM] at hle HO
    have HMM := Lib.hid hM
    have HCC := Lib.hid hcc
    clear ht hx hcc hM
    go_enter Try.func32, Try.ntmps32
    go_wp2_with (first | (go_at_call 58; refine (hasText_any _ _ _ _ HS.out).mono ?_; rw [HT.out]; rintro e w1 ⟨rfl, hb⟩; have z1 : w.heap.size < w1.heap.size := (by have := hb.size; simp at this; omega); have m0 : w1.cell? ⟨w.heap.size, 0, none⟩ = some (.int .i64 n) := (by rw [hb.cell (p := ⟨w.heap.size, 0, none⟩) (by simp)]; simp); have m1 : w1.cell? ⟨w.heap.size, 1, none⟩ = some (.int .i64 b) := (by rw [hb.cell (p := ⟨w.heap.size, 1, none⟩) (by simp)]; simp); have HB := Lib.hid (show Below w.heap.size w w1 from bel_call ((Below.refl _ _).alloc (Nat.le_refl _) _) hb); clear hb) | (go_at_call 59; refine (count_any _ _ _).mono ?_; rw [HG.out, countZ_yes HG.out, ← HCC.out]; rintro e w2 ⟨rfl, hb2⟩; have HB2 := Lib.hid (bel_call HB.out hb2); have q0 : w2.cell? ⟨w.heap.size, 0, none⟩ = some (.int .i64 n) := (by rw [hb2.cell (p := ⟨w.heap.size, 0, none⟩) z1]; exact m0); have q1 : w2.cell? ⟨w.heap.size, 1, none⟩ = some (.int .i64 b) := (by rw [hb2.cell (p := ⟨w.heap.size, 1, none⟩) z1]; exact m1); clear hb2) | (go_at_call 60; refine (missedIn_any _ _ _ _ HR.out (by omega) (HM.out.below HB2.out hml)).mono ?_; rw [HMM.out]; rintro e w4 ⟨A, c4, rfl, _, _, hb4⟩; have HB4 := Lib.hid (bel_call HB2.out hb4); clear hb4))
    go_ret2
    exact ⟨by rw [HO.out, HT.out]; rfl, HB4.out⟩
  · have HT := Lib.hid (Bool.eq_false_iff.2 ht)
    clear ht
    go_enter Try.func32, Try.ntmps32
    go_wp2_with (go_at_call 58; refine (hasText_any _ _ _ _ HS.out).mono ?_; rw [HT.out]; rintro e w1 ⟨rfl, hb⟩; obtain ⟨hc, hf, hz⟩ := bcell hb; have hz0 : w.heap.size < w1.heap.size := by (try simp at hz); omega)
    go_ret2
    refine ⟨by rw [opZ_no HT.out, HT.out]; rfl, ?_⟩
    (repeat (first | assumption | exact Below.refl _ _ | (refine Below.alloc ?_ (by first | omega | (simp; done) | (simp; omega)) _) | (refine Below.setCell ?_ (by first | omega | (simp; done) | (simp; omega)) _) | refine bel_drewN ?_ _ | refine bel_drew ?_ | (refine bel_call ?_ (by assumption))))

theorem seen_count {n : Nat} {b : Int} {s : ByteArray} (h : Tx n b s) : (((List.range (cnN n b)).filter (seenB n b (codesT s n))).length : Int) = (cnN n b : Int) - (missL n b s).length := by
  have h1 := count_met (metB n b s) (List.range (cnN n b))
  rw [List.length_range] at h1
  have h2 : (List.range (cnN n b)).filter (seenB n b (codesT s n)) = (List.range (cnN n b)).filter (metB n b s) :=
    List.filter_congr fun i hi => seen_met (riB_good h.ri) h.digits (List.mem_range.1 hi)
  rw [h2]
  unfold missL
  omega

theorem filter_snoc (p : Nat → Bool) (k : Nat) : ((List.range (k + 1)).filter p).length = ((List.range k).filter p).length + if p k = true then 1 else 0 := by
  rw [List.range_succ, List.filter_append, List.length_append]
  congr 1
  cases h : p k <;> simp [h]

set_option maxRecDepth 100000 in
set_option maxHeartbeats 4000000 in
theorem specCountOpened_any (a b : Int) (s : ByteArray) (w : World) (hs : s.size ≤ maxLen) :
    Calls Try.prog 31 #[.agg #[.int .i64 a, .int .i64 b], .string s] w fun e w' => e = .returned (.tuple #[.int .i64 (opZ a b s), .bool (txB a b s)]) ∧ Below w.heap.size w w' := by
  have HS := Lib.hid hs
  clear hs
  by_cases ht : txB a b s = true
  · obtain ⟨n, rfl⟩ := tx_nat ht
    have HT := Lib.hid ht
    have hx := tx_of ht
    have HR := Lib.hid hx.ri
    have HG := Lib.hid (riB_good hx.ri)
    have hz5 := hx.size
    have hcn := cn_le hx.ri
    have HASK : Hid (∀ t ∈ codesT (rdT false n s) n, askB n b t = true) := Lib.hid (fun t ht => by
      obtain ⟨k, hk, rfl⟩ := codesT_mem.1 ht
      exact allD_ask HG.out hx.digits (by have hk' : k < s.size + 1 - n := hk; omega))
    have HO : Hid ((((List.range (cnN n b)).filter (seenB n b (codesT s n))).length : Int) = opZ n b s) := Lib.hid (by rw [seen_count hx, opZ_yes ht])
    obtain ⟨C, hC⟩ : ∃ C, cnN n b = C := ⟨_, rfl⟩
    rw [hC] at hcn HO
    have HC := Lib.hid hC
    clear ht hx hC
    go_enter Try.func31, Try.ntmps31
    go_wp2_with (go_at_call 56; refine (riAsked_any _ _ _ _ HS.out).mono ?_; rw [HT.out]; rintro e w2 ⟨rfl, hb⟩; have z2 : w.heap.size < w2.heap.size := (by have := hb.size; simp at this; omega); have p0 : w2.cell? ⟨w.heap.size, 0, none⟩ = some (.int .i64 n) := (by rw [hb.cell (p := ⟨w.heap.size, 0, none⟩) (by simp)]; simp); have p1 : w2.cell? ⟨w.heap.size, 1, none⟩ = some (.int .i64 b) := (by rw [hb.cell (p := ⟨w.heap.size, 1, none⟩) (by simp)]; simp); have HB2 := Lib.hid (show Below w.heap.size w w2 from bel_call ((Below.refl _ _).alloc (Nat.le_refl _) _) hb); clear hb)
    go_region_with (first | (go_at_call 41; refine (riCodes_any _ _ _ false _ HG.out (by omega) (fun h => by cases h)).mono ?_; rintro e w3 ⟨A, c3, rfl, hO3, hb3⟩; have HO3 := Lib.hid hO3; have HB3 := Lib.hid (show Below w.heap.size w w3 from by first | exact bel_call HB2.out hb3 | exact bel_call (bel_drew HB2.out) hb3 | exact bel_call (bel_drewN HB2.out _) hb3); have q0 : w3.cell? ⟨w.heap.size, 0, none⟩ = some (.int .i64 n) := (by rw [hb3.cell (p := ⟨w.heap.size, 0, none⟩) z2]; exact p0); have q1 : w3.cell? ⟨w.heap.size, 1, none⟩ = some (.int .i64 b) := (by rw [hb3.cell (p := ⟨w.heap.size, 1, none⟩) z2]; exact p1); have z3 : w.heap.size < w3.heap.size := (by have := hb3.size; simp at this; omega); clear hO3 hb3) | (go_at_call 57; refine (riSeen_any _ _ _ _ _ _ _ HR.out HO3.out HASK.out).mono ?_; rw [HC.out]; rintro e w4 ⟨g, c4, rfl, hC4, hg4, hb4⟩; have HC4 := Lib.hid hC4; have HB4 := Lib.hid (bel_call HB3.out hb4); clear hC4 hb4))
    all_goals
      go_wp2
      go_simp
      go_loopw [6, 19] (fun v i wr => ∃ k : Nat, k ≤ C ∧ i = .int .i64 k ∧ v = .int .i64 (((List.range k).filter (seenB n b (codesT s n))).length : Int) ∧ Cells wr g C (fun j => .bool (seenB n b (codesT s n) j)) ∧ Below w.heap.size w wr) (fun _ i _ => C - (intOf i).toNat)
      case atStart => exact ⟨0, by omega, rfl, rfl, HC4.out, HB4.out⟩
      case round =>
        obtain ⟨k, hk, rfl, rfl, hCr, hB⟩ := hrel
        have HSN := Lib.hid (filter_snoc (seenB n b (codesT s n)) k)
        have hfl := List.length_filter_le (seenB n b (codesT s n)) (List.range k)
        rw [List.length_range] at hfl
        have HCR := Lib.hid hCr
        clear hCr
        by_cases hlt : k < C
        · have hc := HCR.out.cell hlt
          generalize ((List.range k).filter (seenB n b (codesT s n))).length = q at hfl HSN
          by_cases hsee : seenB n b (codesT s n) k = true
          · have HN : Hid (((List.range (k + 1)).filter (seenB n b (codesT s n))).length = q + 1) := Lib.hid (by rw [HSN.out, if_pos hsee])
            rw [hsee] at hc
            clear hsee
            go_wp2
            go_roundw
            case rel => exact ⟨k + 1, by omega, by go_num, by rw [HN.out]; go_num, HCR.out, hB⟩
            case measure => simp [intOf]; omega
          · have HN : Hid (((List.range (k + 1)).filter (seenB n b (codesT s n))).length = q) := Lib.hid (by rw [HSN.out, if_neg hsee]; rfl)
            rw [Bool.eq_false_iff.2 hsee] at hc
            clear hsee
            go_wp2
            go_roundw
            case rel => exact ⟨k + 1, by omega, by go_num, by rw [HN.out], HCR.out, hB⟩
            case measure => simp [intOf]; omega
        · obtain rfl : k = C := by omega
          generalize ((List.range k).filter (seenB n b (codesT s n))).length = q at hfl HO
          go_wp2
          go_ret2
          exact ⟨by rw [← HO.out, HT.out]; rfl, hB⟩
  · have HT := Lib.hid (Bool.eq_false_iff.2 ht)
    clear ht
    go_enter Try.func31, Try.ntmps31
    go_wp2_with (go_at_call 56; refine (riAsked_any _ _ _ _ HS.out).mono ?_; rw [HT.out]; rintro e w1 ⟨rfl, hb⟩; obtain ⟨hc, hf, hz⟩ := bcell hb; have hz0 : w.heap.size < w1.heap.size := by (try simp at hz); omega)
    go_ret2
    refine ⟨by rw [opZ_no HT.out, HT.out]; rfl, ?_⟩
    (repeat (first | assumption | exact Below.refl _ _ | (refine Below.alloc ?_ (by first | omega | (simp; done) | (simp; omega)) _) | (refine Below.setCell ?_ (by first | omega | (simp; done) | (simp; omega)) _) | refine bel_drewN ?_ _ | refine bel_drew ?_ | (refine bel_call ?_ (by assumption))))

end Go.Proofs.Yteolmplbgmfhmaa
