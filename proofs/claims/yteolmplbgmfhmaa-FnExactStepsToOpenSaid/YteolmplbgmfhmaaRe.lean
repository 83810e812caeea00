/- How many digits of a text are read when a code is first opened: both programs' answers. No conditions, whatever the library's own variable holds. -/
import Derived.Test.YteolmplbgmfhmaaRo
namespace Go.Proofs.Yteolmplbgmfhmaa
open Go.ChangeShapes Go.WideShapes Go.ChangeAt Go.RowKit Go.Joins

theorem bytesR {x y : ByteArray} (h : x ≠ y) : (x.toList == y.toList) = false := by
  rw [ByteArray.toList_eq, ByteArray.toList_eq]
  have : x.data.toList ≠ y.data.toList := fun e => h (bytes_ext e)
  simpa using this

/-- A text of digits opens a code. -/
def stB (a b : Int) (s t : ByteArray) : Bool := txB a b s && askB a b t && decide (0 ≤ Lib.index s.data.toList t.data.toList)

def stZ (a b : Int) (s t : ByteArray) : Int := if stB a b s t then Lib.index s.data.toList t.data.toList + a else 0

theorem st_not {a b : Int} {s t : ByteArray} (h : stB a b s t = false) : stZ a b s t = 0 := by unfold stZ; rw [h]; rfl

theorem st_no1 {a b : Int} {s t : ByteArray} (h : txB a b s = false) : stB a b s t = false := by unfold stB; rw [h]; rfl

theorem st_no2 {a b : Int} {s t : ByteArray} (h : askB a b t = false) : stB a b s t = false := by unfold stB; rw [h, Bool.and_false]; rfl

theorem st_some {a b : Int} {s t : ByteArray} {i : Nat} (h1 : txB a b s = true) (h2 : askB a b t = true) (h : Lib.index s.data.toList t.data.toList = i) : stB a b s t = true ∧ stZ a b s t = (i : Int) + a := by
  have : stB a b s t = true := by unfold stB; rw [h1, h2, h, decide_eq_true (by omega)]; rfl
  exact ⟨this, by unfold stZ; rw [this, h]; rfl⟩

theorem st_none {a b : Int} {s t : ByteArray} (h : Lib.index s.data.toList t.data.toList = -1) : stB a b s t = false ∧ stZ a b s t = 0 := by
  have : stB a b s t = false := by unfold stB; rw [h, decide_eq_false (by omega), Bool.and_false]
  exact ⟨this, st_not this⟩

set_option maxRecDepth 100000 in
set_option maxHeartbeats 4000000 in
theorem steps_any (a b : Int) (s t : ByteArray) (w : World) (hs : s.size ≤ maxLen) (ht : t.size ≤ maxLen) (hm : Mx w) :
    Calls Try.prog 36 #[.agg #[.int .i64 a, .int .i64 b], .string s, .string t] w fun e w' => e = .returned (.tuple #[.int .i64 (stZ a b s t), .bool (stB a b s t)]) ∧ Below w.heap.size w w' := by
  have HS := Lib.hid hs
  have HTT := Lib.hid ht
  have hml := hm.lt
  have HM := Lib.hid hm
  clear hm hs ht
  by_cases ht : txB a b s = true
  · obtain ⟨n, rfl⟩ := tx_nat ht
    have HT := Lib.hid ht
    have hx := tx_of ht
    have hz5 := hx.size
    have hn6 := (good_yes (riB_good hx.ri)).2.1
    clear ht hx
    by_cases ha : askB n b t = true
    · have HA := Lib.hid ha
      have hat := asked ha
      have ht1 := hat.n1
      clear ha hat
      rcases index_cases s t ht1 with ⟨h, _⟩ | ⟨i, h, hi, _, _⟩
      · have HI := Lib.hid h
        have HF := Lib.hid (st_none (a := (n : Int)) (b := b) h)
        clear h
        go_enter Try.func36, Try.ntmps36
        go_wp2_with (first | (go_at_call 58; refine (hasText_any _ _ _ _ HS.out).mono ?_; rw [HT.out]; rintro e w1 ⟨rfl, hb⟩; have HB := Lib.hid (show Below w.heap.size w w1 from bel_call ((Below.refl _ _).alloc (Nat.le_refl _) _) hb); have z1 : w.heap.size < w1.heap.size := (by have := hb.size; simp at this; omega); have m0 : w1.cell? ⟨w.heap.size, 0, none⟩ = some (.int .i64 n) := (by rw [hb.cell (p := ⟨w.heap.size, 0, none⟩) (by simp)]; simp); have m1 : w1.cell? ⟨w.heap.size, 1, none⟩ = some (.int .i64 b) := (by rw [hb.cell (p := ⟨w.heap.size, 1, none⟩) (by simp)]; simp); clear hb) | (go_at_call 63; refine (hasCode_any _ _ _ _ HTT.out).mono ?_; rw [ask_eq, HA.out]; rintro e w2 ⟨rfl, hb2⟩; have HB2 := Lib.hid (bel_call HB.out hb2); have q0 : w2.cell? ⟨w.heap.size, 0, none⟩ = some (.int .i64 n) := (by rw [hb2.cell (p := ⟨w.heap.size, 0, none⟩) z1]; exact m0); clear hb2) | (go_at_call 64; refine (index_mx _ _ _ (by omega) (HM.out.below HB2.out hml)).mono ?_; rw [HI.out]; rintro e w4 ⟨rfl, rfl⟩))
        go_ret2
        exact ⟨by rw [HF.out.1, HF.out.2]; rfl, HB2.out⟩
      · have HI := Lib.hid h
        have HF := Lib.hid (st_some HT.out HA.out h)
        clear h
        go_enter Try.func36, Try.ntmps36
        go_wp2_with (first | (go_at_call 58; refine (hasText_any _ _ _ _ HS.out).mono ?_; rw [HT.out]; rintro e w1 ⟨rfl, hb⟩; have HB := Lib.hid (show Below w.heap.size w w1 from bel_call ((Below.refl _ _).alloc (Nat.le_refl _) _) hb); have z1 : w.heap.size < w1.heap.size := (by have := hb.size; simp at this; omega); have m0 : w1.cell? ⟨w.heap.size, 0, none⟩ = some (.int .i64 n) := (by rw [hb.cell (p := ⟨w.heap.size, 0, none⟩) (by simp)]; simp); have m1 : w1.cell? ⟨w.heap.size, 1, none⟩ = some (.int .i64 b) := (by rw [hb.cell (p := ⟨w.heap.size, 1, none⟩) (by simp)]; simp); clear hb) | (go_at_call 63; refine (hasCode_any _ _ _ _ HTT.out).mono ?_; rw [ask_eq, HA.out]; rintro e w2 ⟨rfl, hb2⟩; have HB2 := Lib.hid (bel_call HB.out hb2); have q0 : w2.cell? ⟨w.heap.size, 0, none⟩ = some (.int .i64 n) := (by rw [hb2.cell (p := ⟨w.heap.size, 0, none⟩) z1]; exact m0); clear hb2) | (go_at_call 64; refine (index_mx _ _ _ (by omega) (HM.out.below HB2.out hml)).mono ?_; rw [HI.out]; rintro e w4 ⟨rfl, rfl⟩))
        go_ret2
        exact ⟨by rw [HF.out.1, HF.out.2]; rfl, HB2.out⟩
    · have HA := Lib.hid (Bool.eq_false_iff.2 ha)
      have HF := Lib.hid (st_no2 (s := s) HA.out)
      clear ha
      go_enter Try.func36, Try.ntmps36
      go_wp2_with (first | (go_at_call 58; refine (hasText_any _ _ _ _ HS.out).mono ?_; rw [HT.out]; rintro e w1 ⟨rfl, hb⟩; obtain ⟨hc, hf, hz⟩ := bcell hb; have hz0 : w.heap.size < w1.heap.size := by (try simp at hz); omega) | (go_at_call 63; refine (hasCode_any _ _ _ _ HTT.out).mono ?_; rw [ask_eq, HA.out]; rintro e w1 ⟨rfl, hb⟩; obtain ⟨hc, hf, hz⟩ := bcell hb; have hz0 : w.heap.size < w1.heap.size := by (try simp at hz); omega))
      go_ret2
      refine ⟨by rw [st_not HF.out, HF.out]; rfl, ?_⟩
      (repeat (first | assumption | exact Below.refl _ _ | (refine Below.alloc ?_ (by first | omega | (simp; done) | (simp; omega)) _) | (refine Below.setCell ?_ (by first | omega | (simp; done) | (simp; omega)) _) | refine bel_drewN ?_ _ | refine bel_drew ?_ | (refine bel_call ?_ (by assumption))))
  · have HT := Lib.hid (Bool.eq_false_iff.2 ht)
    have HF := Lib.hid (st_no1 (t := t) HT.out)
    clear ht
    go_enter Try.func36, Try.ntmps36
    go_wp2_with (go_at_call 58; refine (hasText_any _ _ _ _ HS.out).mono ?_; rw [HT.out]; rintro e w1 ⟨rfl, hb⟩; obtain ⟨hc, hf, hz⟩ := bcell hb; have hz0 : w.heap.size < w1.heap.size := by (try simp at hz); omega)
    go_ret2
    refine ⟨by rw [st_not HF.out, HF.out]; rfl, ?_⟩
    (repeat (first | assumption | exact Below.refl _ _ | (refine Below.alloc ?_ (by first | omega | (simp; done) | (simp; omega)) _) | (refine Below.setCell ?_ (by first | omega | (simp; done) | (simp; omega)) _) | refine bel_drewN ?_ _ | refine bel_drew ?_ | (refine bel_call ?_ (by assumption))))

set_option maxRecDepth 100000 in
set_option maxHeartbeats 4000000 in
theorem specSteps_any (a b : Int) (s t : ByteArray) (w : World) (hs : s.size ≤ maxLen) (ht : t.size ≤ maxLen) :
    Calls Try.prog 35 #[.agg #[.int .i64 a, .int .i64 b], .string s, .string t] w fun e w' => e = .returned (.tuple #[.int .i64 (stZ a b s t), .bool (stB a b s t)]) ∧ Below w.heap.size w w' := by
  have HS := Lib.hid hs
  have HTT := Lib.hid ht
  clear hs ht
  by_cases ht : txB a b s = true
  · obtain ⟨n, rfl⟩ := tx_nat ht
    have HT := Lib.hid ht
    have hx := tx_of ht
    have hz5 := hx.size
    have HG := Lib.hid (riB_good hx.ri)
    obtain ⟨h1, hn6, _, _⟩ := good_yes (riB_good hx.ri)
    clear ht hx
    by_cases ha : askB n b t = true
    · have HA := Lib.hid ha
      have HCODE : Hid (isCodeB n b t = true) := Lib.hid (asked ha).code
      have hat := asked ha
      have hts : t.size = n := by have := hat.size; omega
      have HI := Lib.hid (index_cases s t hat.n1)
      rw [hts] at HI
      have HLEN := Lib.hid (codesT_length s n)
      obtain ⟨N, hN⟩ : ∃ N, (codesT s n).length = N := ⟨_, rfl⟩
      have HN := Lib.hid hN
      have hN2 : N ≤ 1501 := by rw [← hN, HLEN.out]; omega
      have HAT : Hid (∀ k, k < N → (codesT s n).getD k ByteArray.empty = sbT s k n ∧ k + n ≤ s.size) := Lib.hid (fun k hk => by
        rw [← hN, HLEN.out] at hk
        refine ⟨?_, by omega⟩
        rw [List.getD, codesT_at hk]
        rfl)
      have HAL : Hid (∀ k, k + n ≤ s.size → k < N) := Lib.hid (fun k hk => by rw [← hN, HLEN.out]; omega)
      clear ha hat hts hN
      go_enter Try.func35, Try.ntmps35
      go_wp2_with (first | (go_at_call 56; refine (riAsked_any _ _ _ _ HS.out).mono ?_; rw [HT.out]; rintro e w1 ⟨rfl, hb⟩; have HB := Lib.hid (show Below w.heap.size w w1 from bel_call ((Below.refl _ _).alloc (Nat.le_refl _) _) hb); have z1 : w.heap.size < w1.heap.size := (by have := hb.size; simp at this; omega); have m0 : w1.cell? ⟨w.heap.size, 0, none⟩ = some (.int .i64 n) := (by rw [hb.cell (p := ⟨w.heap.size, 0, none⟩) (by simp)]; simp); have m1 : w1.cell? ⟨w.heap.size, 1, none⟩ = some (.int .i64 b) := (by rw [hb.cell (p := ⟨w.heap.size, 1, none⟩) (by simp)]; simp); clear hb) | (go_at_call 62; refine (whCode_any _ _ _ _ HTT.out HG.out).mono ?_; rw [HCODE.out]; rintro e w2 ⟨rfl, hb2⟩; have HB2 := Lib.hid (bel_call HB.out hb2); have q0 : w2.cell? ⟨w.heap.size, 0, none⟩ = some (.int .i64 n) := (by rw [hb2.cell (p := ⟨w.heap.size, 0, none⟩) z1]; exact m0); have q1 : w2.cell? ⟨w.heap.size, 1, none⟩ = some (.int .i64 b) := (by rw [hb2.cell (p := ⟨w.heap.size, 1, none⟩) z1]; exact m1); have z2 : w.heap.size < w2.heap.size := (by have := hb2.size; omega); clear hb2) | (go_at_call 41; refine (riCodes_any _ _ _ false _ HG.out (by omega) (fun h => by cases h)).mono ?_; rw [show rdT false n s = s from rfl, HN.out]; rintro e w3 ⟨A, c3, rfl, hO3, hb3⟩; have HO3 := Lib.hid hO3; have HB3 := Lib.hid (bel_call HB2.out hb3); have r0 : w3.cell? ⟨w.heap.size, 0, none⟩ = some (.int .i64 n) := (by rw [hb3.cell (p := ⟨w.heap.size, 0, none⟩) z2]; exact q0); have r1 : w3.cell? ⟨w.heap.size, 1, none⟩ = some (.int .i64 b) := (by rw [hb3.cell (p := ⟨w.heap.size, 1, none⟩) z2]; exact q1); clear hO3 hb3))
      go_loopw [24] (fun i wr => ∃ k : Nat, k ≤ N ∧ i = .int .i64 k ∧ (∀ j, j < k → sbT s j n ≠ t) ∧ OwnS wr w2.heap.size A N (codesT s n) ∧ wr.cell? ⟨w.heap.size, 0, none⟩ = some (.int .i64 n) ∧ wr.cell? ⟨w.heap.size, 1, none⟩ = some (.int .i64 b) ∧ Below w.heap.size w wr) (fun i _ => N - (intOf i).toNat)
      case atStart => exact ⟨0, by omega, rfl, fun j hj => by omega, HO3.out, r0, r1, HB3.out⟩
      case round =>
        clear r0 r1
        obtain ⟨k, hk, rfl, hall, hO, c0, c1, hB⟩ := hrel
        have HALL := Lib.hid hall
        have HO := Lib.hid hO
        clear hall hO
        by_cases hlt : k < N
        · obtain ⟨g, rfl, _, hC⟩ := HO.out.lt hlt
          have hc := hC.cell hlt
          unfold strF at hc
          rw [(HAT.out k hlt).1] at hc
          have hkn := (HAT.out k hlt).2
          by_cases heq : sbT s k n = t
          · have HF : Hid (stB n b s t = true ∧ stZ n b s t = (k : Int) + n) := Lib.hid (by
              rcases HI.out with ⟨_, h⟩ | ⟨i, h, hi, he, hne⟩
              · exact absurd heq (h k hkn)
              · have : i = k := by
                  rcases Nat.lt_trichotomy i k with h1 | h1 | h1
                  · exact absurd he (HALL.out i h1)
                  · exact h1
                  · exact absurd heq (hne k h1)
                subst this
                exact st_some HT.out HA.out h)
            rw [heq] at hc
            clear hC heq
            go_wp2
            go_ret2
            exact ⟨by rw [HF.out.1, HF.out.2]; rfl, hB⟩
          · have HNX : Hid (∀ j, j < k + 1 → sbT s j n ≠ t) := Lib.hid (fun j hj => by
              by_cases e : j = k
              · rw [e]; exact heq
              · exact HALL.out j (by omega))
            obtain ⟨u, hu⟩ : ∃ u, sbT s k n = u := ⟨_, rfl⟩
            rw [hu] at hc heq
            have hne := bytesR heq
            clear hC hu heq
            go_wp2
            go_roundw
            case rel => exact ⟨k + 1, by omega, by go_num, HNX.out, HO.out, c0, c1, hB⟩
            case measure => simp [intOf]; omega
        · obtain rfl : k = N := by omega
          have HF : Hid (stB n b s t = false ∧ stZ n b s t = 0) := Lib.hid (by
            rcases HI.out with ⟨h, _⟩ | ⟨i, h, hi, he, hne⟩
            · exact st_none h
            · exact absurd he (HALL.out i (HAL.out i hi)))
          go_wp2
          go_ret2
          exact ⟨by rw [HF.out.1, HF.out.2]; rfl, hB⟩
    · have HA := Lib.hid (Bool.eq_false_iff.2 ha)
      have HF := Lib.hid (st_no2 (s := s) HA.out)
      have HCODE : Hid (isCodeB n b t = false) := Lib.hid (by
        have := HA.out
        unfold askB at this
        rwa [HG.out, Bool.true_and] at this)
      clear ha
      go_enter Try.func35, Try.ntmps35
      go_wp2_with (first | (go_at_call 56; refine (riAsked_any _ _ _ _ HS.out).mono ?_; rw [HT.out]; rintro e w1 ⟨rfl, hb⟩; obtain ⟨hc, hf, hz⟩ := bcell hb; have hz0 : w.heap.size < w1.heap.size := by (try simp at hz); omega) | (go_at_call 62; refine (whCode_any _ _ _ _ HTT.out HG.out).mono ?_; rw [HCODE.out]; rintro e w1 ⟨rfl, hb⟩; obtain ⟨hc, hf, hz⟩ := bcell hb; have hz0 : w.heap.size < w1.heap.size := by (try simp at hz); omega))
      go_ret2
      refine ⟨by rw [st_not HF.out, HF.out]; rfl, ?_⟩
      (repeat (first | assumption | exact Below.refl _ _ | (refine Below.alloc ?_ (by first | omega | (simp; done) | (simp; omega)) _) | (refine Below.setCell ?_ (by first | omega | (simp; done) | (simp; omega)) _) | refine bel_drewN ?_ _ | refine bel_drew ?_ | (refine bel_call ?_ (by assumption))))
  · have HT := Lib.hid (Bool.eq_false_iff.2 ht)
    have HF := Lib.hid (st_no1 (t := t) HT.out)
    clear ht
    go_enter Try.func35, Try.ntmps35
    go_wp2_with (go_at_call 56; refine (riAsked_any _ _ _ _ HS.out).mono ?_; rw [HT.out]; rintro e w1 ⟨rfl, hb⟩; obtain ⟨hc, hf, hz⟩ := bcell hb; have hz0 : w.heap.size < w1.heap.size := by (try simp at hz); omega)
    go_ret2
    refine ⟨by rw [st_not HF.out, HF.out]; rfl, ?_⟩
    (repeat (first | assumption | exact Below.refl _ _ | (refine Below.alloc ?_ (by first | omega | (simp; done) | (simp; omega)) _) | (refine Below.setCell ?_ (by first | omega | (simp; done) | (simp; omega)) _) | refine bel_drewN ?_ _ | refine bel_drew ?_ | (refine bel_call ?_ (by assumption))))

end Go.Proofs.Yteolmplbgmfhmaa
