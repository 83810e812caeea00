/- The pins of a list combined, as the program does it. For pins with at most 1048576 numbers each. -/
import Derived.Test.YtaajklkldfgppaaVm
namespace Go.Proofs.Ytaajklkldfgppaa
open Go.ChangeShapes Go.WideShapes Go.ChangeAt Go.RowKit Go.Joins

theorem lall_first {ps : List Pn} {q : Pn → Bool} {k : Nat} (h : (ps.take k).all q = true) (hk : 0 < k) (hn : 0 < ps.length) : q (ps.getD 0 pn0) = true := by
  have h1 : 0 < (ps.take k).length := by rw [List.length_take]; omega
  have := List.all_eq_true.1 h (ps.take k)[0] (List.getElem_mem _)
  simpa [List.getD, List.getElem?_eq_getElem hn] using this

/-- What a list's pins joined are. -/
def cbD (ps : List Pn) : Int := if listB ps then (ps.getD 0 pn0).1 else 0

def cbK (f : Bool → Bool → Bool) (ps : List Pn) : List (List Int) := if listB ps then cbN f ps ps.length else []

theorem pinsOut_bad {w w' : World} {e : Ending} {ps : List Pn} {f : Bool → Bool → Bool} (hL : listB ps = false) (he : e = .returned (.tuple #[.agg #[.int .i64 0, .slice none 0 0], .bool false])) (hb : Below w.heap.size w w') : PinsOut w (cbD ps) (cbK f ps) (listB ps) e w' := by
  have h1 : cbD ps = 0 := by unfold cbD; rw [hL]; rfl
  have h2 : cbK f ps = [] := by unfold cbK; rw [hL]; rfl
  rw [h1, h2, hL]
  exact pinsOut_no he hb

set_option maxRecDepth 100000 in
set_option maxHeartbeats 4000000 in
theorem combined_common (A : Option Addr) (n c : Nat) (ps : List Pn) (w : World) (hn : n ≤ maxLen) (hA : ArgP w A n ps) (hF : Few ps) :
    Calls Try.prog 75 #[.slice A n c, .func (.func 65) #[] #[]] w (PinsOut w (cbD ps) (cbK (fun x y => x && y) ps) (listB ps)) := by
  have HN := Lib.hid hA.len
  have HF := Lib.hid hF
  have HA := Lib.hid hA
  unfold maxLen at hn
  clear hA hF
  have HB0 := Lib.hid (show Below w.heap.size w (w.alloc (.cells #[.int .i64 0, .slice none 0 0] 26)) from (Below.refl _ _).alloc (Nat.le_refl _) _)
  by_cases h16 : 1 ≤ n ∧ n ≤ 6
  · obtain ⟨l1, l6⟩ := h16
    obtain ⟨b, off, rfl, hb, hc⟩ := HA.out.at_.resolve_left (by omega)
    obtain ⟨A0, c0, h00', h01', h02, h03⟩ := hc 0 (by omega)
    have HC := Lib.hid hc
    rw [Nat.zero_mul, Nat.add_zero] at h00' h01'
    have HCB0 : Hid (cbN (fun x y => x && y) ps 0 = (ps.getD 0 pn0).2) := Lib.hid rfl
    have HCBS : Hid (∀ k, cbN (fun x y => x && y) ps (k + 1) = jnL (fun x y => x && y) (ps.getD 0 pn0).1.toNat (cbN (fun x y => x && y) ps k) (ps.getD k pn0).2 (ps.getD 0 pn0).2.length) := Lib.hid (fun _ => rfl)
    have HCL := Lib.hid (fun k => cbN_length (fun x y => x && y) ps k)
    obtain ⟨P0, hP0⟩ : ∃ P0, ps.getD 0 pn0 = P0 := ⟨_, rfl⟩
    have HP0 := Lib.hid hP0
    rw [hP0] at h00' h01' h02 h03 HCB0 HCBS HCL
    clear hP0 hc HA
    obtain ⟨d0, hd0⟩ : ∃ d0, P0.1 = d0 := ⟨_, rfl⟩
    obtain ⟨m, hm⟩ : ∃ m, P0.2.length = m := ⟨_, rfl⟩
    have HD0 := Lib.hid hd0
    have HM := Lib.hid hm
    rw [hd0] at h00' HCBS
    rw [hm] at h01' h02 h03 HCBS HCL
    clear hd0 hm
    unfold maxLen at h02
    obtain ⟨W2, hW2⟩ : ∃ W2, (w.alloc (.cells #[.int .i64 0, .slice none 0 0] 26)).alloc (.cells #[.int .i64 d0, .slice A0 m c0] 26) = W2 := ⟨_, rfl⟩
    have HB2 := Lib.hid (show Below w.heap.size w W2 from by rw [← hW2]; (repeat (first | assumption | exact Below.refl _ _ | (refine Below.alloc ?_ (by first | omega | (simp; done) | (simp; omega)) _) | (refine Below.setCell ?_ (by first | omega | (simp; done) | (simp; omega)) _) | refine bel_drewN ?_ _ | refine bel_drew ?_ | (refine bel_call ?_ (by assumption)))))
    have CQ := Lib.hid (show Cells W2 w.heap.size 2 (pF 0 (.slice none 0 0)) from by rw [← hW2]; exact (Cells.new (n := 2) rfl rfl).alloc _)
    have CT := Lib.hid (show Cells W2 (w.heap.size + 1) 2 (pF d0 (.slice A0 m c0)) from by rw [← hW2]; exact Cells.new (n := 2) (by simp) rfl)
    have hz2 : w.heap.size + 2 ≤ W2.heap.size := by rw [← hW2]; simp
    have HW := Lib.hid hW2
    have K0 := Lib.hid (h03.below HB2.out)
    have hn0 : 0 < n := by omega
    have g00 : (w.alloc (.cells #[.int .i64 0, .slice none 0 0] 26)).cell? ⟨b, off, none⟩ = some (.int .i64 d0) := by rw [World.cell?_alloc_lt _ _ _ hb]; exact h00'
    have g01 : (w.alloc (.cells #[.int .i64 0, .slice none 0 0] 26)).cell? ⟨b, off + 1, none⟩ = some (.slice A0 m c0) := by rw [World.cell?_alloc_lt _ _ _ hb]; exact h01'
    clear hW2 h03 h00' h01' HB0
    go_enter Try.func75, Try.ntmps75
    go_wp2_with fail
    clear g00 g01
    go_loopw [23] (fun i wr => ∃ (k : Nat) (Aa : Option Addr) (ca : Nat), k ≤ n ∧ i = .int .i64 k ∧ (ps.take k).all (okP ps) = true ∧ Cells wr w.heap.size 2 (pF 0 (.slice none 0 0)) ∧ Cells wr (w.heap.size + 1) 2 (pF d0 (.slice Aa m ca)) ∧ KnobsA wr Aa m (cbN (fun x y => x && y) ps k) ∧ (0 < k → RowP wr (w.heap.size + 2) (.slice Aa m ca) (cbN (fun x y => x && y) ps k)) ∧ w.heap.size + 2 ≤ wr.heap.size ∧ Below w.heap.size w wr) (fun i _ => n - (intOf i).toNat)
    case atStart => rw [HW.out]; exact ⟨0, A0, c0, by omega, rfl, rfl, CQ.out, CT.out, by rw [HCB0.out]; exact K0.out, fun h => by omega, hz2, HB2.out⟩
    case round =>
      clear HW CQ CT K0 HB2 hz2
      obtain ⟨k, Aa, ca, hk, rfl, hall, hQ, hT, hK, hR, hz, hB⟩ := hrel
      have HAL := Lib.hid hall
      have HQ := Lib.hid hQ
      have HT := Lib.hid hT
      have HK := Lib.hid hK
      have HR := Lib.hid hR
      have HB := Lib.hid hB
      clear hall hQ hT hK hR hB
      by_cases hlt : k < n
      · obtain ⟨Ak, ck, p0', p1', hl, hKk⟩ := HC.out k hlt
        have p0 : wr.cell? ⟨b, off + k * 2, none⟩ = some (.int .i64 (ps.getD k pn0).1) := by rw [HB.out.cell (p := ⟨b, off + k * 2, none⟩) hb]; exact p0'
        have p1 : wr.cell? ⟨b, off + k * 2 + 1, none⟩ = some (.slice Ak (ps.getD k pn0).2.length ck) := by rw [HB.out.cell (p := ⟨b, off + k * 2 + 1, none⟩) hb]; exact p1'
        have HKk := Lib.hid (hKk.below HB.out)
        have HFK := Lib.hid (HF.out k (by rw [HN.out]; exact hlt))
        have HX := Lib.hid (HCBS.out k)
        have HLX := Lib.hid (HCL.out (k + 1))
        have HG0 : Hid (pinsB (ps.getD k pn0).1 (ps.getD k pn0).2 = true → pinsB P0.1 P0.2 = true) := Lib.hid (fun h => by
          by_cases hk0 : k = 0
          · subst hk0; rw [HP0.out] at h; exact h
          · have := (okP_yes (lall_first HAL.out (by omega) (by rw [HN.out]; omega))).1
            rw [HP0.out] at this
            exact this)
        clear p0' p1' hKk
        obtain ⟨P, hP⟩ : ∃ P, ps.getD k pn0 = P := ⟨_, rfl⟩
        have HPE := Lib.hid hP
        rw [hP] at p0 p1 hl HKk HFK HX HG0
        clear hP
        unfold maxLen at hl
        obtain ⟨v1, HV1⟩ : ∃ v, Hid (pinsB P.1 P.2 = v) := ⟨_, Lib.hid rfl⟩
        obtain ⟨v2, HV2⟩ : ∃ v, Hid (kindB P.1 P.2.length d0 m = v) := ⟨_, Lib.hid rfl⟩
        have HOK : Hid (okP ps (ps.getD k pn0) = (v1 && v2)) := Lib.hid (by rw [HPE.out]; unfold okP; rw [HP0.out, HD0.out, HM.out, HV1.out, HV2.out])
        have HNO : Hid (okP ps (ps.getD k pn0) = false → listB ps = false) := Lib.hid (fun h => by unfold listB; rw [lall_not (d := pn0) (p := okP ps) (k := k) (by rw [HN.out]; exact hlt) h, Bool.and_false])
        have CB := Cells.new (W := wr) (cs := #[.int .i64 P.1, .slice Ak P.2.length ck]) (t := 26) (g := wr.heap.size) (n := 2) rfl rfl
        have d0' : (wr.alloc (.cells #[.int .i64 P.1, .slice Ak P.2.length ck] 26)).cell? ⟨wr.heap.size, 0, none⟩ = some (.int .i64 P.1) := CB.cell (show 0 < 2 by omega)
        have d1' : (wr.alloc (.cells #[.int .i64 P.1, .slice Ak P.2.length ck] 26)).cell? ⟨wr.heap.size, 1, none⟩ = some (.slice Ak P.2.length ck) := CB.cell (show 1 < 2 by omega)
        have HCB := Lib.hid CB
        have HBA := Lib.hid (show Below wr.heap.size wr (wr.alloc (.cells #[.int .i64 P.1, .slice Ak P.2.length ck] 26)) from (Below.refl _ _).alloc (Nat.le_refl _) _)
        clear CB
        rcases v1 with _ | _
        · have HBAD := Lib.hid (HNO.out (by rw [HOK.out]; rfl))
          go_wp2_with (first
            | (go_at_call 39; refine (arePins_any _ _ _ _ P.2 _ HFK.out (HKk.out.below HBA.out)).mono ?_; rw [HV1.out]; rintro e w3 ⟨rfl, hb3⟩
               have HB3 := Lib.hid (bel_call HB.out (bel_call HBA.out hb3))
               have HQ3 := Lib.hid (HQ.out.call (bel_call HBA.out hb3))
               have q0 : w3.cell? ⟨w.heap.size, 0, none⟩ = some (.int .i64 0) := HQ3.out.cell (show 0 < 2 by omega)
               have q1 : w3.cell? ⟨w.heap.size, 1, none⟩ = some (.slice none 0 0) := HQ3.out.cell (show 1 < 2 by omega)
               have f0 := HQ3.out.frozen (show 0 < 2 by omega)
               have f1 := HQ3.out.frozen (show 1 < 2 by omega)
               clear hb3))
          refine bodyPost_ret (v := .tuple #[.agg #[.int .i64 0, .slice none 0 0], .bool false]) (by simp [results, Try.results75, go_sem, q0, q1]) rfl (pinsOut_bad HBAD.out rfl ?_)
          iterate 2 (refine Below.setCell ?_ (by show w.heap.size ≤ w.heap.size; omega) _)
          exact HB3.out
        · rcases v2 with _ | _
          · have HBAD := Lib.hid (HNO.out (by rw [HOK.out]; rfl))
            go_wp2_with (first
              | (go_at_call 39; refine (arePins_any _ _ _ _ P.2 _ HFK.out (HKk.out.below HBA.out)).mono ?_; rw [HV1.out]; rintro e w3 ⟨rfl, hb3⟩
                 have HBE3 := Lib.hid (bel_call HBA.out hb3)
                 have HC3 := Lib.hid (HCB.out.call hb3)
                 have HT3 := Lib.hid (HT.out.call HBE3.out)
                 have e0 : w3.cell? ⟨wr.heap.size, 0, none⟩ = some (.int .i64 P.1) := HC3.out.cell (show 0 < 2 by omega)
                 have e1 : w3.cell? ⟨wr.heap.size, 1, none⟩ = some (.slice Ak P.2.length ck) := HC3.out.cell (show 1 < 2 by omega)
                 have e2 : w3.cell? ⟨w.heap.size + 1, 0, none⟩ = some (.int .i64 d0) := HT3.out.cell (show 0 < 2 by omega)
                 have e3 : w3.cell? ⟨w.heap.size + 1, 1, none⟩ = some (.slice Aa m ca) := HT3.out.cell (show 1 < 2 by omega)
                 clear hb3)
              | (go_at_call 81; refine (isOfKindOf_any _ _ _ _ _ _ _ _ _).mono ?_; rw [HV2.out]; rintro e w4 ⟨rfl, hb4⟩
                 have HB3 := Lib.hid (bel_call HB.out (bel_call HBE3.out hb4))
                 have HQ3 := Lib.hid (HQ.out.call (bel_call HBE3.out hb4))
                 have q0 : w4.cell? ⟨w.heap.size, 0, none⟩ = some (.int .i64 0) := HQ3.out.cell (show 0 < 2 by omega)
                 have q1 : w4.cell? ⟨w.heap.size, 1, none⟩ = some (.slice none 0 0) := HQ3.out.cell (show 1 < 2 by omega)
                 have f0 := HQ3.out.frozen (show 0 < 2 by omega)
                 have f1 := HQ3.out.frozen (show 1 < 2 by omega)
                 clear hb4))
            refine bodyPost_ret (v := .tuple #[.agg #[.int .i64 0, .slice none 0 0], .bool false]) (by simp [results, Try.results75, go_sem, q0, q1]) rfl (pinsOut_bad HBAD.out rfl ?_)
            iterate 2 (refine Below.setCell ?_ (by show w.heap.size ≤ w.heap.size; omega) _)
            exact HB3.out
          · obtain ⟨kd, km⟩ := kindB_yes HV2.out
            have g0 := HG0.out HV1.out
            obtain ⟨d1, d9, n1, n7, _⟩ := pinsB_yes HV1.out
            have HNX : Hid (Nine (cbN (fun x y => x && y) ps (k + 1))) := Lib.hid (cbN_nine (by rw [HP0.out]; exact g0) (k + 1))
            have HSK : Hid (SmallP (cbN (fun x y => x && y) ps k)) := Lib.hid (cbN_small (by rw [HP0.out]; exact g0) k)
            have HSP := Lib.hid (pins_small HV1.out)
            obtain ⟨dn, hdn⟩ : ∃ dn : Nat, d0 = dn := ⟨d0.toNat, by omega⟩
            rw [kd] at d1 d9
            rw [km] at n1 n7
            have hn0' : m ≤ 7 := by omega
            subst hdn
            rw [Int.toNat_natCast] at HX
            have HKM : Hid (P.2.length ≤ 7) := Lib.hid (by omega)
            clear kd km
            obtain ⟨K1, hK1⟩ : ∃ K1, cbN (fun x y => x && y) ps (k + 1) = K1 := ⟨_, rfl⟩
            have HK1 := Lib.hid hK1
            rw [hK1] at HX HNX HLX
            clear hK1
            obtain ⟨K0, hK0⟩ : ∃ K0, cbN (fun x y => x && y) ps k = K0 := ⟨_, rfl⟩
            rw [hK0] at HX HSK HK
            clear hK0
            clear HNO HG0 g0
            go_wp2_with (first
              | (go_at_call 65; refine (common_any dn P.1 Aa Ak m P.2.length ca ck K0 P.2 _ hn0' HKM.out (by omega) (HK.out.below HBE4.out) (HKk.out.below HBE4.out) HSK.out HSP.out).mono ?_
                 rintro e w5 ⟨v5, rfl, hR5, hb5⟩
                 rw [← HX.out] at hR5
                 obtain ⟨A5, c5, rfl⟩ := hR5.slice
                 rw [HLX.out] at hR5 ⊢
                 have HBE := Lib.hid (bel_call HBE4.out hb5)
                 have HR5 := Lib.hid (hR5.weak (Nat.le_trans hz HBE4.out.size))
                 have HQ5 := Lib.hid (HQ.out.call HBE.out)
                 have HT5 := Lib.hid (HT.out.call HBE.out)
                 have HB5 := Lib.hid (bel_call HB.out HBE.out)
                 have hz5 : w.heap.size + 2 ≤ w5.heap.size := Nat.le_trans hz HBE.out.size
                 have t0 : w5.cell? ⟨w.heap.size + 1, 0, none⟩ = some (.int .i64 (dn : Int)) := HT5.out.cell (show 0 < 2 by omega)
                 have t1 : w5.cell? ⟨w.heap.size + 1, 1, none⟩ = some (.slice Aa m ca) := HT5.out.cell (show 1 < 2 by omega)
                 have f0 := HT5.out.frozen (show 0 < 2 by omega)
                 have f1 := HT5.out.frozen (show 1 < 2 by omega)
                 clear hR5 hb5)
              | (go_at_call 39; refine (arePins_any _ _ _ _ P.2 _ HFK.out (HKk.out.below HBA.out)).mono ?_; rw [HV1.out]; rintro e w3 ⟨rfl, hb3⟩
                 have HBE3 := Lib.hid (bel_call HBA.out hb3)
                 have HC3 := Lib.hid (HCB.out.call hb3)
                 have HT3 := Lib.hid (HT.out.call HBE3.out)
                 have e0 : w3.cell? ⟨wr.heap.size, 0, none⟩ = some (.int .i64 P.1) := HC3.out.cell (show 0 < 2 by omega)
                 have e1 : w3.cell? ⟨wr.heap.size, 1, none⟩ = some (.slice Ak P.2.length ck) := HC3.out.cell (show 1 < 2 by omega)
                 have e2 : w3.cell? ⟨w.heap.size + 1, 0, none⟩ = some (.int .i64 (dn : Int)) := HT3.out.cell (show 0 < 2 by omega)
                 have e3 : w3.cell? ⟨w.heap.size + 1, 1, none⟩ = some (.slice Aa m ca) := HT3.out.cell (show 1 < 2 by omega)
                 clear hb3)
              | (go_at_call 81; refine (isOfKindOf_any _ _ _ _ _ _ _ _ _).mono ?_; rw [HV2.out]; rintro e w4 ⟨rfl, hb4⟩
                 have HBE4 := Lib.hid (bel_call HBE3.out hb4)
                 have HT4 := Lib.hid (HT3.out.call hb4)
                 have HC4 := Lib.hid (HC3.out.call hb4)
                 have z0 : w4.cell? ⟨wr.heap.size, 0, none⟩ = some (.int .i64 P.1) := HC4.out.cell (show 0 < 2 by omega)
                 have z1 : w4.cell? ⟨wr.heap.size, 1, none⟩ = some (.slice Ak P.2.length ck) := HC4.out.cell (show 1 < 2 by omega)
                 have z2 : w4.cell? ⟨w.heap.size + 1, 0, none⟩ = some (.int .i64 (dn : Int)) := HT4.out.cell (show 0 < 2 by omega)
                 have z3 : w4.cell? ⟨w.heap.size + 1, 1, none⟩ = some (.slice Aa m ca) := HT4.out.cell (show 1 < 2 by omega)
                 clear hb4))
            have HRN := Lib.hid ((HR5.out.under (p := ⟨w.heap.size + 1, 0, none⟩) (by show w.heap.size + 1 < w.heap.size + 2; omega) (.int .i64 (dn : Int))).under (p := ⟨w.heap.size + 1, 1, none⟩) (by show w.heap.size + 1 < w.heap.size + 2; omega) (.slice A5 m c5))
            have HQN := Lib.hid ((HQ5.out.far (p := ⟨w.heap.size + 1, 0, none⟩) (by show w.heap.size + 1 ≠ w.heap.size; omega) (.int .i64 (dn : Int))).far (p := ⟨w.heap.size + 1, 1, none⟩) (by show w.heap.size + 1 ≠ w.heap.size; omega) (.slice A5 m c5))
            have HTN := Lib.hid (pf_next (v := .slice A5 m c5) HT5.out)
            have HBN := Lib.hid ((HB5.out.setCell (p := ⟨w.heap.size + 1, 0, none⟩) (by show w.heap.size ≤ w.heap.size + 1; omega) (.int .i64 (dn : Int))).setCell (p := ⟨w.heap.size + 1, 1, none⟩) (by show w.heap.size ≤ w.heap.size + 1; omega) (.slice A5 m c5))
            go_wp2_with fail
            go_roundw
            case rel => exact ⟨k + 1, A5, c5, by omega, by go_num, lall_snoc (d := pn0) (p := okP ps) (by rw [HN.out]; exact hlt) HAL.out (by rw [HOK.out]; rfl), HQN.out, HTN.out, by rw [HK1.out]; exact HRN.out.knobs (nine_max HNX.out), fun _ => by rw [HK1.out]; exact HRN.out, by rw [size_setCell, size_setCell]; exact hz5, HBN.out⟩
            case measure => simp [intOf]; omega
      · obtain rfl : k = n := by omega
        have HRR := Lib.hid (HR.out hn0)
        have h := HAL.out
        rw [List.take_of_length_le (by rw [HN.out]; exact Nat.le_refl _)] at h
        have HLB : Hid (listB ps = true) := Lib.hid (by unfold listB inB; rw [HN.out, h, decide_eq_true (show (1 : Int) ≤ k ∧ (k : Int) ≤ 6 by omega)]; rfl)
        have HCD : Hid (cbD ps = d0) := Lib.hid (by unfold cbD; rw [HLB.out, if_pos rfl, HP0.out]; exact HD0.out)
        have HCK : Hid (cbK (fun x y => x && y) ps = cbN (fun x y => x && y) ps k) := Lib.hid (by unfold cbK; rw [HLB.out, if_pos rfl, HN.out])
        clear h
        have t0 : wr.cell? ⟨w.heap.size + 1, 0, none⟩ = some (.int .i64 d0) := HT.out.cell (show 0 < 2 by omega)
        have t1 : wr.cell? ⟨w.heap.size + 1, 1, none⟩ = some (.slice Aa m ca) := HT.out.cell (show 1 < 2 by omega)
        have q0 : wr.cell? ⟨w.heap.size, 0, none⟩ = some (.int .i64 0) := HQ.out.cell (show 0 < 2 by omega)
        have q1 : wr.cell? ⟨w.heap.size, 1, none⟩ = some (.slice none 0 0) := HQ.out.cell (show 1 < 2 by omega)
        have f0 := HQ.out.frozen (show 0 < 2 by omega)
        have f1 := HQ.out.frozen (show 1 < 2 by omega)
        go_wp2_with fail
        refine bodyPost_ret (v := .tuple #[.agg #[.int .i64 d0, .slice Aa m ca], .bool true]) (by simp [results, Try.results75, go_sem, q0, q1]) rfl ?_
        rw [HCD.out, HCK.out, HLB.out]
        refine ⟨_, rfl, ?_, ?_⟩
        · exact ((HRR.out.under (by show w.heap.size < w.heap.size + 2; omega) _).under (by show w.heap.size < w.heap.size + 2; omega) _).weak (by omega)
        · iterate 2 (refine Below.setCell ?_ (by show w.heap.size ≤ w.heap.size; omega) _)
          exact HB.out
  · have HBAD : Hid (listB ps = false) := Lib.hid (by unfold listB inB; rw [HN.out, decide_eq_false (show ¬ ((1 : Int) ≤ n ∧ (n : Int) ≤ 6) by omega)]; rfl)
    by_cases h1 : n < 1
    · have h1' : (n : Int) < 1 := by omega
      go_enter Try.func75, Try.ntmps75
      go_wp2_with fail
      refine bodyPost_ret (v := .tuple #[.agg #[.int .i64 0, .slice none 0 0], .bool false]) (by simp [results, Try.results75, go_sem]) rfl (pinsOut_bad HBAD.out rfl ?_)
      (repeat (first | assumption | exact Below.refl _ _ | (refine Below.alloc ?_ (by first | omega | (simp; done) | (simp; omega)) _) | (refine Below.setCell ?_ (by first | omega | (simp; done) | (simp; omega)) _) | refine bel_drewN ?_ _ | refine bel_drew ?_ | (refine bel_call ?_ (by assumption))))
    · have h6' : (6 : Int) < n := by omega
      have h1' : ¬ (n : Int) < 1 := by omega
      go_enter Try.func75, Try.ntmps75
      go_wp2_with fail
      refine bodyPost_ret (v := .tuple #[.agg #[.int .i64 0, .slice none 0 0], .bool false]) (by simp [results, Try.results75, go_sem]) rfl (pinsOut_bad HBAD.out rfl ?_)
      (repeat (first | assumption | exact Below.refl _ _ | (refine Below.alloc ?_ (by first | omega | (simp; done) | (simp; omega)) _) | (refine Below.setCell ?_ (by first | omega | (simp; done) | (simp; omega)) _) | refine bel_drewN ?_ _ | refine bel_drew ?_ | (refine bel_call ?_ (by assumption))))

set_option maxRecDepth 100000 in
set_option maxHeartbeats 4000000 in
theorem combined_joined (A : Option Addr) (n c : Nat) (ps : List Pn) (w : World) (hn : n ≤ maxLen) (hA : ArgP w A n ps) (hF : Few ps) :
    Calls Try.prog 75 #[.slice A n c, .func (.func 34) #[] #[]] w (PinsOut w (cbD ps) (cbK (fun x y => x || y) ps) (listB ps)) := by
  have HN := Lib.hid hA.len
  have HF := Lib.hid hF
  have HA := Lib.hid hA
  unfold maxLen at hn
  clear hA hF
  have HB0 := Lib.hid (show Below w.heap.size w (w.alloc (.cells #[.int .i64 0, .slice none 0 0] 26)) from (Below.refl _ _).alloc (Nat.le_refl _) _)
  by_cases h16 : 1 ≤ n ∧ n ≤ 6
  · obtain ⟨l1, l6⟩ := h16
    obtain ⟨b, off, rfl, hb, hc⟩ := HA.out.at_.resolve_left (by omega)
    obtain ⟨A0, c0, h00', h01', h02, h03⟩ := hc 0 (by omega)
    have HC := Lib.hid hc
    rw [Nat.zero_mul, Nat.add_zero] at h00' h01'
    have HCB0 : Hid (cbN (fun x y => x || y) ps 0 = (ps.getD 0 pn0).2) := Lib.hid rfl
    have HCBS : Hid (∀ k, cbN (fun x y => x || y) ps (k + 1) = jnL (fun x y => x || y) (ps.getD 0 pn0).1.toNat (cbN (fun x y => x || y) ps k) (ps.getD k pn0).2 (ps.getD 0 pn0).2.length) := Lib.hid (fun _ => rfl)
    have HCL := Lib.hid (fun k => cbN_length (fun x y => x || y) ps k)
    obtain ⟨P0, hP0⟩ : ∃ P0, ps.getD 0 pn0 = P0 := ⟨_, rfl⟩
    have HP0 := Lib.hid hP0
    rw [hP0] at h00' h01' h02 h03 HCB0 HCBS HCL
    clear hP0 hc HA
    obtain ⟨d0, hd0⟩ : ∃ d0, P0.1 = d0 := ⟨_, rfl⟩
    obtain ⟨m, hm⟩ : ∃ m, P0.2.length = m := ⟨_, rfl⟩
    have HD0 := Lib.hid hd0
    have HM := Lib.hid hm
    rw [hd0] at h00' HCBS
    rw [hm] at h01' h02 h03 HCBS HCL
    clear hd0 hm
    unfold maxLen at h02
    obtain ⟨W2, hW2⟩ : ∃ W2, (w.alloc (.cells #[.int .i64 0, .slice none 0 0] 26)).alloc (.cells #[.int .i64 d0, .slice A0 m c0] 26) = W2 := ⟨_, rfl⟩
    have HB2 := Lib.hid (show Below w.heap.size w W2 from by rw [← hW2]; (repeat (first | assumption | exact Below.refl _ _ | (refine Below.alloc ?_ (by first | omega | (simp; done) | (simp; omega)) _) | (refine Below.setCell ?_ (by first | omega | (simp; done) | (simp; omega)) _) | refine bel_drewN ?_ _ | refine bel_drew ?_ | (refine bel_call ?_ (by assumption)))))
    have CQ := Lib.hid (show Cells W2 w.heap.size 2 (pF 0 (.slice none 0 0)) from by rw [← hW2]; exact (Cells.new (n := 2) rfl rfl).alloc _)
    have CT := Lib.hid (show Cells W2 (w.heap.size + 1) 2 (pF d0 (.slice A0 m c0)) from by rw [← hW2]; exact Cells.new (n := 2) (by simp) rfl)
    have hz2 : w.heap.size + 2 ≤ W2.heap.size := by rw [← hW2]; simp
    have HW := Lib.hid hW2
    have K0 := Lib.hid (h03.below HB2.out)
    have hn0 : 0 < n := by omega
    have g00 : (w.alloc (.cells #[.int .i64 0, .slice none 0 0] 26)).cell? ⟨b, off, none⟩ = some (.int .i64 d0) := by rw [World.cell?_alloc_lt _ _ _ hb]; exact h00'
    have g01 : (w.alloc (.cells #[.int .i64 0, .slice none 0 0] 26)).cell? ⟨b, off + 1, none⟩ = some (.slice A0 m c0) := by rw [World.cell?_alloc_lt _ _ _ hb]; exact h01'
    clear hW2 h03 h00' h01' HB0
    go_enter Try.func75, Try.ntmps75
    go_wp2_with fail
    clear g00 g01
    go_loopw [23] (fun i wr => ∃ (k : Nat) (Aa : Option Addr) (ca : Nat), k ≤ n ∧ i = .int .i64 k ∧ (ps.take k).all (okP ps) = true ∧ Cells wr w.heap.size 2 (pF 0 (.slice none 0 0)) ∧ Cells wr (w.heap.size + 1) 2 (pF d0 (.slice Aa m ca)) ∧ KnobsA wr Aa m (cbN (fun x y => x || y) ps k) ∧ (0 < k → RowP wr (w.heap.size + 2) (.slice Aa m ca) (cbN (fun x y => x || y) ps k)) ∧ w.heap.size + 2 ≤ wr.heap.size ∧ Below w.heap.size w wr) (fun i _ => n - (intOf i).toNat)
    case atStart => rw [HW.out]; exact ⟨0, A0, c0, by omega, rfl, rfl, CQ.out, CT.out, by rw [HCB0.out]; exact K0.out, fun h => by omega, hz2, HB2.out⟩
    case round =>
      clear HW CQ CT K0 HB2 hz2
      obtain ⟨k, Aa, ca, hk, rfl, hall, hQ, hT, hK, hR, hz, hB⟩ := hrel
      have HAL := Lib.hid hall
      have HQ := Lib.hid hQ
      have HT := Lib.hid hT
      have HK := Lib.hid hK
      have HR := Lib.hid hR
      have HB := Lib.hid hB
      clear hall hQ hT hK hR hB
      by_cases hlt : k < n
      · obtain ⟨Ak, ck, p0', p1', hl, hKk⟩ := HC.out k hlt
        have p0 : wr.cell? ⟨b, off + k * 2, none⟩ = some (.int .i64 (ps.getD k pn0).1) := by rw [HB.out.cell (p := ⟨b, off + k * 2, none⟩) hb]; exact p0'
        have p1 : wr.cell? ⟨b, off + k * 2 + 1, none⟩ = some (.slice Ak (ps.getD k pn0).2.length ck) := by rw [HB.out.cell (p := ⟨b, off + k * 2 + 1, none⟩) hb]; exact p1'
        have HKk := Lib.hid (hKk.below HB.out)
        have HFK := Lib.hid (HF.out k (by rw [HN.out]; exact hlt))
        have HX := Lib.hid (HCBS.out k)
        have HLX := Lib.hid (HCL.out (k + 1))
        have HG0 : Hid (pinsB (ps.getD k pn0).1 (ps.getD k pn0).2 = true → pinsB P0.1 P0.2 = true) := Lib.hid (fun h => by
          by_cases hk0 : k = 0
          · subst hk0; rw [HP0.out] at h; exact h
          · have := (okP_yes (lall_first HAL.out (by omega) (by rw [HN.out]; omega))).1
            rw [HP0.out] at this
            exact this)
        clear p0' p1' hKk
        obtain ⟨P, hP⟩ : ∃ P, ps.getD k pn0 = P := ⟨_, rfl⟩
        have HPE := Lib.hid hP
        rw [hP] at p0 p1 hl HKk HFK HX HG0
        clear hP
        unfold maxLen at hl
        obtain ⟨v1, HV1⟩ : ∃ v, Hid (pinsB P.1 P.2 = v) := ⟨_, Lib.hid rfl⟩
        obtain ⟨v2, HV2⟩ : ∃ v, Hid (kindB P.1 P.2.length d0 m = v) := ⟨_, Lib.hid rfl⟩
        have HOK : Hid (okP ps (ps.getD k pn0) = (v1 && v2)) := Lib.hid (by rw [HPE.out]; unfold okP; rw [HP0.out, HD0.out, HM.out, HV1.out, HV2.out])
        have HNO : Hid (okP ps (ps.getD k pn0) = false → listB ps = false) := Lib.hid (fun h => by unfold listB; rw [lall_not (d := pn0) (p := okP ps) (k := k) (by rw [HN.out]; exact hlt) h, Bool.and_false])
        have CB := Cells.new (W := wr) (cs := #[.int .i64 P.1, .slice Ak P.2.length ck]) (t := 26) (g := wr.heap.size) (n := 2) rfl rfl
        have d0' : (wr.alloc (.cells #[.int .i64 P.1, .slice Ak P.2.length ck] 26)).cell? ⟨wr.heap.size, 0, none⟩ = some (.int .i64 P.1) := CB.cell (show 0 < 2 by omega)
        have d1' : (wr.alloc (.cells #[.int .i64 P.1, .slice Ak P.2.length ck] 26)).cell? ⟨wr.heap.size, 1, none⟩ = some (.slice Ak P.2.length ck) := CB.cell (show 1 < 2 by omega)
        have HCB := Lib.hid CB
        have HBA := Lib.hid (show Below wr.heap.size wr (wr.alloc (.cells #[.int .i64 P.1, .slice Ak P.2.length ck] 26)) from (Below.refl _ _).alloc (Nat.le_refl _) _)
        clear CB
        rcases v1 with _ | _
        · have HBAD := Lib.hid (HNO.out (by rw [HOK.out]; rfl))
          go_wp2_with (first
            | (go_at_call 39; refine (arePins_any _ _ _ _ P.2 _ HFK.out (HKk.out.below HBA.out)).mono ?_; rw [HV1.out]; rintro e w3 ⟨rfl, hb3⟩
               have HB3 := Lib.hid (bel_call HB.out (bel_call HBA.out hb3))
               have HQ3 := Lib.hid (HQ.out.call (bel_call HBA.out hb3))
               have q0 : w3.cell? ⟨w.heap.size, 0, none⟩ = some (.int .i64 0) := HQ3.out.cell (show 0 < 2 by omega)
               have q1 : w3.cell? ⟨w.heap.size, 1, none⟩ = some (.slice none 0 0) := HQ3.out.cell (show 1 < 2 by omega)
               have f0 := HQ3.out.frozen (show 0 < 2 by omega)
               have f1 := HQ3.out.frozen (show 1 < 2 by omega)
               clear hb3))
          refine bodyPost_ret (v := .tuple #[.agg #[.int .i64 0, .slice none 0 0], .bool false]) (by simp [results, Try.results75, go_sem, q0, q1]) rfl (pinsOut_bad HBAD.out rfl ?_)
          iterate 2 (refine Below.setCell ?_ (by show w.heap.size ≤ w.heap.size; omega) _)
          exact HB3.out
        · rcases v2 with _ | _
          · have HBAD := Lib.hid (HNO.out (by rw [HOK.out]; rfl))
            go_wp2_with (first
              | (go_at_call 39; refine (arePins_any _ _ _ _ P.2 _ HFK.out (HKk.out.below HBA.out)).mono ?_; rw [HV1.out]; rintro e w3 ⟨rfl, hb3⟩
                 have HBE3 := Lib.hid (bel_call HBA.out hb3)
                 have HC3 := Lib.hid (HCB.out.call hb3)
                 have HT3 := Lib.hid (HT.out.call HBE3.out)
                 have e0 : w3.cell? ⟨wr.heap.size, 0, none⟩ = some (.int .i64 P.1) := HC3.out.cell (show 0 < 2 by omega)
                 have e1 : w3.cell? ⟨wr.heap.size, 1, none⟩ = some (.slice Ak P.2.length ck) := HC3.out.cell (show 1 < 2 by omega)
                 have e2 : w3.cell? ⟨w.heap.size + 1, 0, none⟩ = some (.int .i64 d0) := HT3.out.cell (show 0 < 2 by omega)
                 have e3 : w3.cell? ⟨w.heap.size + 1, 1, none⟩ = some (.slice Aa m ca) := HT3.out.cell (show 1 < 2 by omega)
                 clear hb3)
              | (go_at_call 81; refine (isOfKindOf_any _ _ _ _ _ _ _ _ _).mono ?_; rw [HV2.out]; rintro e w4 ⟨rfl, hb4⟩
                 have HB3 := Lib.hid (bel_call HB.out (bel_call HBE3.out hb4))
                 have HQ3 := Lib.hid (HQ.out.call (bel_call HBE3.out hb4))
                 have q0 : w4.cell? ⟨w.heap.size, 0, none⟩ = some (.int .i64 0) := HQ3.out.cell (show 0 < 2 by omega)
                 have q1 : w4.cell? ⟨w.heap.size, 1, none⟩ = some (.slice none 0 0) := HQ3.out.cell (show 1 < 2 by omega)
                 have f0 := HQ3.out.frozen (show 0 < 2 by omega)
                 have f1 := HQ3.out.frozen (show 1 < 2 by omega)
                 clear hb4))
            refine bodyPost_ret (v := .tuple #[.agg #[.int .i64 0, .slice none 0 0], .bool false]) (by simp [results, Try.results75, go_sem, q0, q1]) rfl (pinsOut_bad HBAD.out rfl ?_)
            iterate 2 (refine Below.setCell ?_ (by show w.heap.size ≤ w.heap.size; omega) _)
            exact HB3.out
          · obtain ⟨kd, km⟩ := kindB_yes HV2.out
            have g0 := HG0.out HV1.out
            obtain ⟨d1, d9, n1, n7, _⟩ := pinsB_yes HV1.out
            have HNX : Hid (Nine (cbN (fun x y => x || y) ps (k + 1))) := Lib.hid (cbN_nine (by rw [HP0.out]; exact g0) (k + 1))
            have HSK : Hid (SmallP (cbN (fun x y => x || y) ps k)) := Lib.hid (cbN_small (by rw [HP0.out]; exact g0) k)
            have HSP := Lib.hid (pins_small HV1.out)
            obtain ⟨dn, hdn⟩ : ∃ dn : Nat, d0 = dn := ⟨d0.toNat, by omega⟩
            rw [kd] at d1 d9
            rw [km] at n1 n7
            have hn0' : m ≤ 7 := by omega
            subst hdn
            rw [Int.toNat_natCast] at HX
            have HKM : Hid (P.2.length ≤ 7) := Lib.hid (by omega)
            clear kd km
            obtain ⟨K1, hK1⟩ : ∃ K1, cbN (fun x y => x || y) ps (k + 1) = K1 := ⟨_, rfl⟩
            have HK1 := Lib.hid hK1
            rw [hK1] at HX HNX HLX
            clear hK1
            obtain ⟨K0, hK0⟩ : ∃ K0, cbN (fun x y => x || y) ps k = K0 := ⟨_, rfl⟩
            rw [hK0] at HX HSK HK
            clear hK0
            clear HNO HG0 g0
            go_wp2_with (first
              | (go_at_call 34; refine (joined_any dn P.1 Aa Ak m P.2.length ca ck K0 P.2 _ hn0' HKM.out (by omega) (HK.out.below HBE4.out) (HKk.out.below HBE4.out) HSK.out HSP.out).mono ?_
                 rintro e w5 ⟨v5, rfl, hR5, hb5⟩
                 rw [← HX.out] at hR5
                 obtain ⟨A5, c5, rfl⟩ := hR5.slice
                 rw [HLX.out] at hR5 ⊢
                 have HBE := Lib.hid (bel_call HBE4.out hb5)
                 have HR5 := Lib.hid (hR5.weak (Nat.le_trans hz HBE4.out.size))
                 have HQ5 := Lib.hid (HQ.out.call HBE.out)
                 have HT5 := Lib.hid (HT.out.call HBE.out)
                 have HB5 := Lib.hid (bel_call HB.out HBE.out)
                 have hz5 : w.heap.size + 2 ≤ w5.heap.size := Nat.le_trans hz HBE.out.size
                 have t0 : w5.cell? ⟨w.heap.size + 1, 0, none⟩ = some (.int .i64 (dn : Int)) := HT5.out.cell (show 0 < 2 by omega)
                 have t1 : w5.cell? ⟨w.heap.size + 1, 1, none⟩ = some (.slice Aa m ca) := HT5.out.cell (show 1 < 2 by omega)
                 have f0 := HT5.out.frozen (show 0 < 2 by omega)
                 have f1 := HT5.out.frozen (show 1 < 2 by omega)
                 clear hR5 hb5)
              | (go_at_call 39; refine (arePins_any _ _ _ _ P.2 _ HFK.out (HKk.out.below HBA.out)).mono ?_; rw [HV1.out]; rintro e w3 ⟨rfl, hb3⟩
                 have HBE3 := Lib.hid (bel_call HBA.out hb3)
                 have HC3 := Lib.hid (HCB.out.call hb3)
                 have HT3 := Lib.hid (HT.out.call HBE3.out)
                 have e0 : w3.cell? ⟨wr.heap.size, 0, none⟩ = some (.int .i64 P.1) := HC3.out.cell (show 0 < 2 by omega)
                 have e1 : w3.cell? ⟨wr.heap.size, 1, none⟩ = some (.slice Ak P.2.length ck) := HC3.out.cell (show 1 < 2 by omega)
                 have e2 : w3.cell? ⟨w.heap.size + 1, 0, none⟩ = some (.int .i64 (dn : Int)) := HT3.out.cell (show 0 < 2 by omega)
                 have e3 : w3.cell? ⟨w.heap.size + 1, 1, none⟩ = some (.slice Aa m ca) := HT3.out.cell (show 1 < 2 by omega)
                 clear hb3)
              | (go_at_call 81; refine (isOfKindOf_any _ _ _ _ _ _ _ _ _).mono ?_; rw [HV2.out]; rintro e w4 ⟨rfl, hb4⟩
                 have HBE4 := Lib.hid (bel_call HBE3.out hb4)
                 have HT4 := Lib.hid (HT3.out.call hb4)
                 have HC4 := Lib.hid (HC3.out.call hb4)
                 have z0 : w4.cell? ⟨wr.heap.size, 0, none⟩ = some (.int .i64 P.1) := HC4.out.cell (show 0 < 2 by omega)
                 have z1 : w4.cell? ⟨wr.heap.size, 1, none⟩ = some (.slice Ak P.2.length ck) := HC4.out.cell (show 1 < 2 by omega)
                 have z2 : w4.cell? ⟨w.heap.size + 1, 0, none⟩ = some (.int .i64 (dn : Int)) := HT4.out.cell (show 0 < 2 by omega)
                 have z3 : w4.cell? ⟨w.heap.size + 1, 1, none⟩ = some (.slice Aa m ca) := HT4.out.cell (show 1 < 2 by omega)
                 clear hb4))
            have HRN := Lib.hid ((HR5.out.under (p := ⟨w.heap.size + 1, 0, none⟩) (by show w.heap.size + 1 < w.heap.size + 2; omega) (.int .i64 (dn : Int))).under (p := ⟨w.heap.size + 1, 1, none⟩) (by show w.heap.size + 1 < w.heap.size + 2; omega) (.slice A5 m c5))
            have HQN := Lib.hid ((HQ5.out.far (p := ⟨w.heap.size + 1, 0, none⟩) (by show w.heap.size + 1 ≠ w.heap.size; omega) (.int .i64 (dn : Int))).far (p := ⟨w.heap.size + 1, 1, none⟩) (by show w.heap.size + 1 ≠ w.heap.size; omega) (.slice A5 m c5))
            have HTN := Lib.hid (pf_next (v := .slice A5 m c5) HT5.out)
            have HBN := Lib.hid ((HB5.out.setCell (p := ⟨w.heap.size + 1, 0, none⟩) (by show w.heap.size ≤ w.heap.size + 1; omega) (.int .i64 (dn : Int))).setCell (p := ⟨w.heap.size + 1, 1, none⟩) (by show w.heap.size ≤ w.heap.size + 1; omega) (.slice A5 m c5))
            go_wp2_with fail
            go_roundw
            case rel => exact ⟨k + 1, A5, c5, by omega, by go_num, lall_snoc (d := pn0) (p := okP ps) (by rw [HN.out]; exact hlt) HAL.out (by rw [HOK.out]; rfl), HQN.out, HTN.out, by rw [HK1.out]; exact HRN.out.knobs (nine_max HNX.out), fun _ => by rw [HK1.out]; exact HRN.out, by rw [size_setCell, size_setCell]; exact hz5, HBN.out⟩
            case measure => simp [intOf]; omega
      · obtain rfl : k = n := by omega
        have HRR := Lib.hid (HR.out hn0)
        have h := HAL.out
        rw [List.take_of_length_le (by rw [HN.out]; exact Nat.le_refl _)] at h
        have HLB : Hid (listB ps = true) := Lib.hid (by unfold listB inB; rw [HN.out, h, decide_eq_true (show (1 : Int) ≤ k ∧ (k : Int) ≤ 6 by omega)]; rfl)
        have HCD : Hid (cbD ps = d0) := Lib.hid (by unfold cbD; rw [HLB.out, if_pos rfl, HP0.out]; exact HD0.out)
        have HCK : Hid (cbK (fun x y => x || y) ps = cbN (fun x y => x || y) ps k) := Lib.hid (by unfold cbK; rw [HLB.out, if_pos rfl, HN.out])
        clear h
        have t0 : wr.cell? ⟨w.heap.size + 1, 0, none⟩ = some (.int .i64 d0) := HT.out.cell (show 0 < 2 by omega)
        have t1 : wr.cell? ⟨w.heap.size + 1, 1, none⟩ = some (.slice Aa m ca) := HT.out.cell (show 1 < 2 by omega)
        have q0 : wr.cell? ⟨w.heap.size, 0, none⟩ = some (.int .i64 0) := HQ.out.cell (show 0 < 2 by omega)
        have q1 : wr.cell? ⟨w.heap.size, 1, none⟩ = some (.slice none 0 0) := HQ.out.cell (show 1 < 2 by omega)
        have f0 := HQ.out.frozen (show 0 < 2 by omega)
        have f1 := HQ.out.frozen (show 1 < 2 by omega)
        go_wp2_with fail
        refine bodyPost_ret (v := .tuple #[.agg #[.int .i64 d0, .slice Aa m ca], .bool true]) (by simp [results, Try.results75, go_sem, q0, q1]) rfl ?_
        rw [HCD.out, HCK.out, HLB.out]
        refine ⟨_, rfl, ?_, ?_⟩
        · exact ((HRR.out.under (by show w.heap.size < w.heap.size + 2; omega) _).under (by show w.heap.size < w.heap.size + 2; omega) _).weak (by omega)
        · iterate 2 (refine Below.setCell ?_ (by show w.heap.size ≤ w.heap.size; omega) _)
          exact HB.out
  · have HBAD : Hid (listB ps = false) := Lib.hid (by unfold listB inB; rw [HN.out, decide_eq_false (show ¬ ((1 : Int) ≤ n ∧ (n : Int) ≤ 6) by omega)]; rfl)
    by_cases h1 : n < 1
    · have h1' : (n : Int) < 1 := by omega
      go_enter Try.func75, Try.ntmps75
      go_wp2_with fail
      refine bodyPost_ret (v := .tuple #[.agg #[.int .i64 0, .slice none 0 0], .bool false]) (by simp [results, Try.results75, go_sem]) rfl (pinsOut_bad HBAD.out rfl ?_)
      (repeat (first | assumption | exact Below.refl _ _ | (refine Below.alloc ?_ (by first | omega | (simp; done) | (simp; omega)) _) | (refine Below.setCell ?_ (by first | omega | (simp; done) | (simp; omega)) _) | refine bel_drewN ?_ _ | refine bel_drew ?_ | (refine bel_call ?_ (by assumption))))
    · have h6' : (6 : Int) < n := by omega
      have h1' : ¬ (n : Int) < 1 := by omega
      go_enter Try.func75, Try.ntmps75
      go_wp2_with fail
      refine bodyPost_ret (v := .tuple #[.agg #[.int .i64 0, .slice none 0 0], .bool false]) (by simp [results, Try.results75, go_sem]) rfl (pinsOut_bad HBAD.out rfl ?_)
      (repeat (first | assumption | exact Below.refl _ _ | (refine Below.alloc ?_ (by first | omega | (simp; done) | (simp; omega)) _) | (refine Below.setCell ?_ (by first | omega | (simp; done) | (simp; omega)) _) | refine bel_drewN ?_ _ | refine bel_drew ?_ | (refine bel_call ?_ (by assumption))))

end Go.Proofs.Ytaajklkldfgppaa
