/- Which texts are keys of pins, as the model and the program ask it. For pins and texts of at most 2^20 signs. -/
import Derived.Test.YtgcadcekkojidaaVq
namespace Go.Proofs.Ytgcadcekkojidaa
open Go.ChangeShapes Go.WideShapes Go.ChangeAt Go.RowKit Go.Joins

/-- A key of pins. -/
def okZ (d : Int) (ks : List (List Int)) (s : ByteArray) : Bool := pinsB d ks && decide (s.size = ks.length) && allK d s

theorem okZ_eq (d : Int) (ks : List (List Int)) (s : ByteArray) : okZ d ks s = (keyB d s && pinsB d ks && kindB d s.size d ks.length) := by
  unfold okZ keyB kindB
  rw [decide_eq_true rfl, Bool.true_and]
  cases h : pinsB d ks with
  | false => simp
  | true =>
    obtain ⟨h1, h2, h3, h4, _⟩ := pinsB_yes h
    by_cases hn : s.size = ks.length
    · rw [decide_eq_true hn]
      unfold inB
      rw [decide_eq_true (show 1 ≤ d ∧ d ≤ 9 from ⟨h1, h2⟩), decide_eq_true (show (1 : Int) ≤ (s.size : Int) ∧ (s.size : Int) ≤ 7 by omega)]
      simp
    · rw [decide_eq_false hn]
      simp

def okD (d : Int) (ks : List (List Int)) (s : ByteArray) : Int := if okZ d ks s then d else 0

def okK (d : Int) (ks : List (List Int)) (s : ByteArray) : List (List Int) := if okZ d ks s then kqL (dg s) s.size else []

theorem keIs_any (d : Int) (s : ByteArray) (A : Option Addr) (n c : Nat) (ks : List (List Int)) (w : World) (hs : s.size ≤ maxLen) (hn : ks.length = n) (hg : pinsB d ks = true) :
    Calls Try.prog 73 #[.agg #[.int .i64 d, .slice A n c], .string s] w fun e w' => e = .returned (.bool (okZ d ks s)) ∧ Below w.heap.size w w' := by
  have HB0 := Lib.hid (show Below w.heap.size w (w.alloc (.cells #[.int .i64 d, .slice A n c] 27)) from (Below.refl _ _).alloc (Nat.le_refl _) _)
  obtain ⟨h1, h2, _⟩ := pinsB_yes hg
  have HG := Lib.hid hg
  have HN := Lib.hid hn
  have HS := Lib.hid hs
  unfold maxLen at hs
  have hd : 1 ≤ d ∧ d ≤ 9 := ⟨h1, h2⟩
  clear hg
  by_cases h : s.size = n
  · have HE : Hid (okZ d ks s = allK d s) := Lib.hid (by unfold okZ; rw [HG.out, decide_eq_true (h.trans HN.out.symm)]; rfl)
    rw [HE.out]
    have hh : ((s.size : Int) == (n : Int)) = true := beq_iff_eq.2 (by omega)
    clear h
    go_enter Try.func73, Try.ntmps73
    go_wp2_with (go_at_call 82; refine (keKey_any d s _ HS.out hd).mono ?_; rintro e w1 ⟨rfl, hb1⟩)
    go_ret
    exact ⟨rfl, bel_call HB0.out hb1⟩
  · have HE : Hid (okZ d ks s = false) := Lib.hid (by unfold okZ; rw [HG.out, decide_eq_false (fun e => h (e.trans HN.out))]; rfl)
    rw [HE.out]
    have hh : ((s.size : Int) == (n : Int)) = false := beq_eq_false_iff_ne.2 (by omega)
    clear h
    go_enter Try.func73, Try.ntmps73
    go_wp2_with fail
    go_ret
    exact ⟨rfl, HB0.out⟩

theorem specIsKey_any (d : Int) (s : ByteArray) (A : Option Addr) (n c : Nat) (ks : List (List Int)) (w : World) (hm : n + lensAt ks n ≤ 1048576) (hs : s.size ≤ maxLen) (hA : KnobsA w A n ks) :
    Calls Try.prog 25 #[.agg #[.int .i64 d, .slice A n c], .string s] w fun e w' => e = .returned (.tuple #[.bool (okZ d ks s), .bool (pinsB d ks)]) ∧ Below w.heap.size w w' := by
  have HB0 := Lib.hid (show Below w.heap.size w (w.alloc (.cells #[.int .i64 d, .slice A n c] 27)) from (Below.refl _ _).alloc (Nat.le_refl _) _)
  have CU := Lib.hid (Cells.new (W := w) (cs := #[.int .i64 d, .slice A n c]) (t := 27) (g := w.heap.size) (n := 2) rfl rfl)
  have HA := Lib.hid hA
  have HN := Lib.hid hA.len
  have HS := Lib.hid hs
  clear hA hs
  obtain ⟨v, HV⟩ : ∃ v, Hid (pinsB d ks = v) := ⟨_, Lib.hid rfl⟩
  rcases v with _ | _
  · have HZ : Hid (okZ d ks s = false) := Lib.hid (by unfold okZ; rw [HV.out]; rfl)
    rw [HZ.out, HV.out]
    go_enter Try.func25, Try.ntmps25
    go_wp2_with (go_at_call 67; refine (keGood_any _ _ _ _ ks _ hm (HA.out.below HB0.out)).mono ?_; rw [HV.out]; rintro e w1 ⟨rfl, hb1⟩)
    go_ret2
    exact ⟨rfl, bel_call HB0.out hb1⟩
  · rw [HV.out]
    go_enter Try.func25, Try.ntmps25
    go_wp2_with (first
      | (go_at_call 67; refine (keGood_any _ _ _ _ ks _ hm (HA.out.below HB0.out)).mono ?_; rw [HV.out]; rintro e w1 ⟨rfl, hb1⟩
         have HB1 := Lib.hid (bel_call HB0.out hb1)
         have HC1 := Lib.hid (CU.out.call hb1)
         have l0 : w1.cell? ⟨w.heap.size, 0, none⟩ = some (.int .i64 d) := HC1.out.cell (show 0 < 2 by omega)
         have l1 : w1.cell? ⟨w.heap.size, 1, none⟩ = some (.slice A n c) := HC1.out.cell (show 1 < 2 by omega)
         clear hb1)
      | (go_at_call 73; refine (keIs_any d s _ _ _ ks _ HS.out HN.out HV.out).mono ?_; rintro e w3 ⟨rfl, hb3⟩))
    go_ret2
    exact ⟨rfl, bel_call HB1.out hb3⟩

set_option maxRecDepth 100000 in
set_option maxHeartbeats 4000000 in
theorem pinsOfKeyM_any (d : Int) (s : ByteArray) (A : Option Addr) (n c : Nat) (ks : List (List Int)) (w : World) (hm : n + lensAt ks n ≤ 1048576) (hs : s.size ≤ 1048576) (hA : KnobsA w A n ks) :
    Calls Try.prog 74 #[.agg #[.int .i64 d, .slice A n c], .string s] w (PinsOut w (okD d ks s) (okK d ks s) (okZ d ks s)) := by
  have HA := Lib.hid hA
  have HN := Lib.hid hA.len
  obtain ⟨W2, hW2⟩ : ∃ W2, (w.alloc (.cells #[.int .i64 d, .slice A n c] 27)).alloc (.cells #[.int .i64 0, .slice none 0 0] 27) = W2 := ⟨_, rfl⟩
  have HB2 := Lib.hid (show Below w.heap.size w W2 from by rw [← hW2]; (repeat (first | assumption | exact Below.refl _ _ | (refine Below.alloc ?_ (by first | omega | (simp; done) | (simp; omega)) _) | (refine Below.setCell ?_ (by first | omega | (simp; done) | (simp; omega)) _) | refine bel_drewN ?_ _ | refine bel_drew ?_ | (refine bel_call ?_ (by assumption)))))
  have CP := Lib.hid (show Cells W2 w.heap.size 2 (pF d (.slice A n c)) from by rw [← hW2]; exact (Cells.new (n := 2) rfl rfl).alloc _)
  have CQ := Lib.hid (show Cells W2 (w.heap.size + 1) 2 (pF 0 (.slice none 0 0)) from by rw [← hW2]; exact Cells.new (n := 2) (by simp) rfl)
  have HW := Lib.hid hW2
  clear hA hW2
  obtain ⟨v1, HV1⟩ : ∃ v, Hid (keyB d s = v) := ⟨_, Lib.hid rfl⟩
  obtain ⟨v2, HV2⟩ : ∃ v, Hid (pinsB d ks = v) := ⟨_, Lib.hid rfl⟩
  obtain ⟨v3, HV3⟩ : ∃ v, Hid (kindB d s.size d n = v) := ⟨_, Lib.hid rfl⟩
  have HZ : Hid (okZ d ks s = (v1 && v2 && v3)) := Lib.hid (by rw [okZ_eq, HV1.out, HV2.out, HN.out, HV3.out])
  have HPK : Hid (∀ W : World, Calls Try.prog 38 #[.int .i64 d, .string s] W (PinsOut W (kqD d s) (kqK d s) v1)) := Lib.hid (fun W => by have h := pinsOfKey_any d s W hs; rw [HV1.out] at h; exact h)
  have HKD : Hid (v1 = true → kqD d s = d ∧ kqK d s = kqL (dg s) s.size) := Lib.hid (fun h => kq_yes (HV1.out.trans h))
  have HKL : Hid (v1 = true → (kqK d s).length = s.size) := Lib.hid (fun h => by rw [(kq_yes (HV1.out.trans h)).2]; exact rwL_length _ _)
  have HOK : Hid (okZ d ks s = true → okD d ks s = d ∧ okK d ks s = kqL (dg s) s.size) := Lib.hid (fun h => by unfold okD okK; rw [h, if_pos rfl, if_pos rfl]; exact ⟨rfl, rfl⟩)
  have HNO : Hid (okZ d ks s = false → okD d ks s = 0 ∧ okK d ks s = []) := Lib.hid (fun h => by unfold okD okK; rw [h]; exact ⟨rfl, rfl⟩)
  by_cases hall : v1 = true ∧ v2 = true ∧ v3 = true
  · obtain ⟨rfl, rfl, rfl⟩ := hall
    obtain ⟨e1, e2⟩ := HOK.out (by rw [HZ.out]; rfl)
    obtain ⟨e3, e4⟩ := HKD.out rfl
    rw [e1, e2, HZ.out]
    rw [e3, e4] at HPK
    have HL : Hid ((kqL (dg s) s.size).length = s.size) := Lib.hid (rwL_length _ _)
    clear e1 e2 e3 e4 HOK HNO HKD HKL
    generalize kqL (dg s) s.size = K0 at HPK HL ⊢
    go_enter Try.func74, Try.ntmps74
    go_wp2_with fail
    rw [HW.out]
    refine (HPK.out W2).mono ?_
    rintro e w3 ⟨v3, rfl, hR3, hb3⟩
    obtain ⟨A3, c3, rfl⟩ := hR3.slice
    rw [HL.out] at hR3 ⊢
    have HBA := Lib.hid (show Below W2.heap.size W2 (w3.alloc (.cells #[.int .i64 d, .slice A3 s.size c3] 27)) from hb3.alloc hb3.size _)
    have HB4 := Lib.hid (bel_call HB2.out HBA.out)
    have HP4 := Lib.hid (CP.out.call HBA.out)
    have HQ4 := Lib.hid (CQ.out.call HBA.out)
    have HR4 := Lib.hid (hR3.alloc (.cells #[.int .i64 d, .slice A3 s.size c3] 27))
    have HT4 := Lib.hid (Cells.new (W := w3) (cs := #[.int .i64 d, .slice A3 s.size c3]) (t := 27) (g := w3.heap.size) (n := 2) rfl rfl)
    have hz3 : w.heap.size + 2 ≤ W2.heap.size := by have := CQ.out.lt; omega
    have p0 : (w3.alloc (.cells #[.int .i64 d, .slice A3 s.size c3] 27)).cell? ⟨w.heap.size, 0, none⟩ = some (.int .i64 d) := HP4.out.cell (show 0 < 2 by omega)
    have p1 : (w3.alloc (.cells #[.int .i64 d, .slice A3 s.size c3] 27)).cell? ⟨w.heap.size, 1, none⟩ = some (.slice A n c) := HP4.out.cell (show 1 < 2 by omega)
    clear hR3 hb3 HW CP CQ
    go_wp2_with (first
      | (go_at_call 23; refine (arePins_any _ _ _ _ ks _ hm (HA.out.below HB4.out)).mono ?_; rw [HV2.out]; rintro e w5 ⟨rfl, hb5⟩
         have HB5 := Lib.hid (bel_call HB4.out hb5)
         have HP5 := Lib.hid (HP4.out.call hb5)
         have HQ5 := Lib.hid (HQ4.out.call hb5)
         have HR5 := Lib.hid (HR4.out.call hb5)
         have HT5 := Lib.hid (HT4.out.call hb5)
         have s0 : w5.cell? ⟨w.heap.size, 0, none⟩ = some (.int .i64 d) := HP5.out.cell (show 0 < 2 by omega)
         have s1 : w5.cell? ⟨w.heap.size, 1, none⟩ = some (.slice A n c) := HP5.out.cell (show 1 < 2 by omega)
         have s2 : w5.cell? ⟨w3.heap.size, 0, none⟩ = some (.int .i64 d) := HT5.out.cell (show 0 < 2 by omega)
         have s3 : w5.cell? ⟨w3.heap.size, 1, none⟩ = some (.slice A3 s.size c3) := HT5.out.cell (show 1 < 2 by omega)
         clear hb5)
      | (go_at_call 115; refine (isOfKindOf_any _ _ _ _ _ _ _ _ _).mono ?_; rw [HV3.out]; rintro e w6 ⟨rfl, hb6⟩
         have HB6 := Lib.hid (bel_call HB5.out hb6)
         have HQ6 := Lib.hid (HQ5.out.call hb6)
         have HR6 := Lib.hid (HR5.out.call hb6)
         have HT6 := Lib.hid (HT5.out.call hb6)
         have q0 : w6.cell? ⟨w.heap.size + 1, 0, none⟩ = some (.int .i64 0) := HQ6.out.cell (show 0 < 2 by omega)
         have q1 : w6.cell? ⟨w.heap.size + 1, 1, none⟩ = some (.slice none 0 0) := HQ6.out.cell (show 1 < 2 by omega)
         have f0 := HQ6.out.frozen (show 0 < 2 by omega)
         have f1 := HQ6.out.frozen (show 1 < 2 by omega)
         have r0 : w6.cell? ⟨w3.heap.size, 0, none⟩ = some (.int .i64 d) := HT6.out.cell (show 0 < 2 by omega)
         have r1 : w6.cell? ⟨w3.heap.size, 1, none⟩ = some (.slice A3 s.size c3) := HT6.out.cell (show 1 < 2 by omega)
         clear hb6))
    refine bodyPost_ret (v := .tuple #[.agg #[.int .i64 d, .slice A3 s.size c3], .bool true]) (by simp [results, Try.results74, go_sem, q0, q1]) rfl ⟨_, rfl, ?_, ?_⟩
    · exact ((HR6.out.under (by show w.heap.size + 1 < W2.heap.size; omega) _).under (by show w.heap.size + 1 < W2.heap.size; omega) _).weak HB2.out.size
    · iterate 2 (refine Below.setCell ?_ (by show w.heap.size ≤ w.heap.size + 1; omega) _)
      exact HB6.out
  · have HF : Hid (okZ d ks s = false) := Lib.hid (by
      rw [HZ.out]
      rcases v1 with _ | _
      · rfl
      · rcases v2 with _ | _
        · rfl
        · rcases v3 with _ | _
          · rfl
          · exact absurd ⟨rfl, rfl, rfl⟩ hall)
    obtain ⟨e1, e2⟩ := HNO.out HF.out
    rw [e1, e2, HF.out]
    have HZ3 : Hid (v1 = true → v2 = true → v3 = false) := Lib.hid (fun a b => by
      rcases v3 with _ | _
      · rfl
      · exact absurd ⟨a, b, rfl⟩ hall)
    clear e1 e2 HOK HNO HZ
    generalize kqD d s = kd at HPK HKD
    generalize kqK d s = K0 at HPK HKD HKL
    obtain ⟨m, hm0⟩ : ∃ m, K0.length = m := ⟨_, rfl⟩
    have HM := Lib.hid hm0
    rw [hm0] at HKL
    have HKD0 : Hid (v1 = true → kd = d) := Lib.hid (fun h => (HKD.out h).1)
    clear hm0 HKD hall
    go_enter Try.func74, Try.ntmps74
    go_wp2_with fail
    rw [HW.out]
    refine (HPK.out W2).mono ?_
    rintro e w3 ⟨u3, rfl, hR3, hb3⟩
    obtain ⟨A3, c3, rfl⟩ := hR3.slice
    rw [HM.out]
    have HBA := Lib.hid (show Below W2.heap.size W2 (w3.alloc (.cells #[.int .i64 kd, .slice A3 m c3] 27)) from hb3.alloc hb3.size _)
    have HB4 := Lib.hid (bel_call HB2.out HBA.out)
    have HP4 := Lib.hid (CP.out.call HBA.out)
    have HQ4 := Lib.hid (CQ.out.call HBA.out)
    have HT4 := Lib.hid (Cells.new (W := w3) (cs := #[.int .i64 kd, .slice A3 m c3]) (t := 27) (g := w3.heap.size) (n := 2) rfl rfl)
    have p0 : (w3.alloc (.cells #[.int .i64 kd, .slice A3 m c3] 27)).cell? ⟨w.heap.size, 0, none⟩ = some (.int .i64 d) := HP4.out.cell (show 0 < 2 by omega)
    have p1 : (w3.alloc (.cells #[.int .i64 kd, .slice A3 m c3] 27)).cell? ⟨w.heap.size, 1, none⟩ = some (.slice A n c) := HP4.out.cell (show 1 < 2 by omega)
    have q0' : (w3.alloc (.cells #[.int .i64 kd, .slice A3 m c3] 27)).cell? ⟨w.heap.size + 1, 0, none⟩ = some (.int .i64 0) := HQ4.out.cell (show 0 < 2 by omega)
    have q1' : (w3.alloc (.cells #[.int .i64 kd, .slice A3 m c3] 27)).cell? ⟨w.heap.size + 1, 1, none⟩ = some (.slice none 0 0) := HQ4.out.cell (show 1 < 2 by omega)
    have f0' := HQ4.out.frozen (show 0 < 2 by omega)
    have f1' := HQ4.out.frozen (show 1 < 2 by omega)
    clear hR3 hb3 HW CP CQ
    rcases v1 with _ | _
    · go_wp2_with fail
      refine bodyPost_ret (v := .tuple #[.agg #[.int .i64 0, .slice none 0 0], .bool false]) (by simp [results, Try.results74, go_sem, q0', q1']) rfl (pinsOut_no rfl ?_)
      iterate 2 (refine Below.setCell ?_ (by show w.heap.size ≤ w.heap.size + 1; omega) _)
      exact HB4.out
    · rcases v2 with _ | _
      · go_wp2_with (first
          | (go_at_call 23; refine (arePins_any _ _ _ _ ks _ hm (HA.out.below HB4.out)).mono ?_; rw [HV2.out]; rintro e w5 ⟨rfl, hb5⟩
             have HB5 := Lib.hid (bel_call HB4.out hb5)
             have HQ5 := Lib.hid (HQ4.out.call hb5)
             have q0 : w5.cell? ⟨w.heap.size + 1, 0, none⟩ = some (.int .i64 0) := HQ5.out.cell (show 0 < 2 by omega)
             have q1 : w5.cell? ⟨w.heap.size + 1, 1, none⟩ = some (.slice none 0 0) := HQ5.out.cell (show 1 < 2 by omega)
             have f0 := HQ5.out.frozen (show 0 < 2 by omega)
             have f1 := HQ5.out.frozen (show 1 < 2 by omega)
             clear hb5))
        refine bodyPost_ret (v := .tuple #[.agg #[.int .i64 0, .slice none 0 0], .bool false]) (by simp [results, Try.results74, go_sem, q0, q1]) rfl (pinsOut_no rfl ?_)
        iterate 2 (refine Below.setCell ?_ (by show w.heap.size ≤ w.heap.size + 1; omega) _)
        exact HB5.out
      · have h3 := HZ3.out rfl rfl
        subst h3
        have hkm := HKL.out rfl
        subst hkm
        have hkd := HKD0.out rfl
        subst hkd
        go_wp2_with (first
          | (go_at_call 23; refine (arePins_any _ _ _ _ ks _ hm (HA.out.below HB4.out)).mono ?_; rw [HV2.out]; rintro e w5 ⟨rfl, hb5⟩
             have HB5 := Lib.hid (bel_call HB4.out hb5)
             have HP5 := Lib.hid (HP4.out.call hb5)
             have HQ5 := Lib.hid (HQ4.out.call hb5)
             have HT5 := Lib.hid (HT4.out.call hb5)
             have s0 : w5.cell? ⟨w.heap.size, 0, none⟩ = some (.int .i64 kd) := HP5.out.cell (show 0 < 2 by omega)
             have s1 : w5.cell? ⟨w.heap.size, 1, none⟩ = some (.slice A n c) := HP5.out.cell (show 1 < 2 by omega)
             have s2 : w5.cell? ⟨w3.heap.size, 0, none⟩ = some (.int .i64 kd) := HT5.out.cell (show 0 < 2 by omega)
             have s3 : w5.cell? ⟨w3.heap.size, 1, none⟩ = some (.slice A3 s.size c3) := HT5.out.cell (show 1 < 2 by omega)
             clear hb5)
          | (go_at_call 115; refine (isOfKindOf_any _ _ _ _ _ _ _ _ _).mono ?_; rw [HV3.out]; rintro e w6 ⟨rfl, hb6⟩
             have HB6 := Lib.hid (bel_call HB5.out hb6)
             have HQ6 := Lib.hid (HQ5.out.call hb6)
             have q0 : w6.cell? ⟨w.heap.size + 1, 0, none⟩ = some (.int .i64 0) := HQ6.out.cell (show 0 < 2 by omega)
             have q1 : w6.cell? ⟨w.heap.size + 1, 1, none⟩ = some (.slice none 0 0) := HQ6.out.cell (show 1 < 2 by omega)
             have f0 := HQ6.out.frozen (show 0 < 2 by omega)
             have f1 := HQ6.out.frozen (show 1 < 2 by omega)
             clear hb6))
        refine bodyPost_ret (v := .tuple #[.agg #[.int .i64 0, .slice none 0 0], .bool false]) (by simp [results, Try.results74, go_sem, q0, q1]) rfl (pinsOut_no rfl ?_)
        iterate 2 (refine Below.setCell ?_ (by show w.heap.size ≤ w.heap.size + 1; omega) _)
        exact HB6.out

theorem isKey_any (d : Int) (s : ByteArray) (A : Option Addr) (n c : Nat) (ks : List (List Int)) (w : World) (hm : n + lensAt ks n ≤ 1048576) (hs : s.size ≤ 1048576) (hA : KnobsA w A n ks) :
    Calls Try.prog 26 #[.agg #[.int .i64 d, .slice A n c], .string s] w fun e w' => e = .returned (.tuple #[.bool (okZ d ks s), .bool (pinsB d ks)]) ∧ Below w.heap.size w w' := by
  have HB0 := Lib.hid (show Below w.heap.size w (w.alloc (.cells #[.int .i64 d, .slice A n c] 27)) from (Below.refl _ _).alloc (Nat.le_refl _) _)
  have CU := Lib.hid (Cells.new (W := w) (cs := #[.int .i64 d, .slice A n c]) (t := 27) (g := w.heap.size) (n := 2) rfl rfl)
  have HA := Lib.hid hA
  clear hA
  generalize hz : okZ d ks s = z
  have HZ := Lib.hid hz
  clear hz
  obtain ⟨od, hod⟩ : ∃ x, okD d ks s = x := ⟨_, rfl⟩
  obtain ⟨K0, hk0⟩ : ∃ x, okK d ks s = x := ⟨_, rfl⟩
  have HPK : Hid (∀ W : World, KnobsA W A n ks → Calls Try.prog 74 #[.agg #[.int .i64 d, .slice A n c], .string s] W (PinsOut W od K0 z)) := Lib.hid (fun W h => by have h := pinsOfKeyM_any d s A n c ks W hm hs h; rw [hod, hk0, HZ.out] at h; exact h)
  clear hod hk0
  obtain ⟨m, hm0⟩ : ∃ m, K0.length = m := ⟨_, rfl⟩
  have HM := Lib.hid hm0
  clear hm0
  go_enter Try.func26, Try.ntmps26
  go_wp2_with (first
    | (go_at_call 74; refine (HPK.out _ (HA.out.below HB0.out)).mono ?_; rintro e w1 ⟨v1, rfl, hR1, hb1⟩; obtain ⟨A1, c1, rfl⟩ := hR1.slice; rw [HM.out]
       have HB1 := Lib.hid ((bel_call HB0.out hb1).alloc (bel_call HB0.out hb1).size (.cells #[.int .i64 od, .slice A1 m c1] 27))
       have HC1 := Lib.hid ((CU.out.call hb1).alloc (.cells #[.int .i64 od, .slice A1 m c1] 27))
       have l0 : (w1.alloc (.cells #[.int .i64 od, .slice A1 m c1] 27)).cell? ⟨w.heap.size, 0, none⟩ = some (.int .i64 d) := HC1.out.cell (show 0 < 2 by omega)
       have l1 : (w1.alloc (.cells #[.int .i64 od, .slice A1 m c1] 27)).cell? ⟨w.heap.size, 1, none⟩ = some (.slice A n c) := HC1.out.cell (show 1 < 2 by omega)
       clear hb1 hR1)
    | (go_at_call 23; refine (arePins_any _ _ _ _ ks _ hm (HA.out.below HB1.out)).mono ?_; rintro e w3 ⟨rfl, hb3⟩))
  go_ret2
  exact ⟨rfl, bel_call HB1.out hb3⟩

end Go.Proofs.Ytgcadcekkojidaa
