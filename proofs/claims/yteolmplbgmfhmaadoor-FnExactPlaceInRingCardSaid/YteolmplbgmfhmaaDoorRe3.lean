/- The place of a code in the least ring: both programs' answers. No conditions, whatever the library's own variable holds. -/
import Derived.Test.YteolmplbgmfhmaaDoorRi
import Derived.Test.YteolmplbgmfhmaaDoorHc
namespace Go.Proofs.YteolmplbgmfhmaaDoor
open Go.ChangeShapes Go.WideShapes Go.ChangeAt Go.RowKit Go.Joins

/-- The library's own variable holds some integer. -/
def Mx (w : World) : Prop := ∃ m, w.cell? ⟨0, 0, none⟩ = some (.int .i64 m)

theorem Mx.lt {w : World} (h : Mx w) : 0 < w.heap.size := by
  obtain ⟨m, hm⟩ := h
  exact cell_ltR hm

theorem Mx.below {B : Nat} {w w' : World} (h : Mx w) (hb : Below B w w') (hB : 0 < B) : Mx w' := by
  obtain ⟨m, hm⟩ := h
  exact ⟨m, by rw [hb.cell (p := ⟨0, 0, none⟩) hB]; exact hm⟩

theorem index_mx (s t : ByteArray) (w : World) (hs : s.size ≤ 2000) (hm : Mx w) :
    Calls Tryd.prog 35 #[.string s, .string t] w fun e w' => e = .returned (.int .i64 (Lib.index s.data.toList t.data.toList)) ∧ w' = w := by
  obtain ⟨m, hm⟩ := hm
  exact Tryd.strings_Index s t m w (by omega) hm

/-- A lock of few codes and a code of it. -/
def plB (a b : Int) (s : ByteArray) : Bool := riB a b && askB a b s

def plZ (a b : Int) (s : ByteArray) : Int := if plB a b s then Lib.index (opT a b).data.toList s.data.toList else 0

theorem pl_no {a b : Int} {s : ByteArray} (h : plB a b s = false) : plZ a b s = 0 := by unfold plZ; rw [h]; rfl

theorem pl_yes {a b : Int} {s : ByteArray} (h : plB a b s = true) : plZ a b s = Lib.index (opT a b).data.toList s.data.toList := by unfold plZ; rw [h]; rfl

theorem op_list {n : Nat} {b : Int} (h : riB n b = true) : (opT n b).data.toList = (arW n (ringW b n)).map byt := by
  rw [opT_yes h, arT_list, textOf_list]
  unfold arW
  rw [List.map_append, List.map_take]

/-- Each code is met in the text that opens all. -/
theorem pl_met {n : Nat} {b : Int} {s : ByteArray} (h : riB n b = true) (hs : askB n b s = true) : ∃ j, j < cnN n b ∧ sbT (opT n b) j n = s := by
  have hg := riB_good h
  have hc : cnN n b = (pw b n).toNat := by unfold cnN; rw [Int.toNat_natCast]
  obtain ⟨j, hj, e⟩ := ring_meets h (i := nuN n b s) (by rw [← hc]; exact nuN_lt hs)
  refine ⟨j, by rw [hc]; exact hj, ?_⟩
  have hrs := ring_size h
  have hoz : (opT n b).size = cnN n b + (n - 1) := by rw [opT_yes h, arT_size (by omega), hrs.1]
  obtain ⟨h1, h6, h2, h10⟩ := good_yes hg
  have hask : askB n b (sbT (opT n b) j n) = true := allD_ask hg (by
    rw [opT_yes h]
    refine allD_ar ?_
    unfold allD
    rw [List.all_eq_true, textOf_list]
    intro c hcm
    obtain ⟨d, hd, rfl⟩ := List.mem_map.1 hcm
    have := low_mem (ringW_low h) hd
    unfold digitB byt
    rw [UInt8.toNat_ofNat']
    simp
    omega) (by omega)
  refine nuN_inj hask hs ?_
  rw [← e]
  have hz : dg (sbT (opT n b) j n) = ((arW n (ringW b n)).drop j).take n := by
    unfold dg
    rw [sbT_list, op_list h, ← List.map_drop, ← List.map_take, List.map_map]
    refine (List.map_congr_left fun d hd => ?_).trans (List.map_id _)
    have hd2 : d ∈ ringW b n := by
      have h3 := List.mem_of_mem_drop (List.mem_of_mem_take hd)
      unfold arW at h3
      rw [List.mem_append] at h3
      exact h3.elim id List.mem_of_mem_take
    have := low_mem (ringW_low h) hd2
    show ((byt d).toNat : Int) - 48 = d
    unfold byt
    rw [UInt8.toNat_ofNat']
    omega
  unfold nuN
  rw [numZ_yes hask, sbT_size (by omega), hz]
  have key : ∀ k, k ≤ n → numAt b (((arW n (ringW b n)).drop j).take n) k = numAt b ((arW n (ringW b n)).drop j) k := fun k => by
    induction k with
    | zero => intro _; rfl
    | succ k ih =>
      intro hk
      rw [numAt, numAt, ih (by omega)]
      congr 1
      rw [List.getD, List.getD, List.getElem?_take_of_lt (by omega)]
  rw [key n (Nat.le_refl _)]

set_option maxRecDepth 100000 in
set_option maxHeartbeats 2000000 in
theorem placeInRing_any (a b : Int) (s : ByteArray) (w : World) (hs : s.size ≤ maxLen) (hm : Mx w) :
    Calls Tryd.prog 15 #[.agg #[.int .i64 a, .int .i64 b], .string s] w fun e w' => e = .returned (.tuple #[.int .i64 (plZ a b s), .bool (plB a b s)]) ∧ Below w.heap.size w w' := by
  have HS := Lib.hid hs
  have hml := hm.lt
  have HM := Lib.hid hm
  clear hm hs
  by_cases hg : riB a b = true
  · have HG := Lib.hid hg
    obtain ⟨n, rfl⟩ : ∃ n : Nat, a = n := ⟨a.toNat, by have := good_yes (riB_good hg); omega⟩
    have hrs := ring_size hg
    have hoz : (opT n b).size ≤ 2000 := by
      rw [opT_yes hg, arT_size (by omega), hrs.1]
      have := good_yes (riB_good hg)
      omega
    have HOZ := Lib.hid hoz
    clear hg hrs hoz
    by_cases hc : askB n b s = true
    · have HC := Lib.hid hc
      have HP : Hid (plB n b s = true) := Lib.hid (by unfold plB; rw [HG.out, hc]; rfl)
      have HZ := Lib.hid (pl_yes HP.out)
      clear hc
      go_enter Tryd.func15, Tryd.ntmps15
      go_wp2_with (first | (go_at_call 24; refine (openingText_any _ _ _).mono ?_; rw [HG.out]; rintro e w1 ⟨rfl, hb⟩; have HB := Lib.hid (show Below w.heap.size w w1 from by (repeat (first | assumption | exact Below.refl _ _ | (refine Below.alloc ?_ (by first | omega | (simp; done) | (simp; omega)) _) | (refine Below.setCell ?_ (by first | omega | (simp; done) | (simp; omega)) _) | refine bel_drewN ?_ _ | refine bel_drew ?_ | (refine bel_call ?_ (by assumption))))); have z1 : w.heap.size < w1.heap.size := (by have := hb.size; simp at this; omega); have m0 : w1.cell? ⟨w.heap.size, 0, none⟩ = some (.int .i64 n) := (by rw [hb.cell (p := ⟨w.heap.size, 0, none⟩) (by simp)]; simp); have m1 : w1.cell? ⟨w.heap.size, 1, none⟩ = some (.int .i64 b) := (by rw [hb.cell (p := ⟨w.heap.size, 1, none⟩) (by simp)]; simp); clear hb) | (go_at_call 34; refine (hasCode_any _ _ _ _ HS.out).mono ?_; rw [ask_eq, HC.out]; rintro e w2 ⟨rfl, hb2⟩; have HB2 := Lib.hid (bel_call HB.out hb2); clear hb2) | (go_at_call 35; refine (index_mx _ _ _ HOZ.out (HM.out.below HB2.out hml)).mono ?_; rw [← HZ.out]; rintro e w4 ⟨rfl, rfl⟩))
      go_ret2
      exact ⟨by rw [HP.out]; rfl, HB2.out⟩
    · have HC := Lib.hid (Bool.eq_false_iff.2 hc)
      have HP : Hid (plB n b s = false) := Lib.hid (by unfold plB; rw [HC.out, Bool.and_false])
      clear hc
      go_enter Tryd.func15, Tryd.ntmps15
      go_wp2_with (first | (go_at_call 24; refine (openingText_any _ _ _).mono ?_; rw [HG.out]; rintro e w1 ⟨rfl, hb⟩; obtain ⟨hc, hf, hz⟩ := bcell hb; have hz0 : w.heap.size < w1.heap.size := by (try simp at hz); omega) | (go_at_call 34; refine (hasCode_any _ _ _ _ HS.out).mono ?_; rw [ask_eq, HC.out]; rintro e w1 ⟨rfl, hb⟩; obtain ⟨hc, hf, hz⟩ := bcell hb; have hz0 : w.heap.size < w1.heap.size := by (try simp at hz); omega))
      go_ret2
      refine ⟨by rw [HP.out, pl_no HP.out]; rfl, ?_⟩
      (repeat (first | assumption | exact Below.refl _ _ | (refine Below.alloc ?_ (by first | omega | (simp; done) | (simp; omega)) _) | (refine Below.setCell ?_ (by first | omega | (simp; done) | (simp; omega)) _) | refine bel_drewN ?_ _ | refine bel_drew ?_ | (refine bel_call ?_ (by assumption))))
  · have HG := Lib.hid (Bool.eq_false_iff.2 hg)
    have HP : Hid (plB a b s = false) := Lib.hid (by unfold plB; rw [HG.out]; rfl)
    clear hg
    go_enter Tryd.func15, Tryd.ntmps15
    go_wp2_with (go_at_call 24; refine (openingText_any _ _ _).mono ?_; rw [HG.out]; rintro e w1 ⟨rfl, hb⟩; obtain ⟨hc, hf, hz⟩ := bcell hb; have hz0 : w.heap.size < w1.heap.size := by (try simp at hz); omega)
    go_ret2
    refine ⟨by rw [HP.out, pl_no HP.out]; rfl, ?_⟩
    (repeat (first | assumption | exact Below.refl _ _ | (refine Below.alloc ?_ (by first | omega | (simp; done) | (simp; omega)) _) | (refine Below.setCell ?_ (by first | omega | (simp; done) | (simp; omega)) _) | refine bel_drewN ?_ _ | refine bel_drew ?_ | (refine bel_call ?_ (by assumption))))

set_option maxRecDepth 100000 in
set_option maxHeartbeats 4000000 in
theorem specPlaceInRing_any (a b : Int) (s : ByteArray) (w : World) (hs : s.size ≤ maxLen) :
    Calls Tryd.prog 14 #[.agg #[.int .i64 a, .int .i64 b], .string s] w fun e w' => e = .returned (.tuple #[.int .i64 (plZ a b s), .bool (plB a b s)]) ∧ Below w.heap.size w w' := by
  have HS := Lib.hid hs
  clear hs
  by_cases hg : riB a b = true
  · have HG := Lib.hid hg
    obtain ⟨n, rfl⟩ : ∃ n : Nat, a = n := ⟨a.toNat, by have := good_yes (riB_good hg); omega⟩
    have HGG := Lib.hid (riB_good hg)
    by_cases hc : askB n b s = true
    · have HC := Lib.hid hc
      have HCODE : Hid (isCodeB n b s = true) := Lib.hid (asked hc).code
      have HP : Hid (plB n b s = true) := Lib.hid (by unfold plB; rw [HG.out, hc]; rfl)
      have HZ := Lib.hid (pl_yes HP.out)
      have hop := opT_yes hg
      have hrs := ring_size hg
      have hmet := pl_met hg hc
      obtain ⟨h1, h6, _, _⟩ := good_yes (riB_good hg)
      have hsn : s.size = n := by have := (asked hc).size; omega
      obtain ⟨R, hR⟩ : ∃ R, textOf (ringW b n) = R := ⟨_, rfl⟩
      rw [hR] at hrs hop
      have HRR := Lib.hid hR
      have hoz : (arT n R).size = cnN n b + (n - 1) := by rw [arT_size (by omega), hrs.1]
      have HCT : Hid ((codesT (rdT true n R) n).length = cnN n b) := Lib.hid (by
        show (codesT (arT n R) n).length = _
        rw [codesT_length, hoz]
        omega)
      have HAT : Hid (∀ k, k < cnN n b → (codesT (rdT true n R) n).getD k ByteArray.empty = sbT (opT n b) k n) := Lib.hid (fun k hk => by
        rw [hop, List.getD, show rdT true n R = arT n R from rfl, codesT_at (by omega)]
        rfl)
      have HIX : Hid (∀ k : Nat, k < cnN n b → sbT (opT n b) k n = s → (∀ j, j < k → sbT (opT n b) j n ≠ s) → plZ n b s = k) := Lib.hid (fun k hk he hne => by
        rw [HZ.out]
        rcases index_cases (opT n b) s (by omega) with ⟨_, h⟩ | ⟨i, h, hi, hie, hine⟩
        · rw [hsn] at h
          exact absurd he (h k (by rw [hop, hoz]; omega))
        · rw [hsn] at hie hine
          rw [h]
          have : i = k := by
            rcases Nat.lt_trichotomy i k with h1 | h1 | h1
            · exact absurd hie (hne i h1)
            · exact h1
            · exact absurd he (hine k h1)
          rw [this])
      have HMET := Lib.hid hmet
      have hR15 : R.size ≤ 1500 ∧ n ≤ R.size + 1 := by omega
      obtain ⟨hR15, hRn⟩ := hR15
      have hcn := hrs.2.1
      clear hg hc hop hrs hmet hR hoz hsn
      generalize cnN n b = C at HCT HAT HIX HMET hcn
      go_enter Tryd.func14, Tryd.ntmps14
      go_wp2_with (first | (go_at_call 25; refine (riGood_any _ _ _).mono ?_; rw [HG.out]; rintro e w1 ⟨rfl, hb⟩; obtain ⟨hc, hf, hz⟩ := bcell hb; have hz0 : w.heap.size < w1.heap.size := by (try simp at hz); omega) | (go_at_call 32; refine (whCode_any _ _ _ _ HS.out HGG.out).mono ?_; rw [HCODE.out]; rintro e w2 ⟨rfl, hb2⟩; have HB2 := Lib.hid (show Below w.heap.size w w2 from by (repeat (first | assumption | exact Below.refl _ _ | (refine Below.alloc ?_ (by first | omega | (simp; done) | (simp; omega)) _) | (refine Below.setCell ?_ (by first | omega | (simp; done) | (simp; omega)) _) | refine bel_drewN ?_ _ | refine bel_drew ?_ | (refine bel_call ?_ (by assumption))))); have z2 : w.heap.size < w2.heap.size := (by have := hb2.size; omega); have m0 : w2.cell? ⟨w.heap.size, 0, none⟩ = some (.int .i64 n) := (by rw [hb2.cell (p := ⟨w.heap.size, 0, none⟩) hz0, hb.cell (p := ⟨w.heap.size, 0, none⟩) (by simp)]; simp); have m1 : w2.cell? ⟨w.heap.size, 1, none⟩ = some (.int .i64 b) := (by rw [hb2.cell (p := ⟨w.heap.size, 1, none⟩) hz0, hb.cell (p := ⟨w.heap.size, 1, none⟩) (by simp)]; simp); clear hb2 hc hf hz hb))
      go_region_with (first | (go_at_call 26; refine (riLeast_any _ _ _ HG.out).mono ?_; rw [HRR.out]; rintro e w4 ⟨rfl, hb4⟩; have HB4 := Lib.hid (show Below w.heap.size w w4 from by first | exact bel_call HB2.out hb4 | exact bel_call (bel_drew HB2.out) hb4 | exact bel_call (bel_drewN HB2.out _) hb4); have q0 : w4.cell? ⟨w.heap.size, 0, none⟩ = some (.int .i64 n) := (by rw [hb4.cell (p := ⟨w.heap.size, 0, none⟩) z2]; exact m0); have q1 : w4.cell? ⟨w.heap.size, 1, none⟩ = some (.int .i64 b) := (by rw [hb4.cell (p := ⟨w.heap.size, 1, none⟩) z2]; exact m1); clear hb4) | (go_at_call 33; refine (riCodes_any _ _ _ true _ HGG.out hR15 (fun _ => hRn)).mono ?_; rw [HCT.out]; rintro e w5 ⟨A, c5, rfl, hO5, hb5⟩; have HB5 := Lib.hid (bel_call HB4.out hb5); have HO5 := Lib.hid hO5; clear hb5 hO5))
      all_goals
        go_wp2
        go_simp
        go_loopw [6, 22] (fun _ i wr => ∃ k : Nat, k ≤ C ∧ i = .int .i64 k ∧ (∀ j, j < k → sbT (opT n b) j n ≠ s) ∧ OwnS wr 0 A C (codesT (rdT true n R) n) ∧ Below w.heap.size w wr) (fun _ i _ => C - (intOf i).toNat)
        case atStart => exact ⟨0, by omega, rfl, fun j hj => by omega, HO5.out.base (Nat.zero_le _), HB5.out⟩
        case round =>
          obtain ⟨k, hk, rfl, hall, hO, hB⟩ := hrel
          have HALL := Lib.hid hall
          have HOR := Lib.hid hO
          clear hall hO
          by_cases hlt : k < C
          · obtain ⟨g, rfl, _, hC⟩ := HOR.out.lt hlt
            have hcl := hC.cell hlt
            unfold strF at hcl
            rw [HAT.out k hlt] at hcl
            by_cases heq : sbT (opT n b) k n = s
            · have HF := Lib.hid (HIX.out k hlt heq HALL.out)
              rw [heq] at hcl
              clear hC heq
              go_wp2
              go_ret2
              exact ⟨by rw [HP.out, HF.out]; rfl, hB⟩
            · have HNX : Hid (∀ j, j < k + 1 → sbT (opT n b) j n ≠ s) := Lib.hid (fun j hj => by
                by_cases e : j = k
                · rw [e]; exact heq
                · exact HALL.out j (by omega))
              obtain ⟨u, hu⟩ : ∃ u, sbT (opT n b) k n = u := ⟨_, rfl⟩
              rw [hu] at hcl heq
              have hne := bytesR heq
              clear hC hu heq
              go_wp2
              go_roundw
              case rel => exact ⟨k + 1, by omega, by go_num, HNX.out, HOR.out, hB⟩
              case measure => simp [intOf]; omega
          · exfalso
            obtain ⟨j, hj, he⟩ := HMET.out
            exact HALL.out j (by omega) he
    · have HC := Lib.hid (Bool.eq_false_iff.2 hc)
      have HP : Hid (plB n b s = false) := Lib.hid (by unfold plB; rw [HC.out, Bool.and_false])
      have HCODE : Hid (isCodeB n b s = false) := Lib.hid (by
        have := HC.out
        unfold askB at this
        rwa [HGG.out, Bool.true_and] at this)
      clear hc hg
      go_enter Tryd.func14, Tryd.ntmps14
      go_wp2_with (first | (go_at_call 25; refine (riGood_any _ _ _).mono ?_; rw [HG.out]; rintro e w1 ⟨rfl, hb⟩; obtain ⟨hc, hf, hz⟩ := bcell hb; have hz0 : w.heap.size < w1.heap.size := by (try simp at hz); omega) | (go_at_call 32; refine (whCode_any _ _ _ _ HS.out HGG.out).mono ?_; rw [HCODE.out]; rintro e w1 ⟨rfl, hb⟩; obtain ⟨hc, hf, hz⟩ := bcell hb; have hz0 : w.heap.size < w1.heap.size := by (try simp at hz); omega))
      go_ret2
      refine ⟨by rw [HP.out, pl_no HP.out]; rfl, ?_⟩
      (repeat (first | assumption | exact Below.refl _ _ | (refine Below.alloc ?_ (by first | omega | (simp; done) | (simp; omega)) _) | (refine Below.setCell ?_ (by first | omega | (simp; done) | (simp; omega)) _) | refine bel_drewN ?_ _ | refine bel_drew ?_ | (refine bel_call ?_ (by assumption))))
  · have HG := Lib.hid (Bool.eq_false_iff.2 hg)
    have HP : Hid (plB a b s = false) := Lib.hid (by unfold plB; rw [HG.out]; rfl)
    clear hg
    go_enter Tryd.func14, Tryd.ntmps14
    go_wp2_with (go_at_call 25; refine (riGood_any _ _ _).mono ?_; rw [HG.out]; rintro e w1 ⟨rfl, hb⟩; obtain ⟨hc, hf, hz⟩ := bcell hb; have hz0 : w.heap.size < w1.heap.size := by (try simp at hz); omega)
    go_ret2
    refine ⟨by rw [HP.out, pl_no HP.out]; rfl, ?_⟩
    (repeat (first | assumption | exact Below.refl _ _ | (refine Below.alloc ?_ (by first | omega | (simp; done) | (simp; omega)) _) | (refine Below.setCell ?_ (by first | omega | (simp; done) | (simp; omega)) _) | refine bel_drewN ?_ _ | refine bel_drew ?_ | (refine bel_call ?_ (by assumption))))

end Go.Proofs.YteolmplbgmfhmaaDoor
