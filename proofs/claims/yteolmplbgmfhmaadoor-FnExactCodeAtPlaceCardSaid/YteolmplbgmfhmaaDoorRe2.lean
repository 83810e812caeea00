/- The code at a place of the least ring: both programs' answers. No conditions. -/
import Derived.Test.YteolmplbgmfhmaaDoorRi
namespace Go.Proofs.YteolmplbgmfhmaaDoor
open Go.ChangeShapes Go.WideShapes Go.ChangeAt Go.RowKit Go.Joins

/-- A lock of few codes, and a place of its rings. -/
def caB (a b x : Int) : Bool := riB a b && inB x 0 ((cnN a b : Int) - 1)

def caT (a b x : Int) : ByteArray := if caB a b x then sbT (opT a b) x.toNat a.toNat else ⟨#[]⟩

theorem ca_no {a b x : Int} (h : caB a b x = false) : caT a b x = ⟨#[]⟩ := by unfold caT; rw [h]; rfl

theorem ca_yes {n k : Nat} {b : Int} (h : caB n b k = true) : caT n b k = (opT n b).extract k (k + n) := by unfold caT; rw [h]; rfl

set_option maxHeartbeats 2000000 in
theorem codeAtPlace_any (a b x : Int) (w : World) :
    Calls Tryd.prog 17 #[.agg #[.int .i64 a, .int .i64 b], .int .i64 x] w fun e w' => e = .returned (.tuple #[.string (caT a b x), .bool (caB a b x)]) ∧ Below w.heap.size w w' := by
  by_cases hg : riB a b = true
  · have HG := Lib.hid hg
    obtain ⟨n, rfl⟩ : ∃ n : Nat, a = n := ⟨a.toNat, by have := good_yes (riB_good hg); omega⟩
    have HRL := Lib.hid (rlZ_cn hg)
    have hrs := ring_size hg
    have hoz : (opT n b).size = cnN n b + (n - 1) := by rw [opT_yes hg, arT_size (by omega), hrs.1]
    obtain ⟨hn1, _, _, _⟩ := good_yes (riB_good hg)
    have hcn := hrs.2.1
    by_cases hx : 0 ≤ x ∧ x ≤ (cnN n b : Int) - 1
    · have HT : Hid (caB n b x = true) := Lib.hid (by unfold caB inB; rw [hg, decide_eq_true hx]; rfl)
      obtain ⟨hx0, hx1⟩ := hx
      obtain ⟨k, rfl⟩ : ∃ k : Nat, x = k := ⟨x.toNat, by omega⟩
      have HC := Lib.hid (ca_yes HT.out)
      have hle : (k : Int) + (n : Int) ≤ ((opT n b).size : Int) := by omega
      obtain ⟨O, hO⟩ : ∃ O, opT n b = O := ⟨_, rfl⟩
      have HO := Lib.hid hO
      rw [hO] at hoz HC hle
      generalize cnN n b = C at HRL hoz hcn hx1
      have HOP : Hid (opT n b = opT n b) := Lib.hid rfl
      clear hg hrs hoz HOP hO
      go_enter Tryd.func17, Tryd.ntmps17
      go_wp2_with (first | (go_at_call 38; refine (ringLength_any _ _ _).mono ?_; rw [HG.out, HRL.out]; rintro e w1 ⟨rfl, hb⟩; have HB := Lib.hid (show Below w.heap.size w w1 from by (repeat (first | assumption | exact Below.refl _ _ | (refine Below.alloc ?_ (by first | omega | (simp; done) | (simp; omega)) _) | (refine Below.setCell ?_ (by first | omega | (simp; done) | (simp; omega)) _) | refine bel_drewN ?_ _ | refine bel_drew ?_ | (refine bel_call ?_ (by assumption))))); have z1 : w.heap.size < w1.heap.size := (by have := hb.size; simp at this; omega); have m0 : w1.cell? ⟨w.heap.size, 0, none⟩ = some (.int .i64 n) := (by rw [hb.cell (p := ⟨w.heap.size, 0, none⟩) (by simp)]; simp); have m1 : w1.cell? ⟨w.heap.size, 1, none⟩ = some (.int .i64 b) := (by rw [hb.cell (p := ⟨w.heap.size, 1, none⟩) (by simp)]; simp); clear hb) | (go_at_call 24; refine (openingText_any _ _ _).mono ?_; rw [HG.out, HO.out]; rintro e w2 ⟨rfl, hb2⟩; have HB2 := Lib.hid (bel_call HB.out hb2); have q0 : w2.cell? ⟨w.heap.size, 0, none⟩ = some (.int .i64 n) := (by rw [hb2.cell (p := ⟨w.heap.size, 0, none⟩) z1]; exact m0); clear hb2))
      go_ret2
      exact ⟨by rw [HT.out, HC.out]; rfl, HB2.out⟩
    · have HT : Hid (caB n b x = false) := Lib.hid (by unfold caB inB; rw [decide_eq_false hx, Bool.and_false])
      have hx' : x < 0 ∨ (0 ≤ x ∧ (cnN n b : Int) ≤ x) := by omega
      clear hg hrs hoz hx
      generalize cnN n b = C at HRL hcn hx'
      rcases hx' with hx' | ⟨hx1, hx2⟩
      all_goals
        go_enter Tryd.func17, Tryd.ntmps17
        go_wp2_with (go_at_call 38; refine (ringLength_any _ _ _).mono ?_; rw [HG.out, HRL.out]; rintro e w1 ⟨rfl, hb⟩; obtain ⟨hc, hf, hz⟩ := bcell hb; have hz0 : w.heap.size < w1.heap.size := by (try simp at hz); omega)
        go_ret2
        refine ⟨by rw [HT.out, ca_no HT.out]; rfl, ?_⟩
        (repeat (first | assumption | exact Below.refl _ _ | (refine Below.alloc ?_ (by first | omega | (simp; done) | (simp; omega)) _) | (refine Below.setCell ?_ (by first | omega | (simp; done) | (simp; omega)) _) | refine bel_drewN ?_ _ | refine bel_drew ?_ | (refine bel_call ?_ (by assumption))))
  · have HG := Lib.hid (Bool.eq_false_iff.2 hg)
    have HT : Hid (caB a b x = false) := Lib.hid (by unfold caB; rw [HG.out]; rfl)
    clear hg
    go_enter Tryd.func17, Tryd.ntmps17
    go_wp2_with (go_at_call 38; refine (ringLength_any _ _ _).mono ?_; rw [HG.out]; rintro e w1 ⟨rfl, hb⟩; obtain ⟨hc, hf, hz⟩ := bcell hb; have hz0 : w.heap.size < w1.heap.size := by (try simp at hz); omega)
    go_ret2
    refine ⟨by rw [HT.out, ca_no HT.out]; rfl, ?_⟩
    (repeat (first | assumption | exact Below.refl _ _ | (refine Below.alloc ?_ (by first | omega | (simp; done) | (simp; omega)) _) | (refine Below.setCell ?_ (by first | omega | (simp; done) | (simp; omega)) _) | refine bel_drewN ?_ _ | refine bel_drew ?_ | (refine bel_call ?_ (by assumption))))

set_option maxRecDepth 100000 in
set_option maxHeartbeats 4000000 in
theorem specCodeAtPlace_any (a b x : Int) (w : World) :
    Calls Tryd.prog 16 #[.agg #[.int .i64 a, .int .i64 b], .int .i64 x] w fun e w' => e = .returned (.tuple #[.string (caT a b x), .bool (caB a b x)]) ∧ Below w.heap.size w w' := by
  by_cases hg : riB a b = true
  · have HG := Lib.hid hg
    obtain ⟨n, rfl⟩ : ∃ n : Nat, a = n := ⟨a.toNat, by have := good_yes (riB_good hg); omega⟩
    have HGG := Lib.hid (riB_good hg)
    have hcc := cnN_cast (riB_good hg)
    rw [Int.toNat_natCast] at hcc
    have hrs := ring_size hg
    have hop := opT_yes hg
    obtain ⟨R, hR⟩ : ∃ R, textOf (ringW b n) = R := ⟨_, rfl⟩
    rw [hR] at hrs hop
    have HRR := Lib.hid hR
    have HCT : Hid ((codesT (rdT true n R) n).length = cnN n b) := Lib.hid (by
      show (codesT (arT n R) n).length = _
      rw [codesT_length, arT_size (by omega)]
      have := good_yes (riB_good hg)
      omega)
    have HCC := Lib.hid hcc
    have hcn := hrs.2.1
    have hR15 : R.size ≤ 1500 ∧ n ≤ R.size + 1 := by omega
    obtain ⟨hR15, hRn⟩ := hR15
    by_cases hx : inB x 0 ((cnN n b : Int) - 1) = true
    · have HX := Lib.hid hx
      have HT : Hid (caB n b x = true) := Lib.hid (by unfold caB; rw [hg, hx]; rfl)
      obtain ⟨hx0, hx1⟩ := of_decide_eq_true hx
      obtain ⟨k, rfl⟩ : ∃ k : Nat, x = k := ⟨x.toNat, by omega⟩
      have HC : Hid ((codesT (rdT true n R) n).getD k ByteArray.empty = caT n b k) := Lib.hid (by
        have hl := codesT_length (arT n R) n
        have hl2 : (codesT (arT n R) n).length = cnN n b := HCT.out
        rw [List.getD, show rdT true n R = arT n R from rfl, codesT_at (by omega), ca_yes HT.out, hop]
        rfl)
      have hkc : k < cnN n b := by omega
      clear hg hrs hop hR hx hcc
      generalize cnN n b = C at HCT HX HCC hcn hkc hx1
      go_enter Tryd.func16, Tryd.ntmps16
      go_wp2_with (first | (go_at_call 25; refine (riGood_any _ _ _).mono ?_; rw [HG.out]; rintro e w1 ⟨rfl, hb⟩; obtain ⟨hc, hf, hz⟩ := bcell hb; have hz0 : w.heap.size < w1.heap.size := by (try simp at hz); omega) | (go_at_call 37; refine (whCount_any _ _ _ HGG.out).mono ?_; rw [← HCC.out]; rintro e w2 ⟨rfl, hb2⟩; have HB2 := Lib.hid (show Below w.heap.size w w2 from by (repeat (first | assumption | exact Below.refl _ _ | (refine Below.alloc ?_ (by first | omega | (simp; done) | (simp; omega)) _) | (refine Below.setCell ?_ (by first | omega | (simp; done) | (simp; omega)) _) | refine bel_drewN ?_ _ | refine bel_drew ?_ | (refine bel_call ?_ (by assumption))))); have z2 : w.heap.size < w2.heap.size := (by have := hb2.size; omega); have m0 : w2.cell? ⟨w.heap.size, 0, none⟩ = some (.int .i64 n) := (by rw [hb2.cell (p := ⟨w.heap.size, 0, none⟩) hz0, hb.cell (p := ⟨w.heap.size, 0, none⟩) (by simp)]; simp); have m1 : w2.cell? ⟨w.heap.size, 1, none⟩ = some (.int .i64 b) := (by rw [hb2.cell (p := ⟨w.heap.size, 1, none⟩) hz0, hb.cell (p := ⟨w.heap.size, 1, none⟩) (by simp)]; simp); clear hb2 hc hf hz hb) | (go_at_call 36; refine (l1In_any _ _ _ _).mono ?_; rw [HX.out]; rintro e w3 ⟨rfl, rfl⟩))
      go_region_with (first | (go_at_call 26; refine (riLeast_any _ _ _ HG.out).mono ?_; rw [HRR.out]; rintro e w4 ⟨rfl, hb4⟩; have HB4 := Lib.hid (show Below w.heap.size w w4 from by first | exact bel_call HB2.out hb4 | exact bel_call (bel_drew HB2.out) hb4 | exact bel_call (bel_drewN HB2.out _) hb4); have q0 : w4.cell? ⟨w.heap.size, 0, none⟩ = some (.int .i64 n) := (by rw [hb4.cell (p := ⟨w.heap.size, 0, none⟩) z2]; exact m0); have q1 : w4.cell? ⟨w.heap.size, 1, none⟩ = some (.int .i64 b) := (by rw [hb4.cell (p := ⟨w.heap.size, 1, none⟩) z2]; exact m1); clear hb4) | (go_at_call 33; refine (riCodes_any _ _ _ true _ HGG.out hR15 (fun _ => hRn)).mono ?_; rw [HCT.out]; rintro e w5 ⟨A, c5, rfl, hO5, hb5⟩; have HB5 := Lib.hid (bel_call HB4.out hb5); obtain ⟨g, rfl, _, hC5⟩ := hO5.lt hkc; have o5 := hC5.cell hkc; unfold strF at o5; rw [HC.out] at o5; clear hb5 hO5 hC5))
      all_goals
        go_wp2
        go_ret2
        exact ⟨by rw [HT.out]; rfl, HB5.out⟩
    · have HX := Lib.hid (Bool.eq_false_iff.2 hx)
      have HT : Hid (caB n b x = false) := Lib.hid (by unfold caB; rw [HX.out, Bool.and_false])
      clear hg hrs hop hR hx hcc
      generalize cnN n b = C at HX HCC hcn
      go_enter Tryd.func16, Tryd.ntmps16
      go_wp2_with (first | (go_at_call 25; refine (riGood_any _ _ _).mono ?_; rw [HG.out]; rintro e w1 ⟨rfl, hb⟩; obtain ⟨hc, hf, hz⟩ := bcell hb; have hz0 : w.heap.size < w1.heap.size := by (try simp at hz); omega) | (go_at_call 37; refine (whCount_any _ _ _ HGG.out).mono ?_; rw [← HCC.out]; rintro e w1 ⟨rfl, hb⟩; obtain ⟨hc, hf, hz⟩ := bcell hb; have hz0 : w.heap.size < w1.heap.size := by (try simp at hz); omega) | (go_at_call 36; refine (l1In_any _ _ _ _).mono ?_; rw [HX.out]; rintro e w3 ⟨rfl, rfl⟩))
      go_ret2
      refine ⟨by rw [HT.out, ca_no HT.out]; rfl, ?_⟩
      (repeat (first | assumption | exact Below.refl _ _ | (refine Below.alloc ?_ (by first | omega | (simp; done) | (simp; omega)) _) | (refine Below.setCell ?_ (by first | omega | (simp; done) | (simp; omega)) _) | refine bel_drewN ?_ _ | refine bel_drew ?_ | (refine bel_call ?_ (by assumption))))
  · have HG := Lib.hid (Bool.eq_false_iff.2 hg)
    have HT : Hid (caB a b x = false) := Lib.hid (by unfold caB; rw [HG.out]; rfl)
    clear hg
    go_enter Tryd.func16, Tryd.ntmps16
    go_wp2_with (go_at_call 25; refine (riGood_any _ _ _).mono ?_; rw [HG.out]; rintro e w1 ⟨rfl, hb⟩; obtain ⟨hc, hf, hz⟩ := bcell hb; have hz0 : w.heap.size < w1.heap.size := by (try simp at hz); omega)
    go_ret2
    refine ⟨by rw [HT.out, ca_no HT.out]; rfl, ?_⟩
    (repeat (first | assumption | exact Below.refl _ _ | (refine Below.alloc ?_ (by first | omega | (simp; done) | (simp; omega)) _) | (refine Below.setCell ?_ (by first | omega | (simp; done) | (simp; omega)) _) | refine bel_drewN ?_ _ | refine bel_drew ?_ | (refine bel_call ?_ (by assumption))))

end Go.Proofs.YteolmplbgmfhmaaDoor
