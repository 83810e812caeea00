/- The first code that is cut off, and the farthest one, as the program finds them. For lists that can be. -/
import Derived.Test.YtilnjlcljjpnmaaFcM
import Derived.Test.YtilnjlcljjpnmaaQi
import Derived.Test.YtilnjlcljjpnmaaKy
import Derived.Test.YtilnjlcljjpnmaaMi
namespace Go.Proofs.Ytilnjlcljjpnmaa
open Go.ChangeShapes Go.WideShapes Go.ChangeAt Go.RowKit Go.Joins

theorem keys_row {w : World} {B : Nat} {v : Value} {ks : List ByteArray} (h : w.ownsRow B 9 1 v ks.length (sv ks)) (h0 : 0 < ks.length) (h1 : ks.length ≤ 1000) : ∃ g c, v = .slice (some ⟨g, 0, none⟩) ks.length c ∧ Cells w g ks.length (strF ks) := by
  obtain ⟨A, c, rfl, hO⟩ := own_strs h (by omega)
  obtain ⟨g, rfl, _, hC⟩ := hO.lt h0
  exact ⟨g, c, rfl, hC⟩

set_option maxRecDepth 100000 in
set_option maxHeartbeats 1000000 in
theorem firstCutOff_any (a b : Int) (A : Option Addr) (n c : Nat) (ts : List ByteArray) (s : ByteArray) (w : World) (hn : n ≤ maxLen) (hs : s.size ≤ maxLen) (hA : ArgS w A n ts) :
    Calls Try.prog 41 #[.agg #[.int .i64 a, .int .i64 b], .slice A n c, .string s] w fun e w' => e = .returned (.tuple #[.string (fcZ a b ts s), .bool (fcB a b ts s)]) ∧ Below w.heap.size w w' := by
  have HA := Lib.hid hA
  have HN := Lib.hid hn
  have HS := Lib.hid hs
  have X0 := Lib.hid (show Below w.heap.size w ((w.alloc (.cells #[.int .i64 a, .int .i64 b] 28)).alloc (.cells #[.string s] 9)) by (repeat (first | assumption | exact Below.refl _ _ | (refine Below.alloc ?_ (by first | omega | (simp; done) | (simp; omega)) _) | (refine Below.setCell ?_ (by first | omega | (simp; done) | (simp; omega)) _) | refine bel_drewN ?_ _ | refine bel_drew ?_ | (refine bel_call ?_ (by assumption)))))
  have C0 := Lib.hid ((box_new (W := w) (a := a) (b := b) (t := 28) rfl).alloc (.cells #[.string s] 9))
  have E0 := Lib.hid (argS_one (W := w.alloc (.cells #[.int .i64 a, .int .i64 b] 28)) (s := s) (t := 9) (g := w.heap.size + 1) (by simp) hs)
  clear hA hn hs
  go_enter Try.func41, Try.ntmps41
  go_wp2_with fail
  refine (mazeOf_any _ _ _ _ _ ts _ _ _ [s] _ HN.out (HA.out.below X0.out) (by unfold maxLen; omega) E0.out).mono ?_
  rintro e w1 h1
  rcases h1 with ⟨hd, B, rfl, hB, hlv, hb1⟩ | ⟨hd, rfl, hb1⟩
  · rw [mzB_one] at hd
    unfold mzV
    have HD := Lib.hid hd
    have HP := Lib.hid (dkB_parts hd)
    have hwB : w.heap.size ≤ B := by have := X0.out.size; omega
    have X1 := Lib.hid ((bel_call X0.out hb1).alloc (bel_call X0.out hb1).size (.cells #[.int .i64 a, .int .i64 b, .map (some B)] 72))
    have C1 := Lib.hid ((C0.out.call hb1).alloc (.cells #[.int .i64 a, .int .i64 b, .map (some B)] 72))
    have M1 := Lib.hid (m3_new (W := w1) (a := a) (b := b) (v := .map (some B)) (t := 72) rfl)
    have L1 := Lib.hid (hlv.call ((Below.refl _ _).alloc (Nat.le_refl _) (.cells #[.int .i64 a, .int .i64 b, .map (some B)] 72)))
    have k0 : (w1.alloc (.cells #[.int .i64 a, .int .i64 b, .map (some B)] 72)).cell? ⟨w1.heap.size, 0, none⟩ = some (.int .i64 a) := M1.out.cell (show 0 < 3 by omega)
    have k1 : (w1.alloc (.cells #[.int .i64 a, .int .i64 b, .map (some B)] 72)).cell? ⟨w1.heap.size, 1, none⟩ = some (.int .i64 b) := M1.out.cell (show 1 < 3 by omega)
    have k2 : (w1.alloc (.cells #[.int .i64 a, .int .i64 b, .map (some B)] 72)).cell? ⟨w1.heap.size, 2, none⟩ = some (.map (some B)) := M1.out.cell (show 2 < 3 by omega)
    have hBw1 : B < w1.heap.size := hlv.lt
    clear hd hb1 hlv X0 E0 hB
    go_wp2_with fail
    refine (layersFrom_any _ _ _ (alB a b ts) _ _ L1.out (fun t h => alB_ask h) HP.out.2.2.2.2.2.2 HP.out.2.2.1 HP.out.2.2.2.1).mono ?_
    rintro e w3 ⟨v, N, G, rfl, hN0, hN1, hrow, hly, hne, hend, hlv3, hgr3, hsh3⟩
    have X3 := Lib.hid (below_grown X1.out hwB hgr3)
    have M3 := Lib.hid (M1.out.grownM hgr3 (fun e => by injection e with e; omega))
    have m2 : w3.cell? ⟨w1.heap.size, 2, none⟩ = some (.map (some B)) := M3.out.cell (show 2 < 3 by omega)
    obtain ⟨Lv, hLv, hmv⟩ := hlv3
    have HMP := Lib.hid hLv
    have HASK : Hid (∀ t, t ∈ Lv → askB a b t = true) := Lib.hid (fun t ht => alB_ask (lvK_al ((hmv t).1 ht)))
    have HCU : Hid (∀ i, i < cnN a b → (cuB a b ts s (cdN a b i) = true ↔ cdN a b i ∈ Lv)) := Lib.hid (fun i hi => by rw [hmv, cuB_lvK (cd_ask HP.out.2.2.1) hend])
    have hfew : Lv.length ≤ 1000 := by have := codes_few hLv.nodup HASK.out; have := HP.out.2.2.2.1; omega
    clear hrow hly hne hend hgr3 hsh3 hLv hmv
    by_cases h0 : Lv = []
    · subst h0
      have HV : Hid (fcB a b ts s = false) := Lib.hid (fcB_none fun i hi => by
        rw [Bool.eq_false_iff]
        intro h
        have := (HCU.out i hi).1 h
        cases this)
      have HW := Lib.hid (fcB_no HV.out)
      go_wp2_with (at_len; refine wpList_len_S rfl _ _ _ rfl Try.underlying70 HMP.out rfl ?_)
      go_ret2
      exact ⟨by rw [HV.out, HW.out]; rfl, X3.out⟩
    · have hpos : 0 < Lv.length := List.length_pos_iff.2 h0
      clear h0
      go_wp2_with (first
      | (at_len; refine wpList_len_S rfl _ _ _ rfl Try.underlying70 HMP.out rfl ?_)
      | (first
      | (go_at_call 83; refine (keysB_any _ _).mono ?_; rintro e w5 ⟨rfl, rfl⟩; have P5 : (w3.alloc (.cells #[.map (some B)] 70)).cell? ⟨w3.heap.size, 0, none⟩ = some (.map (some B)) := (by rw [World.cell?_alloc_new]; rfl))
      | (go_at_call 82; refine (collectB_any (HMP.out.alloc _) hfew P5).mono ?_; rintro e w6 ⟨v6, ks, rfl, hkl, hkm, hkr, hb6⟩; have hk0 : 0 < ks.length := (by omega); have hk1 : ks.length ≤ 1000 := (by omega); obtain ⟨g6, c6, rfl, hKC⟩ := keys_row hkr hk0 hk1; have HKC := Lib.hid hKC; have HKM := Lib.hid hkm; have HKA : Hid (∀ t, t ∈ ks → askB a b t = true) := Lib.hid (fun t ht => HASK.out t ((hkm t).1 ht)); have X6 := Lib.hid (bel_call (X3.out.alloc X3.out.size (.cells #[.map (some B)] 70)) hb6); clear hkr hkm hb6 hKC hkl)
      | (go_at_call 81; refine (min_any a b _ _ _ ks _ rfl hk0 hk1 HKC.out HKA.out).mono ?_; rintro e w7 ⟨⟨m, rfl, hm1, hm2⟩, rfl⟩)))
      go_ret2
      have hA := HKA.out m hm1
      have hL := (HKM.out m).1 hm1
      obtain ⟨e1, e2⟩ := fcB_at HD.out (nuN_lt hA) (fun i hi => by
        rw [Bool.eq_false_iff]
        intro h
        have h1 := (HCU.out i (Nat.lt_trans hi (nuN_lt hA))).1 h
        have h2 := hm2 _ ((HKM.out _).2 h1)
        rw [nu_cd HP.out.2.2.1 (Nat.lt_trans hi (nuN_lt hA))] at h2
        omega) ((HCU.out _ (nuN_lt hA)).2 (by rw [cd_nu hA]; exact hL))
      rw [cd_nu hA] at e2
      exact ⟨by rw [e1, e2]; rfl, X6.out⟩
  · rw [mzB_one] at hd
    have HD := Lib.hid hd
    have X1 := Lib.hid ((bel_call X0.out hb1).alloc (bel_call X0.out hb1).size (.cells #[.int .i64 0, .int .i64 0, .map none] 72))
    unfold mzV
    have HV : Hid (fcB a b ts s = false) := Lib.hid (by unfold fcB; rw [hd]; rfl)
    have HW := Lib.hid (fcB_no HV.out)
    clear hd hb1
    go_wp2_with fail
    go_ret2
    exact ⟨by rw [HV.out, HW.out]; rfl, X1.out⟩

set_option maxRecDepth 100000 in
set_option maxHeartbeats 1000000 in
theorem farthestAround_any (a b : Int) (A : Option Addr) (n c : Nat) (ts : List ByteArray) (s : ByteArray) (w : World) (hn : n ≤ maxLen) (hs : s.size ≤ maxLen) (hA : ArgS w A n ts) :
    Calls Try.prog 43 #[.agg #[.int .i64 a, .int .i64 b], .slice A n c, .string s] w fun e w' => e = .returned (.tuple #[.string (feT a b ts s), .int .i64 (feZ a b ts s), .bool (dkB a b ts s)]) ∧ Below w.heap.size w w' := by
  have HA := Lib.hid hA
  have HN := Lib.hid hn
  have HS := Lib.hid hs
  have X0 := Lib.hid (show Below w.heap.size w ((w.alloc (.cells #[.int .i64 a, .int .i64 b] 28)).alloc (.cells #[.string s] 9)) by (repeat (first | assumption | exact Below.refl _ _ | (refine Below.alloc ?_ (by first | omega | (simp; done) | (simp; omega)) _) | (refine Below.setCell ?_ (by first | omega | (simp; done) | (simp; omega)) _) | refine bel_drewN ?_ _ | refine bel_drew ?_ | (refine bel_call ?_ (by assumption)))))
  have C0 := Lib.hid ((box_new (W := w) (a := a) (b := b) (t := 28) rfl).alloc (.cells #[.string s] 9))
  have E0 := Lib.hid (argS_one (W := w.alloc (.cells #[.int .i64 a, .int .i64 b] 28)) (s := s) (t := 9) (g := w.heap.size + 1) (by simp) hs)
  clear hA hn hs
  go_enter Try.func43, Try.ntmps43
  go_wp2_with fail
  refine (mazeOf_any _ _ _ _ _ ts _ _ _ [s] _ HN.out (HA.out.below X0.out) (by unfold maxLen; omega) E0.out).mono ?_
  rintro e w1 h1
  rcases h1 with ⟨hd, B, rfl, hB, hlv, hb1⟩ | ⟨hd, rfl, hb1⟩
  · rw [mzB_one] at hd
    unfold mzV
    have HD := Lib.hid hd
    have HP := Lib.hid (dkB_parts hd)
    have hwB : w.heap.size ≤ B := by have := X0.out.size; omega
    have X1 := Lib.hid ((bel_call X0.out hb1).alloc (bel_call X0.out hb1).size (.cells #[.int .i64 a, .int .i64 b, .map (some B)] 72))
    have C1 := Lib.hid ((C0.out.call hb1).alloc (.cells #[.int .i64 a, .int .i64 b, .map (some B)] 72))
    have M1 := Lib.hid (m3_new (W := w1) (a := a) (b := b) (v := .map (some B)) (t := 72) rfl)
    have L1 := Lib.hid (hlv.call ((Below.refl _ _).alloc (Nat.le_refl _) (.cells #[.int .i64 a, .int .i64 b, .map (some B)] 72)))
    have k0 : (w1.alloc (.cells #[.int .i64 a, .int .i64 b, .map (some B)] 72)).cell? ⟨w1.heap.size, 0, none⟩ = some (.int .i64 a) := M1.out.cell (show 0 < 3 by omega)
    have k1 : (w1.alloc (.cells #[.int .i64 a, .int .i64 b, .map (some B)] 72)).cell? ⟨w1.heap.size, 1, none⟩ = some (.int .i64 b) := M1.out.cell (show 1 < 3 by omega)
    have k2 : (w1.alloc (.cells #[.int .i64 a, .int .i64 b, .map (some B)] 72)).cell? ⟨w1.heap.size, 2, none⟩ = some (.map (some B)) := M1.out.cell (show 2 < 3 by omega)
    have hBw1 : B < w1.heap.size := hlv.lt
    clear hd hb1 hlv X0 E0 hB
    go_wp2_with fail
    refine (layersFrom_any _ _ _ (alB a b ts) _ _ L1.out (fun t h => alB_ask h) HP.out.2.2.2.2.2.2 HP.out.2.2.1 HP.out.2.2.2.1).mono ?_
    rintro e w3 ⟨v, N, G, rfl, hN0, hN1, hrow, hly, hne, hend, hlv3, hgr3, hsh3⟩
    have X3 := Lib.hid (below_grown X1.out hwB hgr3)
    obtain ⟨g, cc, rfl, hgl, hcell⟩ := lays_cells hrow hN0
    have hNl : N - 1 < N := by omega
    have z : w3.cell? ⟨g, N - 1, none⟩ = some (.map (some (G (N - 1)))) := hcell (N - 1) hNl
    obtain ⟨_, L, f, hM, hmem, _⟩ := hly (N - 1) hNl
    have HMP := Lib.hid hM
    have HMEM := Lib.hid hmem
    have HEND := Lib.hid hend
    have HASK : Hid (∀ t, t ∈ L → askB a b t = true) := Lib.hid (fun t ht => wyA_ask (fun t h => alB_ask h) HP.out.2.2.2.2.2.2 ((hmem t).1 ht))
    have hfew : L.length ≤ 1000 := by have := codes_few hM.nodup HASK.out; have := HP.out.2.2.2.1; omega
    have hpos : 0 < L.length := by
      obtain ⟨x, hx⟩ := hne
      exact List.length_pos_of_mem ((hmem x).2 hx)
    obtain ⟨q, hq⟩ : ∃ q, N = q + 1 := ⟨N - 1, by omega⟩
    subst hq
    rw [Nat.add_sub_cancel] at z HMP HMEM
    clear hrow hly hne hend hlv3 hgr3 hsh3 hcell hM hmem hNl
    go_wp2_with (first
      | (go_at_call 84; refine (keysL_any _ _).mono ?_; rintro e w5 ⟨rfl, rfl⟩; have P5 : (w3.alloc (.cells #[.map (some (G q))] 81)).cell? ⟨w3.heap.size, 0, none⟩ = some (.map (some (G q))) := (by rw [World.cell?_alloc_new]; rfl))
      | (go_at_call 82; refine (collectL_any (HMP.out.alloc _) hfew P5).mono ?_; rintro e w6 ⟨v6, ks, rfl, hkl, hkm, hkr, hb6⟩; have hk0 : 0 < ks.length := (by omega); have hk1 : ks.length ≤ 1000 := (by omega); obtain ⟨g6, c6, rfl, hKC⟩ := keys_row hkr hk0 hk1; have HKC := Lib.hid hKC; have HKM := Lib.hid hkm; have HKA : Hid (∀ t, t ∈ ks → askB a b t = true) := Lib.hid (fun t ht => HASK.out t ((hkm t).1 ht)); have X6 := Lib.hid (bel_call (X3.out.alloc X3.out.size (.cells #[.map (some (G q))] 81)) hb6); clear hkr hkm hb6 hKC hkl)
      | (go_at_call 81; refine (min_any a b _ _ _ ks _ rfl hk0 hk1 HKC.out HKA.out).mono ?_; rintro e w7 ⟨⟨m, rfl, hm1, hm2⟩, rfl⟩))
    refine bodyPost_ret (v := .tuple #[.string m, .int .i64 (q : Int), .bool true]) (by simp [results, Try.results43, go_sem]) rfl ?_
    have hA := HKA.out m hm1
    have hL := (HMEM.out m).1 ((HKM.out m).1 hm1)
    have e0 : lvZ a b ts s m = (q : Int) := lvZ_some hA hL
    have hle : ∀ j, j < cnN a b → lvZ a b ts s (cdN a b j) ≤ (q : Int) ∧ (lvZ a b ts s (cdN a b j) = (q : Int) → cdN a b j ∈ ks) := fun j hj => by
      rcases lvZ_cases (ts := ts) (s := s) (cd_ask (i := j) HP.out.2.2.1) with ⟨k, hk, e⟩ | ⟨_, e⟩
      · rw [e]
        have : k < q + 1 := by
          rcases Nat.lt_or_ge k (q + 1) with h | h
          · exact h
          · have h1 : 0 < wyA a b (alB a b ts) s k (cdN a b j) := hk
            have := HEND.out k (cdN a b j) h
            omega
        refine ⟨by omega, fun h => ?_⟩
        obtain rfl : k = q := by omega
        exact (HKM.out _).2 ((HMEM.out _).2 hk)
      · rw [e]; exact ⟨by omega, fun h => by omega⟩
    have eb : beN a b ts s (cnN a b) = nuN a b m := beN_at (nuN_lt hA) (fun j hj => by rw [cd_nu hA, e0]; exact (hle j hj).1) (fun j hj => by
      rw [cd_nu hA, e0]
      have h1 := hle j (Nat.lt_trans hj (nuN_lt hA))
      rcases Int.lt_or_eq_of_le h1.1 with h2 | h2
      · exact h2
      · have h3 := hm2 _ (h1.2 h2)
        rw [nu_cd HP.out.2.2.1 (Nat.lt_trans hj (nuN_lt hA))] at h3
        omega)
    have e1 : feT a b ts s = m := by unfold feT; rw [HD.out, if_pos rfl, eb, cd_nu hA]
    have e2 : feZ a b ts s = (q : Int) := by unfold feZ; rw [HD.out, if_pos rfl, eb, cd_nu hA, e0]
    exact ⟨by rw [e1, e2, HD.out], X6.out⟩
  · rw [mzB_one] at hd
    have HD := Lib.hid hd
    have X1 := Lib.hid ((bel_call X0.out hb1).alloc (bel_call X0.out hb1).size (.cells #[.int .i64 0, .int .i64 0, .map none] 72))
    unfold mzV
    have HV : Hid (feT a b ts s = ⟨#[]⟩) := Lib.hid (by unfold feT; rw [hd]; rfl)
    have HW : Hid (feZ a b ts s = 0) := Lib.hid (by unfold feZ; rw [hd]; rfl)
    clear hd hb1
    go_wp2_with fail
    refine bodyPost_ret (v := .tuple #[.string ⟨#[]⟩, .int .i64 0, .bool false]) (by simp [results, Try.results43, go_sem]) rfl ?_
    exact ⟨by rw [HD.out, HV.out, HW.out], X1.out⟩

end Go.Proofs.Ytilnjlcljjpnmaa
