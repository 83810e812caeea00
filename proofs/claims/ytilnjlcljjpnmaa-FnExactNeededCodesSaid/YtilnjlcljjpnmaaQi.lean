/- How many codes are reached, are cut off, and how many ways there are, as the program tells. For lists that can be. -/
import Derived.Test.YtilnjlcljjpnmaaQm
namespace Go.Proofs.Ytilnjlcljjpnmaa
open Go.ChangeShapes Go.WideShapes Go.ChangeAt Go.RowKit Go.Joins

/-- The layers handed back, as cells. -/
theorem lays_cells {w : World} {base N : Nat} {v : Value} {G : Nat → Nat} (h : w.ownsRow base 81 1 v N (mapVs G N)) (hN : 0 < N) :
    ∃ g c, v = .slice (some ⟨g, 0, none⟩) N c ∧ g < w.heap.size ∧ ∀ i, i < N → w.cell? ⟨g, i, none⟩ = some (.map (some (G i))) := by
  obtain ⟨g, c, rfl, hb, hlt⟩ := h.form hN
  refine ⟨g, c, rfl, hlt, fun i hi => ?_⟩
  rw [h.cellAt i (by omega)]
  unfold mapVs
  simp [hi]

theorem below_grown {w w1 w2 : World} {B : Nat} (h : Below w.heap.size w w1) (hB : w.heap.size ≤ B) (hg : w1.grownBy w2 (some B)) : Below w.heap.size w w2 := h.grown hg h.size (fun j hj => by injection hj with hj; omega)

set_option maxRecDepth 100000 in
set_option maxHeartbeats 4000000 in
theorem countReached_any (a b : Int) (A : Option Addr) (n c : Nat) (ts : List ByteArray) (s : ByteArray) (w : World) (hn : n ≤ maxLen) (hs : s.size ≤ maxLen) (hA : ArgS w A n ts) :
    Calls Try.prog 37 #[.agg #[.int .i64 a, .int .i64 b], .slice A n c, .string s] w fun e w' => e = .returned (.tuple #[.int .i64 (crA a b ts s), .bool (dkB a b ts s)]) ∧ Below w.heap.size w w' := by
  have HA := Lib.hid hA
  have HN := Lib.hid hn
  have HS := Lib.hid hs
  have X0 := Lib.hid (show Below w.heap.size w ((w.alloc (.cells #[.int .i64 a, .int .i64 b] 28)).alloc (.cells #[.string s] 9)) by (repeat (first | assumption | exact Below.refl _ _ | (refine Below.alloc ?_ (by first | omega | (simp; done) | (simp; omega)) _) | (refine Below.setCell ?_ (by first | omega | (simp; done) | (simp; omega)) _) | refine bel_drewN ?_ _ | refine bel_drew ?_ | (refine bel_call ?_ (by assumption)))))
  have C0 := Lib.hid ((box_new (W := w) (a := a) (b := b) (t := 28) rfl).alloc (.cells #[.string s] 9))
  have E0 := Lib.hid (argS_one (W := w.alloc (.cells #[.int .i64 a, .int .i64 b] 28)) (s := s) (t := 9) (g := w.heap.size + 1) (by simp) hs)
  clear hA hn hs
  go_enter Try.func37, Try.ntmps37
  go_wp2_with fail
  refine (mazeOf_any _ _ _ _ _ ts _ _ _ [s] _ HN.out (HA.out.below X0.out) (by unfold maxLen; omega) E0.out).mono ?_
  rintro e w1 h1
  rcases h1 with ⟨hd, B, rfl, hB, hlv, hb1⟩ | ⟨hd, rfl, hb1⟩
  · rw [mzB_one] at hd
    unfold mzV
    have HD := Lib.hid hd
    have HP := Lib.hid (dkB_parts hd)
    have hwB : w.heap.size ≤ B := by have := X0.out.size; omega
    have X1 := Lib.hid ((bel_call X0.out hb1).alloc (bel_call X0.out hb1).size (.cells #[.int .i64 a, .int .i64 b, .map (some B)] 72))
    have C1 := Lib.hid ((C0.out.call hb1).alloc (.cells #[.int .i64 a, .int .i64 b, .map (some B)] 72))
    have M1 := Lib.hid (m3_new (W := w1) (a := a) (b := b) (v := .map (some B)) (t := 72) rfl)
    have L1 := Lib.hid (hlv.call ((Below.refl _ _).alloc (Nat.le_refl _) (.cells #[.int .i64 a, .int .i64 b, .map (some B)] 72)))
    have k0 : (w1.alloc (.cells #[.int .i64 a, .int .i64 b, .map (some B)] 72)).cell? ⟨w1.heap.size, 0, none⟩ = some (.int .i64 a) := M1.out.cell (show 0 < 3 by omega)
    have k1 : (w1.alloc (.cells #[.int .i64 a, .int .i64 b, .map (some B)] 72)).cell? ⟨w1.heap.size, 1, none⟩ = some (.int .i64 b) := M1.out.cell (show 1 < 3 by omega)
    have k2 : (w1.alloc (.cells #[.int .i64 a, .int .i64 b, .map (some B)] 72)).cell? ⟨w1.heap.size, 2, none⟩ = some (.map (some B)) := M1.out.cell (show 2 < 3 by omega)
    have hBw1 : B < w1.heap.size := hlv.lt
    clear hd hb1 hlv X0 E0 hB
    go_wp2_with fail
    refine (layersFrom_any _ _ _ (alB a b ts) _ _ L1.out (fun t h => alB_ask h) HP.out.2.2.2.2.2.2 HP.out.2.2.1 HP.out.2.2.2.1).mono ?_
    rintro e w3 ⟨v, N, G, rfl, hN0, hN1, hrow, hly, hne, hend, hlv3, hgr3, hsh3⟩
    have X3 := Lib.hid (below_grown X1.out hwB hgr3)
    obtain ⟨g, cc, rfl, hgl, hcell⟩ := lays_cells hrow hN0
    have HCELL := Lib.hid hcell
    have HLY := Lib.hid hly
    have HEND := Lib.hid hend
    clear hrow hly hne hend hlv3 hgr3 hsh3 hcell
    have HV : Hid (crA a b ts s = ((cntC a b (snU a b (alB a b ts) s N) : Nat) : Int)) := Lib.hid (by unfold crA; rw [HD.out, if_pos rfl, crN_snU HP.out.2.2.1 HEND.out])
    go_wp2_with fail
    go_loop [10, 27] (fun v i => ∃ k : Nat, k ≤ N ∧ i = .int .i64 k ∧ v = .int .i64 ((cntC a b (snU a b (alB a b ts) s k) : Nat) : Int)) (fun _ i => N - (intOf i).toNat)
    case atStart => exact ⟨0, by omega, rfl, by have : cntC a b (snU a b (alB a b ts) s 0) = 0 := cntC_none; rw [this]; rfl⟩
    case round =>
      obtain ⟨k, hk, rfl, rfl⟩ := hrel
      by_cases hlt : k < N
      · have z := HCELL.out k hlt
        obtain ⟨_, L, f, hM, hmem, _⟩ := HLY.out k hlt
        have HM := Lib.hid hM
        have HUP := Lib.hid (cntC_snU (a := a) (b := b) (al := alB a b ts) (s := s) k)
        have HLN := Lib.hid (cntC_layer HP.out.2.2.1 (fun t h => alB_ask h) HP.out.2.2.2.2.2.2 hM.nodup hmem)
        have h1 : cntC a b (snU a b (alB a b ts) s k) ≤ cnN a b := cntC_le
        have h2 : L.length ≤ cnN a b := by rw [← HLN.out]; exact cntC_le
        have h3 := HP.out.2.2.2.1
        rw [HLN.out] at HUP
        clear hM hmem
        generalize cntC a b (snU a b (alB a b ts) s k) = q at HUP h1 ⊢
        go_wp2_with (at_len; refine wpList_len_S rfl _ _ _ rfl Try.underlying81 HM.out rfl ?_)
        go_round
        case rel => exact ⟨k + 1, by omega, by go_num, by rw [HUP.out]; first | rfl | (congr 1; omega)⟩
        case measure => simp [intOf]; omega
      · obtain rfl : k = N := by omega
        go_wp2_with fail
        go_ret2
        exact ⟨by rw [HV.out, HD.out]; rfl, X3.out⟩
  · rw [mzB_one] at hd
    have HD := Lib.hid hd
    have X1 := Lib.hid ((bel_call X0.out hb1).alloc (bel_call X0.out hb1).size (.cells #[.int .i64 0, .int .i64 0, .map none] 72))
    unfold mzV
    have HV : Hid (crA a b ts s = 0) := Lib.hid (by unfold crA; rw [hd]; rfl)
    have HW := HD
    clear hd hb1
    go_wp2_with fail
    go_ret2
    exact ⟨by rw [HV.out, HW.out]; rfl, X1.out⟩

set_option maxRecDepth 100000 in
set_option maxHeartbeats 4000000 in
theorem countCutOff_any (a b : Int) (A : Option Addr) (n c : Nat) (ts : List ByteArray) (s : ByteArray) (w : World) (hn : n ≤ maxLen) (hs : s.size ≤ maxLen) (hA : ArgS w A n ts) :
    Calls Try.prog 39 #[.agg #[.int .i64 a, .int .i64 b], .slice A n c, .string s] w fun e w' => e = .returned (.tuple #[.int .i64 (ccA a b ts s), .bool (dkB a b ts s)]) ∧ Below w.heap.size w w' := by
  have HA := Lib.hid hA
  have HN := Lib.hid hn
  have HS := Lib.hid hs
  have X0 := Lib.hid (show Below w.heap.size w ((w.alloc (.cells #[.int .i64 a, .int .i64 b] 28)).alloc (.cells #[.string s] 9)) by (repeat (first | assumption | exact Below.refl _ _ | (refine Below.alloc ?_ (by first | omega | (simp; done) | (simp; omega)) _) | (refine Below.setCell ?_ (by first | omega | (simp; done) | (simp; omega)) _) | refine bel_drewN ?_ _ | refine bel_drew ?_ | (refine bel_call ?_ (by assumption)))))
  have C0 := Lib.hid ((box_new (W := w) (a := a) (b := b) (t := 28) rfl).alloc (.cells #[.string s] 9))
  have E0 := Lib.hid (argS_one (W := w.alloc (.cells #[.int .i64 a, .int .i64 b] 28)) (s := s) (t := 9) (g := w.heap.size + 1) (by simp) hs)
  clear hA hn hs
  go_enter Try.func39, Try.ntmps39
  go_wp2_with fail
  refine (mazeOf_any _ _ _ _ _ ts _ _ _ [s] _ HN.out (HA.out.below X0.out) (by unfold maxLen; omega) E0.out).mono ?_
  rintro e w1 h1
  rcases h1 with ⟨hd, B, rfl, hB, hlv, hb1⟩ | ⟨hd, rfl, hb1⟩
  · rw [mzB_one] at hd
    unfold mzV
    have HD := Lib.hid hd
    have HP := Lib.hid (dkB_parts hd)
    have hwB : w.heap.size ≤ B := by have := X0.out.size; omega
    have X1 := Lib.hid ((bel_call X0.out hb1).alloc (bel_call X0.out hb1).size (.cells #[.int .i64 a, .int .i64 b, .map (some B)] 72))
    have C1 := Lib.hid ((C0.out.call hb1).alloc (.cells #[.int .i64 a, .int .i64 b, .map (some B)] 72))
    have M1 := Lib.hid (m3_new (W := w1) (a := a) (b := b) (v := .map (some B)) (t := 72) rfl)
    have L1 := Lib.hid (hlv.call ((Below.refl _ _).alloc (Nat.le_refl _) (.cells #[.int .i64 a, .int .i64 b, .map (some B)] 72)))
    have k0 : (w1.alloc (.cells #[.int .i64 a, .int .i64 b, .map (some B)] 72)).cell? ⟨w1.heap.size, 0, none⟩ = some (.int .i64 a) := M1.out.cell (show 0 < 3 by omega)
    have k1 : (w1.alloc (.cells #[.int .i64 a, .int .i64 b, .map (some B)] 72)).cell? ⟨w1.heap.size, 1, none⟩ = some (.int .i64 b) := M1.out.cell (show 1 < 3 by omega)
    have k2 : (w1.alloc (.cells #[.int .i64 a, .int .i64 b, .map (some B)] 72)).cell? ⟨w1.heap.size, 2, none⟩ = some (.map (some B)) := M1.out.cell (show 2 < 3 by omega)
    have hBw1 : B < w1.heap.size := hlv.lt
    clear hd hb1 hlv X0 E0 hB
    go_wp2_with fail
    refine (layersFrom_any _ _ _ (alB a b ts) _ _ L1.out (fun t h => alB_ask h) HP.out.2.2.2.2.2.2 HP.out.2.2.1 HP.out.2.2.2.1).mono ?_
    rintro e w3 ⟨v, N, G, rfl, hN0, hN1, hrow, hly, hne, hend, hlv3, hgr3, hsh3⟩
    have X3 := Lib.hid (below_grown X1.out hwB hgr3)
    have M3 := Lib.hid (M1.out.grownM hgr3 (fun e => by injection e with e; omega))
    have m2 : w3.cell? ⟨w1.heap.size, 2, none⟩ = some (.map (some B)) := M3.out.cell (show 2 < 3 by omega)
    obtain ⟨Lv, hLv, hmv⟩ := hlv3
    have HLV := Lib.hid hLv
    have HV : Hid (ccA a b ts s = ((Lv.length : Nat) : Int)) := Lib.hid (by
      have e1 := cntC_list HP.out.2.2.1 hLv.nodup (p := lvK a b (alB a b ts) s N) (fun t => by
        rw [hmv]
        exact ⟨fun h => ⟨alB_ask (lvK_al h), h⟩, fun h => h.2⟩)
      have e2 := cntC_left (a := a) (b := b) (N := N) HP.out.2.2.2.2.2.2
      have e3 := cntC_live HP.out.2.2.1 HP.out.2.1
      have e4 := crN_snU (a := a) (b := b) (ts := ts) (s := s) HP.out.2.2.1 hend
      unfold ccA
      rw [HD.out, if_pos rfl]
      omega)
    clear hrow hly hne hend hgr3 hsh3 hLv hmv
    go_wp2_with (at_len; refine wpList_len_S rfl _ _ _ rfl Try.underlying70 HLV.out rfl ?_)
    go_ret2
    exact ⟨by rw [HV.out, HD.out]; rfl, X3.out⟩
  · rw [mzB_one] at hd
    have HD := Lib.hid hd
    have X1 := Lib.hid ((bel_call X0.out hb1).alloc (bel_call X0.out hb1).size (.cells #[.int .i64 0, .int .i64 0, .map none] 72))
    unfold mzV
    have HV : Hid (ccA a b ts s = 0) := Lib.hid (by unfold ccA; rw [hd]; rfl)
    have HW := HD
    clear hd hb1
    go_wp2_with fail
    go_ret2
    exact ⟨by rw [HV.out, HW.out]; rfl, X1.out⟩

/-- How many ways of fewer turns lead there. -/
theorem ws_sum {a b : Int} {ts : List ByteArray} {s x : ByteArray} (hx : askB a b x = true) (k : Nat) :
    (0 < wyA a b (alB a b ts) s k x → wsN a b ts s x = sat capN (wyA a b (alB a b ts) s k x)) ∧ ((∀ i, wyA a b (alB a b ts) s i x = 0) → wsN a b ts s x = 0) := by
  constructor
  · intro h
    have e : lvZ a b ts s x = k := lvZ_some hx h
    unfold wsN
    rw [e, if_neg (by omega), Int.toNat_natCast]
    rfl
  · intro h
    have e : lvZ a b ts s x = -1 := lvZ_none h
    unfold wsN
    rw [e, if_pos (by omega)]

/-- The ways told by the first layers. -/
def wsU (a b : Int) (ts : List ByteArray) (s x : ByteArray) (k : Nat) : Nat := if snU a b (alB a b ts) s k x then wsN a b ts s x else 0

theorem wsU_succ {a b : Int} {ts : List ByteArray} {s x : ByteArray} (hx : askB a b x = true) (k : Nat) : wsU a b ts s x (k + 1) = wsU a b ts s x k + sat capN (wyA a b (alB a b ts) s k x) := by
  unfold wsU
  rw [snU_succ]
  rcases Nat.eq_zero_or_pos (wyA a b (alB a b ts) s k x) with e | e
  · rw [e, sat_zero]; simp
  · rw [snU_new e, decide_eq_true e, (ws_sum hx k).1 e]; simp

theorem wsU_end {a b : Int} {ts : List ByteArray} {s x : ByteArray} {N : Nat} (hx : askB a b x = true) (hN : ∀ i x, N ≤ i → wyA a b (alB a b ts) s i x = 0) : wsU a b ts s x N = wsN a b ts s x := by
  unfold wsU
  by_cases h : snU a b (alB a b ts) s N x = true
  · rw [h, if_pos rfl]
  · rw [Bool.eq_false_iff.2 h, if_neg (by simp), (ws_sum hx 0).2]
    intro i
    rcases Nat.eq_zero_or_pos (wyA a b (alB a b ts) s i x) with e | e
    · exact e
    · rcases Nat.lt_or_ge i N with h1 | h1
      · exact absurd (snU_iff.2 ⟨i, h1, e⟩) h
      · exact hN i x h1

theorem wsU_le {a b : Int} {ts : List ByteArray} {s x : ByteArray} {k : Nat} : wsU a b ts s x k ≤ capN := by
  unfold wsU
  split
  · exact wsN_le ..
  · omega

set_option maxRecDepth 100000 in
set_option maxHeartbeats 4000000 in
theorem countAround_any (a b : Int) (A : Option Addr) (n c : Nat) (ts : List ByteArray) (s t : ByteArray) (w : World) (hn : n ≤ maxLen) (hs : s.size ≤ maxLen) (ht : t.size ≤ maxLen) (hA : ArgS w A n ts) :
    Calls Try.prog 33 #[.agg #[.int .i64 a, .int .i64 b], .slice A n c, .string s, .string t] w fun e w' => e = .returned (.tuple #[.int .i64 (caZ a b ts s t), .bool (caB a b ts s t)]) ∧ Below w.heap.size w w' := by
  have HA := Lib.hid hA
  have HN := Lib.hid hn
  have HS := Lib.hid hs
  have HT := Lib.hid ht
  have X0 := Lib.hid (show Below w.heap.size w ((w.alloc (.cells #[.int .i64 a, .int .i64 b] 28)).alloc (.cells #[.string s, .string t] 9)) by (repeat (first | assumption | exact Below.refl _ _ | (refine Below.alloc ?_ (by first | omega | (simp; done) | (simp; omega)) _) | (refine Below.setCell ?_ (by first | omega | (simp; done) | (simp; omega)) _) | refine bel_drewN ?_ _ | refine bel_drew ?_ | (refine bel_call ?_ (by assumption)))))
  have C0 := Lib.hid ((box_new (W := w) (a := a) (b := b) (t := 28) rfl).alloc (.cells #[.string s, .string t] 9))
  have E0 := Lib.hid (argS_two (W := w.alloc (.cells #[.int .i64 a, .int .i64 b] 28)) (s := s) (u := t) (t := 9) (g := w.heap.size + 1) (by simp) hs ht)
  clear hA hn hs ht
  go_enter Try.func33, Try.ntmps33
  go_wp2_with fail
  refine (mazeOf_any _ _ _ _ _ ts _ _ _ [s, t] _ HN.out (HA.out.below X0.out) (by unfold maxLen; omega) E0.out).mono ?_
  rintro e w1 h1
  rcases h1 with ⟨hd, B, rfl, hB, hlv, hb1⟩ | ⟨hd, rfl, hb1⟩
  · rw [mzB_two] at hd
    unfold mzV
    have HD := Lib.hid hd
    have HP := Lib.hid (dkB_parts (dtB_parts hd).1)
    have HQ := Lib.hid (dkB_parts (dtB_parts hd).2)
    have hwB : w.heap.size ≤ B := by have := X0.out.size; omega
    have X1 := Lib.hid ((bel_call X0.out hb1).alloc (bel_call X0.out hb1).size (.cells #[.int .i64 a, .int .i64 b, .map (some B)] 72))
    have C1 := Lib.hid ((C0.out.call hb1).alloc (.cells #[.int .i64 a, .int .i64 b, .map (some B)] 72))
    have M1 := Lib.hid (m3_new (W := w1) (a := a) (b := b) (v := .map (some B)) (t := 72) rfl)
    have L1 := Lib.hid (hlv.call ((Below.refl _ _).alloc (Nat.le_refl _) (.cells #[.int .i64 a, .int .i64 b, .map (some B)] 72)))
    have k0 : (w1.alloc (.cells #[.int .i64 a, .int .i64 b, .map (some B)] 72)).cell? ⟨w1.heap.size, 0, none⟩ = some (.int .i64 a) := M1.out.cell (show 0 < 3 by omega)
    have k1 : (w1.alloc (.cells #[.int .i64 a, .int .i64 b, .map (some B)] 72)).cell? ⟨w1.heap.size, 1, none⟩ = some (.int .i64 b) := M1.out.cell (show 1 < 3 by omega)
    have k2 : (w1.alloc (.cells #[.int .i64 a, .int .i64 b, .map (some B)] 72)).cell? ⟨w1.heap.size, 2, none⟩ = some (.map (some B)) := M1.out.cell (show 2 < 3 by omega)
    have hBw1 : B < w1.heap.size := hlv.lt
    clear hd hb1 hlv X0 E0 hB
    go_wp2_with fail
    refine (layersFrom_any _ _ _ (alB a b ts) _ _ L1.out (fun t h => alB_ask h) HP.out.2.2.2.2.2.2 HP.out.2.2.1 HP.out.2.2.2.1).mono ?_
    rintro e w3 ⟨v, N, G, rfl, hN0, hN1, hrow, hly, hne, hend, hlv3, hgr3, hsh3⟩
    have X3 := Lib.hid (below_grown X1.out hwB hgr3)
    obtain ⟨g, cc, rfl, hgl, hcell⟩ := lays_cells hrow hN0
    have HCELL := Lib.hid hcell
    have HLY := Lib.hid hly
    have HEND := Lib.hid hend
    clear hrow hly hne hend hlv3 hgr3 hsh3 hcell
    have HTA := Lib.hid HQ.out.2.2.2.2.1
    have HFB : Hid (caB a b ts s t = decide (wsU a b ts s t N ≤ 1000000000000000)) := Lib.hid (by unfold caB; rw [HD.out, wsU_end HTA.out HEND.out]; rfl)
    have HFZ : Hid (caZ a b ts s t = if caB a b ts s t then ((wsU a b ts s t N : Nat) : Int) else 0) := Lib.hid (by unfold caZ; rw [wsU_end HTA.out HEND.out])
    go_wp2_with fail
    go_loop [12, 30] (fun v i => ∃ k : Nat, k ≤ N ∧ i = .int .i64 k ∧ v = .int .i64 ((wsU a b ts s t k : Nat) : Int)) (fun _ i => N - (intOf i).toNat)
    case atStart => exact ⟨0, by omega, rfl, rfl⟩
    case round =>
      obtain ⟨k, hk, rfl, rfl⟩ := hrel
      by_cases hlt : k < N
      · have z := HCELL.out k hlt
        obtain ⟨_, L, f, hM, hmem, hval⟩ := HLY.out k hlt
        have HLK := hM.lookI (tM := 81) Try.underlying81 (askB_size HTA.out) (c := ((sat capN (wyA a b (alB a b ts) s k t) : Nat) : Int)) (fun h => hval t h) (fun h => by
          rcases Nat.eq_zero_or_pos (wyA a b (alB a b ts) s k t) with e | e
          · rw [e, sat_zero]; rfl
          · exact absurd ((hmem t).2 e) h)
        have HUP := Lib.hid (wsU_succ (ts := ts) (s := s) HTA.out k)
        have h1 := cap_int (wsU_le (a := a) (b := b) (ts := ts) (s := s) (x := t) (k := k))
        have h2 := cap_int (sat_le capN (wyA a b (alB a b ts) s k t))
        clear hM hmem hval
        generalize sat capN (wyA a b (alB a b ts) s k t) = y at HLK HUP h2
        generalize wsU a b ts s t k = q at HUP h1 ⊢
        go_wp2_with fail
        go_round
        case rel => exact ⟨k + 1, by omega, by go_num, by rw [HUP.out]; first | rfl | (congr 1; omega)⟩
        case measure => simp [intOf]; omega
      · obtain rfl : k = N := by omega
        have h1 := cap_int (wsU_le (a := a) (b := b) (ts := ts) (s := s) (x := t) (k := k))
        generalize wsU a b ts s t k = y at HFB HFZ h1 ⊢
        by_cases hy : y ≤ 1000000000000000
        · have HV := Lib.hid (HFB.out.trans (decide_eq_true hy))
          have HFY : Hid (caZ a b ts s t = (y : Int)) := Lib.hid (by rw [HFZ.out, HV.out, if_pos rfl])
          go_wp2_with fail
          go_ret2
          exact ⟨by rw [HV.out, HFY.out]; rfl, X3.out⟩
        · have HV := Lib.hid (HFB.out.trans (decide_eq_false hy))
          have HFY : Hid (caZ a b ts s t = 0) := Lib.hid (by rw [HFZ.out, HV.out]; rfl)
          go_wp2_with fail
          go_ret2
          exact ⟨by rw [HV.out, HFY.out]; rfl, X3.out⟩
  · rw [mzB_two] at hd
    have HD := Lib.hid hd
    have X1 := Lib.hid ((bel_call X0.out hb1).alloc (bel_call X0.out hb1).size (.cells #[.int .i64 0, .int .i64 0, .map none] 72))
    unfold mzV
    have HW : Hid (caB a b ts s t = false) := Lib.hid (by unfold caB; rw [hd]; rfl)
    have HV : Hid (caZ a b ts s t = 0) := Lib.hid (by unfold caZ; rw [HW.out]; rfl)
    clear hd hb1
    go_wp2_with fail
    go_ret2
    exact ⟨by rw [HV.out, HW.out]; rfl, X1.out⟩

end Go.Proofs.Ytilnjlcljjpnmaa
