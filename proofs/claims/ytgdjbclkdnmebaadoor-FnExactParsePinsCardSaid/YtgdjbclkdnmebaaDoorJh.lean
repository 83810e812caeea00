/- Pins read from a text, as the model reads them. For texts of at most 2^20 bytes. -/
import Derived.Test.YtgdjbclkdnmebaaDoorJg
import Derived.Deep.RegionWith
namespace Go.Proofs.YtgdjbclkdnmebaaDoor
set_option maxRecDepth 100000
open Go.ChangeShapes Go.WideShapes Go.ChangeAt Go.RowKit Go.Joins

/-- What reading hands back. -/
def KeP (w : World) (s : ByteArray) (e : Ending) (w' : World) : Prop :=
  ∃ a A m c, e = .returned (.tuple #[.agg #[.int .i64 a, .slice A m c], .bool (ppB s)]) ∧ (ppB s = true → a = ppD s ∧ m = (ppK s).length ∧ RowP w' w.heap.size (.slice A m c) (ppK s)) ∧ Below w.heap.size w w'

theorem whDigitsW_any (s : ByteArray) (w : World) (hl : s.size ≤ 1048576) :
    Calls Tryd.prog 72 #[.string s] w fun e w' => ∃ A c g, e = .returned (.slice A s.size c) ∧ (s.size = 0 ∨ (A = some ⟨g, 0, none⟩ ∧ w.heap.size ≤ g ∧ Cells w' g s.size (digF (dgA s)))) ∧ Below w.heap.size w w' := by
  rcases Nat.eq_zero_or_pos s.size with h | h
  · refine (whDigitsZ_any s w h).mono ?_
    rintro e w' ⟨rfl, hb⟩
    exact ⟨none, 0, 0, by rw [h], .inl h, hb⟩
  · refine (whDigitsA_any s w hl h).mono ?_
    rintro e w' ⟨g, c, rfl, hg, hC, hb⟩
    exact ⟨_, c, g, rfl, .inr ⟨rfl, hg, hC⟩, hb⟩

theorem RowP.drewR {w : World} {B : Nat} {v : Value} {ks : List (List Int)} (h : RowP w B v ks) : RowP w.drew B v ks :=
  h.call (bel_drew (Below.refl _ _))

set_option maxHeartbeats 4000000 in
theorem keParseN_any (s : ByteArray) (hs : s.size ≤ 1048576) (w : World) (hno : 100 < s.size ∨ (spA 61 s).length ≠ 2) :
    Calls Tryd.prog 34 #[.string s] w (KeP w s) := by
  have HD : Hid (ppB s = false) := Lib.hid (by
    cases h : ppB s with
    | false => rfl
    | true =>
      obtain ⟨h1, y, h2⟩ := pp_parts h
      rw [h2] at hno
      rcases hno with h3 | h3
      · omega
      · exact absurd rfl h3)
  have HQ := Lib.hid (show Cells (w.alloc (.cells #[.int .i64 0, .slice none 0 0] 28)) w.heap.size 2 (pF 0 (.slice none 0 0)) from Cells.new (n := 2) rfl rfl)
  have HB0 := Lib.hid (show Below w.heap.size w (w.alloc (.cells #[.int .i64 0, .slice none 0 0] 28)) from (Below.refl _ _).alloc (Nat.le_refl _) _)
  obtain ⟨M, hM⟩ : ∃ M, (spA 61 s).length = M := ⟨_, rfl⟩
  have HM := Lib.hid hM
  rw [hM] at hno
  clear hM
  by_cases h100 : 100 < s.size
  · clear hno
    go_enter Tryd.func34, Tryd.ntmps34
    go_wp2_with (first
     | (go_at_call 70; refine (l1SplitC_any s 61 61 (by decide) hs _).mono ?_; rw [HM.out]; rintro e w1 ⟨g1, c1, rfl, hg1, hC1, hc1, hb1⟩
        have E1 := Lib.hid (HQ.out.call hb1)
        have B1 := Lib.hid (bel_call HB0.out hb1)
        have q0 := E1.out.cell (show 0 < 2 by omega)
        have q1 := E1.out.cell (show 1 < 2 by omega)
        have f0 := E1.out.frozen (show 0 < 2 by omega)
        have f1 := E1.out.frozen (show 1 < 2 by omega)
        clear hC1 hb1))
    refine bodyPost_ret (v := .tuple #[.agg #[.int .i64 0, .slice none 0 0], .bool false]) (by simp [results, Tryd.results34, go_sem, q0, q1]) rfl ?_
    exact ⟨0, none, 0, 0, by rw [HD.out], (fun h => by rw [HD.out] at h; cases h), (B1.out.setCell (p := ⟨w.heap.size, 0, none⟩) (Nat.le_refl _) _).setCell (p := ⟨w.heap.size, 1, none⟩) (Nat.le_refl _) _⟩
  · have hM2 : M ≠ 2 := hno.resolve_left h100
    have hM2' : ((M : Int) != 2) = true := by simpa using (show ¬ (M : Int) = 2 by omega)
    clear hno
    go_enter Tryd.func34, Tryd.ntmps34
    go_wp2_with (first
     | (go_at_call 70; refine (l1SplitC_any s 61 61 (by decide) hs _).mono ?_; rw [HM.out]; rintro e w1 ⟨g1, c1, rfl, hg1, hC1, hc1, hb1⟩
        have E1 := Lib.hid (HQ.out.call hb1)
        have B1 := Lib.hid (bel_call HB0.out hb1)
        have q0 := E1.out.cell (show 0 < 2 by omega)
        have q1 := E1.out.cell (show 1 < 2 by omega)
        have f0 := E1.out.frozen (show 0 < 2 by omega)
        have f1 := E1.out.frozen (show 1 < 2 by omega)
        clear hC1 hb1))
    refine bodyPost_ret (v := .tuple #[.agg #[.int .i64 0, .slice none 0 0], .bool false]) (by simp [results, Tryd.results34, go_sem, q0, q1]) rfl ?_
    exact ⟨0, none, 0, 0, by rw [HD.out], (fun h => by rw [HD.out] at h; cases h), (B1.out.setCell (p := ⟨w.heap.size, 0, none⟩) (Nat.le_refl _) _).setCell (p := ⟨w.heap.size, 1, none⟩) (Nat.le_refl _) _⟩

set_option maxHeartbeats 8000000 in
theorem keParseY_any (s : ByteArray) (hs : s.size ≤ 100) (x y : ByteArray) (hxy : spA 61 s = [x, y]) (w : World) :
    Calls Tryd.prog 34 #[.string s] w (KeP w s) := by
  obtain ⟨i0, hi, hy0, hy1, hy2⟩ := info_parts info_lists
  have hT : ppT s = y := pp_two hxy
  have HQ := Lib.hid (show Cells (w.alloc (.cells #[.int .i64 0, .slice none 0 0] 28)) w.heap.size 2 (pF 0 (.slice none 0 0)) from Cells.new (n := 2) rfl rfl)
  have HB0 := Lib.hid (show Below w.heap.size w (w.alloc (.cells #[.int .i64 0, .slice none 0 0] 28)) from (Below.refl _ _).alloc (Nat.le_refl _) _)
  have hyz : y.size ≤ 100 := by have := ppT_size s; rw [hT] at this; omega
  have hxz : x.size ≤ 1048576 := by
    have h1 := spA_spl 61 s
    rw [hxy] at h1
    have h2 := congrArg List.length (jn_spl 61 s.data.toList)
    rw [← h1] at h2
    have h3 : (jn 61 [x.data.toList, y.data.toList]).length = x.data.toList.length + (1 + y.data.toList.length) := by
      show (x.data.toList ++ 61 :: y.data.toList).length = _
      rw [List.length_append, List.length_cons]; omega
    have h4 : s.data.toList.length = s.size := rfl
    have h5 : x.data.toList.length = x.size := rfl
    have h6 : (jn 61 [x.data.toList, y.data.toList]).length = s.data.toList.length := h2
    omega
  obtain ⟨n, hn⟩ : ∃ n, (spA 44 y).length = n := ⟨_, rfl⟩
  have HN := Lib.hid hn
  have HKL : Hid ((ppK s).length = n) := Lib.hid (by unfold ppK; rw [List.length_map, hT, hn])
  have HM : Hid (n + lensAt (ppK s) n ≤ 1048576) := Lib.hid (by have := ppK_size s (by omega); rwa [HKL.out] at this)
  have hnm : n ≤ 1048576 := by have := HM.out; omega
  have HPK : Hid (∀ k, k < n → (ppK s).getD k [] = dgA ((spA 44 y).getD k ByteArray.empty) ∧ ((spA 44 y).getD k ByteArray.empty).size ≤ 1048576) := Lib.hid (fun k hk => by
    have e1 : (ppK s).getD k [] = dgA ((spA 44 y).getD k ByteArray.empty) := by
      unfold ppK
      rw [hT]
      simp [List.getD, List.getElem?_map, List.getElem?_eq_getElem (show k < (spA 44 y).length by omega)]
    refine ⟨e1, ?_⟩
    have h1 := lensAt_one (ks := ppK s) (n := n) hk
    rw [e1, dgA_length] at h1
    have := HM.out
    omega)
  have HSN : Hid (∀ a : Int, (∀ n, 0 ≤ n → n ≤ 10 → x = numB n → a = n) → ppB s = (pinsB a (ppK s) && decide (pxU a (ppK s) n = s)) ∧ (ppB s = true → a = ppD s)) := Lib.hid (fun a ha => by have := pp_seen hxy ha; rwa [HKL.out] at this)
  have HXY : Hid ((spA 61 s).length = 2 ∧ strF (spA 61 s) = strF [x, y]) := Lib.hid (by rw [hxy]; exact ⟨rfl, rfl⟩)
  have h100 : ¬ 100 < s.size := by omega
  have hs' : s.size ≤ 1048576 := by omega
  clear hn hxy hT
  go_enter Tryd.func34, Tryd.ntmps34
  go_wp2_with (first
    | ((fail_if_success (have := o0)); go_at_call 70; refine (l1SplitC_any s 61 61 (by decide) hs' _).mono ?_; rw [HXY.out.1, HXY.out.2]; rintro e w1 ⟨g1, c1, rfl, hg1, hC1, hc1, hb1⟩
       have HC1 := Lib.hid hC1
       have E1 := Lib.hid (HQ.out.call hb1)
       have B1 := Lib.hid (bel_call HB0.out hb1)
       have Y1 : w.heap.size < g1 := by rw [World.size_alloc] at hg1; omega
       have o0 : w1.cell? ⟨g1, 0, none⟩ = some (.string x) := HC1.out.cell (show 0 < 2 by omega)
       clear hC1 hb1 hg1)
    | (go_at_call 71; refine (l1Read_any x hxz _).mono ?_; rintro e w2 ⟨a, rfl, ha, hb2⟩
       have HSE := Lib.hid (HSN.out a ha)
       have D2 := Lib.hid (HC1.out.call hb2)
       have E2 := Lib.hid (E1.out.call hb2)
       have B2 := Lib.hid (bel_call B1.out hb2)
       have Y2 : g1 < w2.heap.size := D2.out.lt
       have hb3 : Below w2.heap.size w2 (w2.alloc (.cells #[.int .i64 a, .slice none 0 0] 28)) := (Below.refl _ _).alloc (Nat.le_refl _) _
       have D3 := Lib.hid (D2.out.call hb3)
       have E3 := Lib.hid (E2.out.call hb3)
       have B3 := Lib.hid (bel_call B2.out hb3)
       have P3 : Hid (Cells (w2.alloc (.cells #[.int .i64 a, .slice none 0 0] 28)) w2.heap.size 2 (pF a (.slice none 0 0))) := Lib.hid (Cells.new (n := 2) rfl rfl)
       have o1 : (w2.alloc (.cells #[.int .i64 a, .slice none 0 0] 28)).cell? ⟨g1, 1, none⟩ = some (.string y) := D3.out.cell (show 1 < 2 by omega)
       clear hb2 hb3 ha)
    | (go_at_call 70; refine (l1SplitC_any y 44 44 (by decide) (by omega) _).mono ?_; rw [HN.out]; rintro e w4 ⟨V, c4, rfl, hg4, hC4, hc4, hb4⟩
       have E4 := Lib.hid (E3.out.call hb4)
       have P4 := Lib.hid (P3.out.call hb4)
       have B4 := Lib.hid (bel_call B3.out hb4)
       have U4 := Lib.hid hC4
       have Y4 : w2.heap.size < V := by rw [World.size_alloc] at hg4; omega
       clear hC4 hb4 hg4))
  obtain ⟨U, hU⟩ : ∃ U, w2.heap.size = U := ⟨_, rfl⟩
  have hV4 : V < w4.heap.size := U4.out.lt
  have hU1 : w.heap.size < U := by omega
  rw [hU] at P4 Y4 ⊢
  clear hU o0 o1 Y1 Y2
  go_loopw [29] (fun i wr => ∃ (k : Nat) (v : Value), k ≤ n ∧ i = .int .i64 (k : Int) ∧ RowP wr (V + 1) v ((ppK s).take k) ∧ Cells wr V n (strF (spA 44 y)) ∧ Cells wr w.heap.size 2 (pF 0 (.slice none 0 0)) ∧ Cells wr U 2 (pF a v) ∧ V + 1 ≤ wr.heap.size ∧ Below w.heap.size w wr) (fun i _ => n - (intOf i).toNat)
  case atStart => exact ⟨0, .slice none 0 0, by omega, rfl, rowP_nil _ _, U4.out, E4.out, P4.out, by omega, B4.out⟩
  case round =>
    clear U4 E4 P4 B4 B3 E3 P3 D3 B2 E2 D2 B1 E1 HC1
    obtain ⟨k, v, hk, rfl, hR, hUU, hQ, hT, hz, hB⟩ := hrel
    have HR := Lib.hid hR
    have HUU := Lib.hid hUU
    have HQ := Lib.hid hQ
    have HT := Lib.hid hT
    have HB := Lib.hid hB
    clear hR hUU hQ hT hB
    by_cases hlt : k < n
    · obtain ⟨hkd, hts⟩ := HPK.out k hlt
      have o1 : wr.cell? ⟨V, k, none⟩ = some (.string ((spA 44 y).getD k ByteArray.empty)) := HUU.out.cell hlt
      have HX : Hid ((ppK s).take (k + 1) = (ppK s).take k ++ [dgA ((spA 44 y).getD k ByteArray.empty)]) := Lib.hid (by
        rw [← hkd, List.take_succ_eq_append_getElem (by rw [HKL.out]; exact hlt)]
        simp [List.getD, List.getElem?_eq_getElem (show k < (ppK s).length by rw [HKL.out]; exact hlt)])
      have hkl : ((ppK s).take k).length = k := by rw [List.length_take, HKL.out]; omega
      obtain ⟨K0, hK0⟩ : ∃ K0, (ppK s).take k = K0 := ⟨_, rfl⟩
      rw [hK0] at HR HX hkl
      generalize (spA 44 y).getD k ByteArray.empty = t at hts o1 HX
      clear hkd hK0
      obtain ⟨G, vs, hv1, hv2, hv3, hv4⟩ := HR.out.own
      have HV1' := Lib.hid hv1
      have HV2' := Lib.hid hv2
      have HV3' := Lib.hid hv3
      have HV4' := Lib.hid hv4
      clear hv1 hv2 hv3 hv4
      rw [hkl] at HV2'
      have m1 : wr.cell? ⟨U, 1, none⟩ = some v := HT.out.cell (show 1 < 2 by omega)
      go_wp2_with fail
      go_region_law (first
        | (go_simp; go_at_call 72; refine (whDigitsW_any t _ hts).mono ?_; rintro e w2 ⟨A2, c2, g2, rfl, hC2, hb2⟩
           have HB2 := Lib.hid (below_undrew hb2)
           have HC2 := Lib.hid hC2
           have HT2 := Lib.hid (HT.out.call HB2.out)
           have m3 : w2.cell? ⟨U, 1, none⟩ = some v := HT2.out.cell (show 1 < 2 by omega)
           have m4 : (w2.alloc (.cells #[.slice A2 t.size c2] 58)).cell? ⟨U, 1, none⟩ = some v := (HT2.out.alloc _).cell (show 1 < 2 by omega)
           have HO2 := Lib.hid ((rowv_kept HV2'.out HB2.out).alloc (.cells #[.slice A2 t.size c2] 58))
           have HZ2 := Lib.hid (Nat.le_trans hz HB2.out.size)
           clear hb2 hC2)
        | (refine step_append_at rfl (.tmp 34) (.tmp 37) 22 rfl (V + 1) 58 i0 (.slice none 0 0) 1 24 Tryd.underlying22 hi hy0 hy1 hy2 rfl (by decide) v k vs rfl HO2.out ⟨w2.heap.size, 0, none⟩ 1 1 [.slice A2 t.size c2] rfl rfl (newv_one rfl) (by simp [Value.oneCell']) (by unfold maxLen; omega) (by omega) (by have := HZ2.out; simp; omega) ?_; intro v' w4 hown' hgrow hblk
           have HR4 := Lib.hid (RowP.snoc (g := g2) HV1'.out HV3'.out HV4'.out HV2'.out.lt HB2.out hz HC2.out (dgA_length t) (by rw [hkl]; exact hown') hgrow hblk)
           have hlt2 := HO2.out.lt
           have HT4 := Lib.hid ((HT2.out.alloc (.cells #[.slice A2 t.size c2] 58)).keptV hgrow (fun e => by have := (hlt2 _ e).1; omega))
           have HU4 := Lib.hid (((HUU.out.call HB2.out).alloc (.cells #[.slice A2 t.size c2] 58)).keptV hgrow (fun e => by have := (hlt2 _ e).1; omega))
           have HQ4 := Lib.hid (((HQ.out.call HB2.out).alloc (.cells #[.slice A2 t.size c2] 58)).keptV hgrow (fun e => by have := (hlt2 _ e).1; omega))
           have HB4 := Lib.hid (((bel_call HB.out HB2.out).alloc (bel_call HB.out HB2.out).size _).grown hgrow (by have := HZ2.out; simp; omega) (fun j hj => by have := (hlt2 j hj).1; omega))
           have HZ4 := Lib.hid (show V + 1 ≤ w4.heap.size by have h1 := HZ2.out; have h2 := hgrow.size; simp at h2; omega)
           obtain ⟨g', cap', rfl⟩ := rowv_succ hown'
           have c2' : w4.cell? ⟨U, 1, none⟩ = some v := HT4.out.cell (show 1 < 2 by omega)
           have c3 := HT4.out.frozen (show 1 < 2 by omega)
           clear hown' hgrow hblk hlt2))
      all_goals
        have HRN := Lib.hid (HR4.out.under (p := ⟨U, 1, none⟩) (by show U < V + 1; omega) (.slice (some ⟨g', 0, none⟩) (k + 1) cap'))
        have HUN := Lib.hid (HU4.out.far (p := ⟨U, 1, none⟩) (by show U ≠ V; omega) (.slice (some ⟨g', 0, none⟩) (k + 1) cap'))
        have HQN := Lib.hid (HQ4.out.far (p := ⟨U, 1, none⟩) (by show U ≠ w.heap.size; omega) (.slice (some ⟨g', 0, none⟩) (k + 1) cap'))
        have HTN := Lib.hid ((HT4.out.set_ (show 1 < 2 by omega) (.slice (some ⟨g', 0, none⟩) (k + 1) cap')).congr (f' := pF a (.slice (some ⟨g', 0, none⟩) (k + 1) cap')) (fun j hj => by
          have : j = 0 ∨ j = 1 := by omega
          rcases this with rfl | rfl <;> rfl))
        go_wp2_with fail
        go_roundw
        case rel => exact ⟨k + 1, _, by omega, by go_num, by rw [HX.out]; exact HRN.out, HUN.out, HQN.out, HTN.out, by rw [size_setCell]; exact HZ4.out, HB4.out.setCell (by show w.heap.size ≤ U; omega) _⟩
        case measure => simp [intOf]; omega
    · obtain rfl : k = n := by omega
      rw [List.take_of_length_le (by rw [HKL.out]; exact Nat.le_refl _)] at HR
      obtain ⟨A', c', hv⟩ := HR.out.slice
      rw [HKL.out] at hv
      subst hv
      have HKA := Lib.hid (HR.out.knobs (fun i hi => by have h1 := lensAt_one (ks := ppK s) (n := k) (by rw [← HKL.out]; exact hi); have := HM.out; unfold maxLen; omega))
      have HKC : Hid (∀ W, Below wr.heap.size wr W → pinsB a (ppK s) = true → KnobsC W A' k (ppK s)) := Lib.hid (fun W hb hp => (HR.out.call hb).knobsC HKL.out (fun i hi => ((pinsB_yes hp).2.2.2.2 i (by rw [HKL.out]; exact hi)).1))
      have t0 : wr.cell? ⟨U, 0, none⟩ = some (.int .i64 a) := HT.out.cell (show 0 < 2 by omega)
      have t1 : wr.cell? ⟨U, 1, none⟩ = some (.slice A' k c') := HT.out.cell (show 1 < 2 by omega)
      have HFIN : Hid (∀ W, Below wr.heap.size wr W → KeP w s (.returned (.tuple #[.agg #[.int .i64 a, .slice A' k c'], .bool (ppB s)])) ((W.setCell ⟨w.heap.size, 0, none⟩ (.int .i64 a)).setCell ⟨w.heap.size, 1, none⟩ (.slice A' k c'))) := Lib.hid (fun W hb => ⟨a, A', k, c', rfl, fun h => ⟨HSE.out.2 h, HKL.out.symm, (((HR.out.call hb).under (p := ⟨w.heap.size, 0, none⟩) (by show w.heap.size < V + 1; omega) _).under (p := ⟨w.heap.size, 1, none⟩) (by show w.heap.size < V + 1; omega) _).weak (by omega)⟩, ((bel_call HB.out hb).setCell (p := ⟨w.heap.size, 0, none⟩) (Nat.le_refl _) _).setCell (p := ⟨w.heap.size, 1, none⟩) (Nat.le_refl _) _⟩)
      have HLM : Hid (∀ i, i < (ppK s).length → ((ppK s).getD i []).length ≤ maxLen) := Lib.hid (fun i hi => by have h1 := lensAt_one (ks := ppK s) (n := k) (by rw [← HKL.out]; exact hi); have := HM.out; unfold maxLen; omega)
      obtain ⟨x9, HX9⟩ : ∃ x, Hid (pinsB a (ppK s) = x) := ⟨_, Lib.hid rfl⟩
      rcases x9 with _ | _
      · have HD : Hid (ppB s = false) := Lib.hid (by rw [HSE.out.1, HX9.out]; rfl)
        go_wp2_with fail
        have hst : ∀ (W : World) (p : Nat) (z : Value), (W.cell? ⟨U, 0, none⟩ = some (.int .i64 a) ∧ W.cell? ⟨U, 1, none⟩ = some (.slice A' k c') ∧ (∃ f, Cells W w.heap.size 2 f) ∧ RowP W (V + 1) (.slice A' k c') (ppK s) ∧ Below w.heap.size w W) → p < 2 → (((W.setCell ⟨w.heap.size, p, none⟩ z).cell? ⟨U, 0, none⟩ = some (.int .i64 a) ∧ (W.setCell ⟨w.heap.size, p, none⟩ z).cell? ⟨U, 1, none⟩ = some (.slice A' k c') ∧ (∃ f, Cells (W.setCell ⟨w.heap.size, p, none⟩ z) w.heap.size 2 f) ∧ RowP (W.setCell ⟨w.heap.size, p, none⟩ z) (V + 1) (.slice A' k c') (ppK s) ∧ Below w.heap.size w (W.setCell ⟨w.heap.size, p, none⟩ z))) := fun W p z ⟨h1, h2, ⟨f, h3⟩, h4, h5⟩ hp => ⟨by rw [World.cell?_setCell_other W _ _ z (fun e => by injection e with e; omega)]; exact h1, by rw [World.cell?_setCell_other W _ _ z (fun e => by injection e with e; omega)]; exact h2, ⟨_, h3.set_ hp z⟩, h4.under (by show w.heap.size < V + 1; omega) z, h5.setCell (Nat.le_refl _) z⟩
        refine wp_region_held_drew (S := (fun W => W.cell? ⟨U, 0, none⟩ = some (.int .i64 a) ∧ W.cell? ⟨U, 1, none⟩ = some (.slice A' k c') ∧ (∃ f, Cells W w.heap.size 2 f) ∧ RowP W (V + 1) (.slice A' k c') (ppK s) ∧ Below w.heap.size w W)) (by kernel_rfl) ⟨t0, t1, ⟨_, HQ.out.drew⟩, HR.out.drewR, bel_drew HB.out⟩ (fun hHeld => ?_)
        clear t0 t1
        (refine wpAnyH_take (i := 0) (v := ?_) rfl (by kernel_rfl) (by kernel_rfl) (by kernel_rfl) (fun _ _ _ h => h) (Or.inl ⟨by rfl, by intro w hSw; (try dsimp only at hSw); go_simp; try with_reducible rfl⟩) (by assumption) ?_; try simp only [Act.put, List.getElem_toArray, List.getElem_cons_zero, List.setIfInBounds_toArray, List.set_cons_zero, List.set_cons_succ])
        (refine wpAnyH_take (i := 1) (v := ?_) rfl (by kernel_rfl) (by kernel_rfl) (by kernel_rfl) (fun _ _ _ h => h) (Or.inl ⟨by rfl, by intro w hSw; (try dsimp only at hSw); go_simp; try with_reducible rfl⟩) (by assumption) ?_; try simp only [Act.put, List.getElem_toArray, List.getElem_cons_zero, List.getElem_cons_succ, List.setIfInBounds_toArray, List.set_cons_zero, List.set_cons_succ])
        (refine wpAnyH_ready (rs := [2]) (by kernel_rfl) (by simp) (AllReadyH.cons rfl (fun K hK => ?_) AllReadyH.nil); rw [if_pos (by rfl)]; simp only [List.getElem_toArray, List.getElem_cons_zero, List.getElem_cons_succ]; go_wp2_with ((go_at_call 26; refine (keGood_any a _ _ _ (ppK s) _ HM.out (hHeld.2.2.2.1.knobs HLM.out)).mono ?_; rw [HX9.out]; rintro e w5 ⟨rfl, hb5⟩; have hS5 := And.intro ((hb5.cell (p := ⟨U, 0, none⟩) (World.block_lt_of_cell? _ _ hHeld.1)).trans hHeld.1) (And.intro ((hb5.cell (p := ⟨U, 1, none⟩) (World.block_lt_of_cell? _ _ hHeld.2.1)).trans hHeld.2.1) (And.intro (hHeld.2.2.1.elim fun f h => (⟨f, h.call hb5⟩ : ∃ f, Cells w5 w.heap.size 2 f)) (And.intro (hHeld.2.2.2.1.call hb5) (bel_call hHeld.2.2.2.2 hb5)))))); refine hK.out _ _ hS5 (fun hHeld => ?_); clear hK K; try simp only [Act.put, List.getElem_toArray, List.getElem_cons_zero, List.getElem_cons_succ, List.setIfInBounds_toArray, List.set_cons_zero, List.set_cons_succ])
        (refine wpAnyH_take (i := 3) (v := ?_) rfl (by kernel_rfl) (by kernel_rfl) (by kernel_rfl) (fun _ _ _ h => h) (Or.inl ⟨by rfl, by intro w hSw; (try dsimp only at hSw); go_simp; try with_reducible rfl⟩) (by assumption) ?_; try simp only [Act.put, List.getElem_toArray, List.getElem_cons_zero, List.getElem_cons_succ, List.setIfInBounds_toArray, List.set_cons_zero, List.set_cons_succ])
        (refine wpAnyH_take (i := 4) (v := undef) rfl (by kernel_rfl) (by kernel_rfl) (by kernel_rfl) (fun _ _ _ h => h) (Or.inr ⟨by rfl, rfl⟩) (by assumption) ?_; try simp only [Act.put, List.getElem_toArray, List.getElem_cons_zero, List.getElem_cons_succ, List.setIfInBounds_toArray, List.set_cons_zero, List.set_cons_succ])
        (refine wpAnyH_take (i := 5) (v := undef) rfl (by kernel_rfl) (by kernel_rfl) (by kernel_rfl) (fun _ _ _ h => h) (Or.inr ⟨by rfl, rfl⟩) (by assumption) ?_; try simp only [Act.put, List.getElem_toArray, List.getElem_cons_zero, List.getElem_cons_succ, List.setIfInBounds_toArray, List.set_cons_zero, List.set_cons_succ])
        (refine wpAnyH_take (i := 6) (v := undef) rfl (by kernel_rfl) (by kernel_rfl) (by kernel_rfl) (fun _ _ _ h => h) (Or.inr ⟨by rfl, rfl⟩) (by assumption) ?_; try simp only [Act.put, List.getElem_toArray, List.getElem_cons_zero, List.getElem_cons_succ, List.setIfInBounds_toArray, List.set_cons_zero, List.set_cons_succ])
        (refine wpAnyH_take (i := 7) (v := undef) rfl (by kernel_rfl) (by kernel_rfl) (by kernel_rfl) (fun _ _ _ h => h) (Or.inr ⟨by rfl, rfl⟩) (by assumption) ?_; try simp only [Act.put, List.getElem_toArray, List.getElem_cons_zero, List.getElem_cons_succ, List.setIfInBounds_toArray, List.set_cons_zero, List.set_cons_succ])
        (refine wpAnyH_take (i := 8) (v := ?_) rfl (by kernel_rfl) (by kernel_rfl) (by kernel_rfl) (fun _ _ _ h => h) (Or.inl ⟨by rfl, by intro w hSw; (try dsimp only at hSw); go_simp; try with_reducible rfl⟩) (by assumption) ?_; try simp only [Act.put, List.getElem_toArray, List.getElem_cons_zero, List.getElem_cons_succ, List.setIfInBounds_toArray, List.set_cons_zero, List.set_cons_succ])
        obtain ⟨fq, hq5⟩ := hHeld.2.2.1
        have q0 := hq5.cell (show 0 < 2 by omega)
        have q1 := hq5.cell (show 1 < 2 by omega)
        have f0 := hq5.frozen (show 0 < 2 by omega)
        have f1 := hq5.frozen (show 1 < 2 by omega)
        have HS6 := Lib.hid (hst _ 1 (.slice A' k c') (hst _ 0 (.int .i64 a) hHeld (by omega)) (by omega))
        have HH5 := Lib.hid hHeld
        clear hst hq5
        (refine wpAnyH_ready (rs := [9]) (by kernel_rfl) (by simp) (AllReadyH.cons rfl (fun K hK => ?_) AllReadyH.nil); rw [if_pos (by rfl)]; simp only [List.getElem_toArray, List.getElem_cons_zero, List.getElem_cons_succ]; go_wp2_with (fail); refine hK.out _ _ HS6.out (fun hHeld => ?_); clear hK K; try simp only [Act.put, List.getElem_toArray, List.getElem_cons_zero, List.getElem_cons_succ, List.setIfInBounds_toArray, List.set_cons_zero, List.set_cons_succ])
        (refine wpAnyH_take (i := 10) (v := ?_) rfl (by kernel_rfl) (by kernel_rfl) (by kernel_rfl) (fun _ _ _ h => h) (Or.inl ⟨by rfl, by intro w hSw; (try dsimp only at hSw); go_simp; try with_reducible rfl⟩) (by assumption) ?_; try simp only [Act.put, List.getElem_toArray, List.getElem_cons_zero, List.getElem_cons_succ, List.setIfInBounds_toArray, List.set_cons_zero, List.set_cons_succ])
        refine wpAnyH_done (by kernel_rfl) ?_ _
        go_wp2_with fail
        refine bodyPost_ret (v := .tuple #[.agg #[.int .i64 a, .slice A' k c'], .bool false]) (by simp [results, Tryd.results34, go_sem, q0, q1]) rfl ?_
        exact ⟨a, A', k, c', by rw [HD.out], (fun h => by rw [HD.out] at h; cases h), HS6.out.2.2.2.2⟩
      · by_cases hes : pxU a (ppK s) k = s
        · have HD : Hid (ppB s = true) := Lib.hid (by rw [HSE.out.1, HX9.out, decide_eq_true hes]; rfl)
          have HES := Lib.hid hes
          clear hes
          have hsame : (s.toList == s.toList) = true := beq_self_eq_true _
          go_wp2_with fail
          go_region_with (first
            | ((fail_if_success (have := HB5)); (try go_simp); go_at_call 26; refine (keGood_any a _ _ _ (ppK s) _ HM.out (HKA.out.below (bel_drew (Below.refl _ _)))).mono ?_; rw [HX9.out]; rintro e w5 ⟨rfl, hb5⟩
               have HB5 := Lib.hid (below_undrew hb5)
               have HT5 := Lib.hid (HT.out.call HB5.out)
               have HQ5 := Lib.hid (HQ.out.call HB5.out)
               have r0 : w5.cell? ⟨U, 0, none⟩ = some (.int .i64 a) := HT5.out.cell (show 0 < 2 by omega)
               have r1 : w5.cell? ⟨U, 1, none⟩ = some (.slice A' k c') := HT5.out.cell (show 1 < 2 by omega)
               clear hb5)
            | ((try go_simp); go_at_call 27; refine (keText_any a _ _ _ (ppK s) _ HX9.out (HKC.out _ HB5.out HX9.out)).mono ?_; rw [HES.out]; rintro e w6 ⟨rfl, hb6⟩
               have HY3 : Below wr.heap.size wr w5 := HB5.out
               have HY4 : Below w5.heap.size w5 w6 := hb6
               have HB6 := Lib.hid (bel_call HY3 HY4)
               have HT6 := Lib.hid (HT.out.call HB6.out)
               have HQ6 := Lib.hid (HQ.out.call HB6.out)
               have s0 : w6.cell? ⟨U, 0, none⟩ = some (.int .i64 a) := HT6.out.cell (show 0 < 2 by omega)
               have s1 : w6.cell? ⟨U, 1, none⟩ = some (.slice A' k c') := HT6.out.cell (show 1 < 2 by omega)
               have q0 := HQ6.out.cell (show 0 < 2 by omega)
               have q1 := HQ6.out.cell (show 1 < 2 by omega)
               have f0 := HQ6.out.frozen (show 0 < 2 by omega)
               have f1 := HQ6.out.frozen (show 1 < 2 by omega)
               clear hb6 HY3 HY4))
          all_goals
            go_wp2_with fail
            refine bodyPost_ret (v := .tuple #[.agg #[.int .i64 a, .slice A' k c'], .bool true]) (by simp [results, Tryd.results34, go_sem, q0, q1]) rfl ?_
            have h := HFIN.out _ HB6.out
            rw [HD.out] at h
            exact h
        · have HD : Hid (ppB s = false) := Lib.hid (by rw [HSE.out.1, HX9.out, decide_eq_false hes]; rfl)
          obtain ⟨u, hu⟩ : ∃ u, pxU a (ppK s) k = u := ⟨_, rfl⟩
          have HES := Lib.hid hu
          have hsame : (u.toList == s.toList) = false := bytes_neP (by rw [← hu]; exact hes)
          clear hes hu
          go_wp2_with fail
          go_region_with (first
            | ((fail_if_success (have := HB5)); (try go_simp); go_at_call 26; refine (keGood_any a _ _ _ (ppK s) _ HM.out (HKA.out.below (bel_drew (Below.refl _ _)))).mono ?_; rw [HX9.out]; rintro e w5 ⟨rfl, hb5⟩
               have HB5 := Lib.hid (below_undrew hb5)
               have HT5 := Lib.hid (HT.out.call HB5.out)
               have HQ5 := Lib.hid (HQ.out.call HB5.out)
               have r0 : w5.cell? ⟨U, 0, none⟩ = some (.int .i64 a) := HT5.out.cell (show 0 < 2 by omega)
               have r1 : w5.cell? ⟨U, 1, none⟩ = some (.slice A' k c') := HT5.out.cell (show 1 < 2 by omega)
               clear hb5)
            | ((try go_simp); go_at_call 27; refine (keText_any a _ _ _ (ppK s) _ HX9.out (HKC.out _ HB5.out HX9.out)).mono ?_; rw [HES.out]; rintro e w6 ⟨rfl, hb6⟩
               have HY3 : Below wr.heap.size wr w5 := HB5.out
               have HY4 : Below w5.heap.size w5 w6 := hb6
               have HB6 := Lib.hid (bel_call HY3 HY4)
               have HT6 := Lib.hid (HT.out.call HB6.out)
               have HQ6 := Lib.hid (HQ.out.call HB6.out)
               have s0 : w6.cell? ⟨U, 0, none⟩ = some (.int .i64 a) := HT6.out.cell (show 0 < 2 by omega)
               have s1 : w6.cell? ⟨U, 1, none⟩ = some (.slice A' k c') := HT6.out.cell (show 1 < 2 by omega)
               have q0 := HQ6.out.cell (show 0 < 2 by omega)
               have q1 := HQ6.out.cell (show 1 < 2 by omega)
               have f0 := HQ6.out.frozen (show 0 < 2 by omega)
               have f1 := HQ6.out.frozen (show 1 < 2 by omega)
               clear hb6 HY3 HY4))
          all_goals
            go_wp2_with fail
            refine bodyPost_ret (v := .tuple #[.agg #[.int .i64 a, .slice A' k c'], .bool false]) (by simp [results, Tryd.results34, go_sem, q0, q1]) rfl ?_
            have h := HFIN.out _ HB6.out
            rw [HD.out] at h
            exact h

theorem keParse_any (s : ByteArray) (hs : s.size ≤ 1048576) (w : World) : Calls Tryd.prog 34 #[.string s] w (KeP w s) := by
  by_cases h : 100 < s.size ∨ (spA 61 s).length ≠ 2
  · exact keParseN_any s hs w h
  · have h1 : s.size ≤ 100 := by omega
    have h2 : (spA 61 s).length = 2 := by omega
    obtain ⟨x, y, e⟩ : ∃ x y, spA 61 s = [x, y] := by
      match h3 : spA 61 s, h2 with
      | [x, y], _ => exact ⟨x, y, rfl⟩
    exact keParseY_any s h1 x y e w

end Go.Proofs.YtgdjbclkdnmebaaDoor
