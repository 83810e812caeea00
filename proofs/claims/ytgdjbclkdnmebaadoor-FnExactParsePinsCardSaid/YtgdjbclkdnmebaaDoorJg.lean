/- Pins read from a text, as the program reads them. For texts of at most 2^20 bytes, where the library's variables hold what they are laid with. -/
import Derived.Test.YtgdjbclkdnmebaaDoorJf
import Derived.Test.YtgdjbclkdnmebaaDoorVg
import Derived.Deep.RegionLaw
namespace Go.Proofs.YtgdjbclkdnmebaaDoor
set_option maxRecDepth 100000
open Go.ChangeShapes Go.WideShapes Go.ChangeAt Go.RowKit Go.Joins

theorem cut61_any (s : ByteArray) (hs : s.size ≤ 1048576) (w : World) (hL : LibW w) :
    Calls Tryd.prog 35 #[.string s, .string ⟨#[61]⟩] w fun e w' => ∃ b, e = .returned (.tuple #[.string ⟨(Lib.cut s.data.toList [61]).1.toArray⟩, .string (ppT s), .bool b]) ∧ Below w.heap.size w w' ∧ w'.heap = w.heap := by
  obtain ⟨m, hm⟩ := hL.max
  refine (Go.Proofs.Tryd.strings_Cut s ⟨#[61]⟩ m w (by omega) hm).mono ?_
  rintro e w' ⟨rfl, k, rfl⟩
  exact ⟨_, rfl, bel_drewN (Below.refl _ _) _, rfl⟩

/-- Rows as lists at the heads of blocks, where none is empty. -/
theorem RowP.knobsC {w : World} {B n c : Nat} {A : Option Addr} {ks : List (List Int)} (h : RowP w B (.slice A n c) ks) (hl : ks.length = n) (h0 : ∀ i, i < n → (ks.getD i []).length ≠ 0) : KnobsC w A n ks := by
  subst hl
  obtain ⟨G, vs, h1, h2, h3, h4⟩ := h.own
  refine ⟨rfl, ?_⟩
  rcases Nat.eq_zero_or_pos ks.length with hz | hz
  · exact .inl hz
  · obtain ⟨g, c', e, hb, hlt⟩ := h2.form hz
    injection e with e _ e3
    subst e e3
    refine .inr ⟨g, 0, rfl, hlt, fun k hk => ?_⟩
    obtain ⟨Ak, ck, e1, hc⟩ := h3 k hk
    obtain ⟨e2, _, _, hC⟩ := hc.resolve_left (h0 k hk)
    subst e2
    exact ⟨G k, ck, by rw [Nat.zero_add, h2.cellAt k (by omega)]; exact e1, hC⟩

set_option maxHeartbeats 8000000 in
theorem parsePins_any (s : ByteArray) (hs : s.size ≤ 1048576) (w : World) (hL : LibW w) :
    Calls Tryd.prog 13 #[.string s] w (PinsOut w (ppDz s) (ppKz s) (ppB s)) := by
  obtain ⟨i0, hi, hy0, hy1, hy2⟩ := info_parts info_lists
  have HL := Lib.hid hL
  have hl := hL.low
  clear hL
  have HQ := Lib.hid (show Cells (w.alloc (.cells #[.int .i64 0, .slice none 0 0] 28)) w.heap.size 2 (pF 0 (.slice none 0 0)) from Cells.new (n := 2) rfl rfl)
  have HB0 := Lib.hid (show Below w.heap.size w (w.alloc (.cells #[.int .i64 0, .slice none 0 0] 28)) from (Below.refl _ _).alloc (Nat.le_refl _) _)
  obtain ⟨p1, hp1⟩ : ∃ p : ByteArray, (⟨(Lib.cut s.data.toList [61]).1.toArray⟩ : ByteArray) = p := ⟨_, rfl⟩
  have HP1 : Hid (atoiV p1.data.toList = ppD s ∧ p1.size ≤ 1048576) := Lib.hid (by
    rw [← hp1]
    exact ⟨rfl, Nat.le_trans (cutC_le s [61]).1 hs⟩)
  have HCUT : Hid (∀ W, LibW W → Calls Tryd.prog 35 #[.string s, .string ⟨#[61]⟩] W fun e w' => ∃ b, e = .returned (.tuple #[.string p1, .string (ppT s), .bool b]) ∧ Below W.heap.size W w' ∧ w'.heap = W.heap) := Lib.hid (fun W h => by have := cut61_any s hs W h; rwa [hp1] at this)
  have HTR := Lib.hid (ppT_room s hs)
  obtain ⟨n, hn⟩ : ∃ n, (spA 44 (ppT s)).length = n := ⟨_, rfl⟩
  have HN := Lib.hid hn
  have HKL : Hid ((ppK s).length = n) := Lib.hid (by unfold ppK; rw [List.length_map, hn])
  have HM : Hid (n + lensAt (ppK s) n ≤ 1048576) := Lib.hid (by have := ppK_size s hs; rwa [HKL.out] at this)
  have hnm : n ≤ 1048576 := by have := HM.out; omega
  have HPK : Hid (∀ k, k < n → (ppK s).getD k [] = dgA ((spA 44 (ppT s)).getD k ByteArray.empty) ∧ ((spA 44 (ppT s)).getD k ByteArray.empty).size ≤ 1048576) := Lib.hid (fun k hk => by
    have e1 : (ppK s).getD k [] = dgA ((spA 44 (ppT s)).getD k ByteArray.empty) := by
      unfold ppK
      simp [List.getD, List.getElem?_map, List.getElem?_eq_getElem (show k < (spA 44 (ppT s)).length by omega)]
    refine ⟨e1, ?_⟩
    have h1 := lensAt_one (ks := ppK s) (n := n) hk
    rw [e1, dgA_length] at h1
    have := HM.out
    omega)
  clear hp1 hn
  go_enter Tryd.func13, Tryd.ntmps13
  go_wp2_with (first
    | (go_at_call 35; refine (HCUT.out _ (HL.out.below HB0.out hl)).mono ?_; rintro e w1 ⟨cb, rfl, hb1, hh1⟩
       have B1 := Lib.hid (bel_call HB0.out hb1)
       have E1 := Lib.hid (HQ.out.call hb1)
       have HZ1 : Hid (w1.heap.size = w.heap.size + 1) := Lib.hid (by rw [hh1]; simp)
       clear hb1 hh1)
    | (go_at_call 36; refine (atoi_any p1 HP1.out.2 _ (HL.out.below (B1.out.alloc B1.out.size _) hl)).mono ?_; rw [HP1.out.1]; rintro e w2 ⟨eq, rfl, hb2⟩
       have B2 := Lib.hid (bel_call (B1.out.alloc B1.out.size (.cells #[.int .i64 0, .slice none 0 0] 28)) hb2)
       have E2 := Lib.hid ((E1.out.alloc (.cells #[.int .i64 0, .slice none 0 0] 28)).call hb2)
       have P2 : Hid (Cells w2 w1.heap.size 2 (pF 0 (.slice none 0 0))) := Lib.hid ((Cells.new (W := w1) (cs := #[.int .i64 0, .slice none 0 0]) (t := 28) (g := w1.heap.size) (n := 2) rfl rfl).call hb2)
       have c0 := P2.out.cell (show 0 < 2 by omega)
       have f0 := P2.out.frozen (show 0 < 2 by omega)
       have Y2 : w1.heap.size < w2.heap.size := P2.out.lt
       obtain ⟨W3, hW3⟩ : ∃ W, w2.setCell ⟨w1.heap.size, 0, none⟩ (.int .i64 (ppD s)) = W := ⟨_, rfl⟩
       have B3 : Hid (Below w.heap.size w W3) := Lib.hid (hW3 ▸ B2.out.setCell (p := ⟨w1.heap.size, 0, none⟩) (by show w.heap.size ≤ w1.heap.size; have := HZ1.out; omega) _)
       have E3 : Hid (Cells W3 w.heap.size 2 (pF 0 (.slice none 0 0))) := Lib.hid (hW3 ▸ E2.out.far (p := ⟨w1.heap.size, 0, none⟩) (by show w1.heap.size ≠ w.heap.size; have := HZ1.out; omega) _)
       have P3 : Hid (Cells W3 w1.heap.size 2 (pF (ppD s) (.slice none 0 0))) := Lib.hid (hW3 ▸ (P2.out.set_ (show 0 < 2 by omega) _).congr (fun j hj => by
         have : j = 0 ∨ j = 1 := by omega
         rcases this with rfl | rfl <;> rfl))
       have Y3 : w1.heap.size < W3.heap.size := P3.out.lt
       clear hb2)
    | (go_at_call 37; refine (splitC_any (ppT s) (by have := HTR.out; omega) _ (HL.out.below B3.out hl)).mono ?_; rw [HN.out]; rintro e w4 ⟨rfl, hC4, hb4⟩
       have B4 := Lib.hid (bel_call B3.out hb4)
       have E4 := Lib.hid (E3.out.call hb4)
       have P4 := Lib.hid (P3.out.call hb4)
       have U4 := Lib.hid hC4
       clear hC4 hb4))
  obtain ⟨U, hU⟩ : ∃ U, w1.heap.size = U := ⟨_, rfl⟩
  obtain ⟨V, hV⟩ : ∃ V, W3.heap.size = V := ⟨_, rfl⟩
  have hUV : w.heap.size < U ∧ U < V := by have := HZ1.out; omega
  have hV4 : V < w4.heap.size := by have := U4.out.lt; omega
  rw [hU] at P4 ⊢
  rw [hV] at U4 ⊢
  obtain ⟨hU1, hU2⟩ := hUV
  clear hU hV hW3 c0 f0 Y2 Y3
  go_loopw [27] (fun i wr => ∃ (k : Nat) (v : Value), k ≤ n ∧ i = .int .i64 (k : Int) ∧ RowP wr (V + 1) v ((ppK s).take k) ∧ Cells wr V n (strF (spA 44 (ppT s))) ∧ Cells wr w.heap.size 2 (pF 0 (.slice none 0 0)) ∧ Cells wr U 2 (pF (ppD s) v) ∧ V + 1 ≤ wr.heap.size ∧ Below w.heap.size w wr) (fun i _ => n - (intOf i).toNat)
  case atStart => exact ⟨0, .slice none 0 0, by omega, rfl, rowP_nil _ _, U4.out, E4.out, P4.out, by omega, B4.out⟩
  case round =>
    clear U4 E4 P4 B4 B3 E3 P3 B2 E2 P2 B1 E1
    obtain ⟨k, v, hk, rfl, hR, hUU, hQ, hT, hz, hB⟩ := hrel
    have HR := Lib.hid hR
    have HUU := Lib.hid hUU
    have HQ := Lib.hid hQ
    have HT := Lib.hid hT
    have HB := Lib.hid hB
    clear hR hUU hQ hT hB
    by_cases hlt : k < n
    · obtain ⟨hkd, hts⟩ := HPK.out k hlt
      have o1 : wr.cell? ⟨V, k, none⟩ = some (.string ((spA 44 (ppT s)).getD k ByteArray.empty)) := HUU.out.cell hlt
      have HX : Hid ((ppK s).take (k + 1) = (ppK s).take k ++ [dgA ((spA 44 (ppT s)).getD k ByteArray.empty)]) := Lib.hid (by
        rw [← hkd, List.take_succ_eq_append_getElem (by rw [HKL.out]; exact hlt)]
        simp [List.getD, List.getElem?_eq_getElem (show k < (ppK s).length by rw [HKL.out]; exact hlt)])
      have hkl : ((ppK s).take k).length = k := by rw [List.length_take, HKL.out]; omega
      obtain ⟨K0, hK0⟩ : ∃ K0, (ppK s).take k = K0 := ⟨_, rfl⟩
      rw [hK0] at HR HX hkl
      generalize (spA 44 (ppT s)).getD k ByteArray.empty = t at hts o1 HX
      clear hkd hK0
      obtain ⟨G, vs, hv1, hv2, hv3, hv4⟩ := HR.out.own
      have HV1' := Lib.hid hv1
      have HV2' := Lib.hid hv2
      have HV3' := Lib.hid hv3
      have HV4' := Lib.hid hv4
      clear hv1 hv2 hv3 hv4
      rw [hkl] at HV2'
      have m1 : wr.cell? ⟨U, 1, none⟩ = some v := HT.out.cell (show 1 < 2 by omega)
      go_wp2_with fail
      go_region_law (first
        | (go_simp; go_at_call 38; refine (digitsOfA_any t _ hts).mono ?_; rintro e w2 ⟨g2, c2, rfl, hg2, hC2, hb2⟩
           have HB2 := Lib.hid (below_undrew hb2)
           have HC2 := Lib.hid hC2
           have HG2 := Lib.hid hg2
           have HT2 := Lib.hid (HT.out.call HB2.out)
           have m3 : w2.cell? ⟨U, 1, none⟩ = some v := HT2.out.cell (show 1 < 2 by omega)
           have m4 : (w2.alloc (.cells #[.slice (some ⟨g2, 0, none⟩) t.size c2] 58)).cell? ⟨U, 1, none⟩ = some v := (HT2.out.alloc _).cell (show 1 < 2 by omega)
           have HO2 := Lib.hid ((rowv_kept HV2'.out HB2.out).alloc (.cells #[.slice (some ⟨g2, 0, none⟩) t.size c2] 58))
           have HZ2 := Lib.hid (Nat.le_trans hz HB2.out.size)
           clear hb2 hC2 hg2)
        | (refine step_append_at rfl (.tmp 32) (.tmp 35) 22 rfl (V + 1) 58 i0 (.slice none 0 0) 1 24 Tryd.underlying22 hi hy0 hy1 hy2 rfl (by decide) v k vs rfl HO2.out ⟨w2.heap.size, 0, none⟩ 1 1 [.slice (some ⟨g2, 0, none⟩) t.size c2] rfl rfl (newv_one rfl) (by simp [Value.oneCell']) (by unfold maxLen; omega) (by omega) (by have := HZ2.out; simp; omega) ?_; intro v' w4 hown' hgrow hblk
           have HR4 := Lib.hid (RowP.snoc (g := g2) HV1'.out HV3'.out HV4'.out HV2'.out.lt HB2.out hz (.inr ⟨rfl, HG2.out, HC2.out⟩) (dgA_length t) (by rw [hkl]; exact hown') hgrow hblk)
           have hlt2 := HO2.out.lt
           have HT4 := Lib.hid ((HT2.out.alloc (.cells #[.slice (some ⟨g2, 0, none⟩) t.size c2] 58)).keptV hgrow (fun e => by have := (hlt2 _ e).1; omega))
           have HU4 := Lib.hid (((HUU.out.call HB2.out).alloc (.cells #[.slice (some ⟨g2, 0, none⟩) t.size c2] 58)).keptV hgrow (fun e => by have := (hlt2 _ e).1; omega))
           have HQ4 := Lib.hid (((HQ.out.call HB2.out).alloc (.cells #[.slice (some ⟨g2, 0, none⟩) t.size c2] 58)).keptV hgrow (fun e => by have := (hlt2 _ e).1; omega))
           have HB4 := Lib.hid (((bel_call HB.out HB2.out).alloc (bel_call HB.out HB2.out).size _).grown hgrow (by have := HZ2.out; simp; omega) (fun j hj => by have := (hlt2 j hj).1; omega))
           have HZ4 := Lib.hid (show V + 1 ≤ w4.heap.size by have h1 := HZ2.out; have h2 := hgrow.size; simp at h2; omega)
           obtain ⟨g', cap', rfl⟩ := rowv_succ hown'
           have c2' : w4.cell? ⟨U, 1, none⟩ = some v := HT4.out.cell (show 1 < 2 by omega)
           have c3 := HT4.out.frozen (show 1 < 2 by omega)
           clear hown' hgrow hblk hlt2))
      all_goals
        have HRN := Lib.hid (HR4.out.under (p := ⟨U, 1, none⟩) (by show U < V + 1; omega) (.slice (some ⟨g', 0, none⟩) (k + 1) cap'))
        have HUN := Lib.hid (HU4.out.far (p := ⟨U, 1, none⟩) (by show U ≠ V; omega) (.slice (some ⟨g', 0, none⟩) (k + 1) cap'))
        have HQN := Lib.hid (HQ4.out.far (p := ⟨U, 1, none⟩) (by show U ≠ w.heap.size; omega) (.slice (some ⟨g', 0, none⟩) (k + 1) cap'))
        have HTN := Lib.hid ((HT4.out.set_ (show 1 < 2 by omega) (.slice (some ⟨g', 0, none⟩) (k + 1) cap')).congr (f' := pF (ppD s) (.slice (some ⟨g', 0, none⟩) (k + 1) cap')) (fun j hj => by
          have : j = 0 ∨ j = 1 := by omega
          rcases this with rfl | rfl <;> rfl))
        go_wp2_with fail
        go_roundw
        case rel => exact ⟨k + 1, _, by omega, by go_num, by rw [HX.out]; exact HRN.out, HUN.out, HQN.out, HTN.out, by rw [size_setCell]; exact HZ4.out, HB4.out.setCell (by show w.heap.size ≤ U; omega) _⟩
        case measure => simp [intOf]; omega
    · obtain rfl : k = n := by omega
      rw [List.take_of_length_le (by rw [HKL.out]; exact Nat.le_refl _)] at HR
      obtain ⟨A', c', hv⟩ := HR.out.slice
      rw [HKL.out] at hv
      subst hv
      have HKA := Lib.hid (HR.out.knobs (fun i hi => by have h1 := lensAt_one (ks := ppK s) (n := k) (by rw [← HKL.out]; exact hi); have := HM.out; unfold maxLen; omega))
      have HKC : Hid (∀ W, Below wr.heap.size wr W → pinsB (ppD s) (ppK s) = true → KnobsC W A' k (ppK s)) := Lib.hid (fun W hb hp => (HR.out.call hb).knobsC HKL.out (fun i hi => ((pinsB_yes hp).2.2.2.2 i (by rw [HKL.out]; exact hi)).1))
      have t0 : wr.cell? ⟨U, 0, none⟩ = some (.int .i64 (ppD s)) := HT.out.cell (show 0 < 2 by omega)
      have t1 : wr.cell? ⟨U, 1, none⟩ = some (.slice A' k c') := HT.out.cell (show 1 < 2 by omega)
      have HPT : Hid (Calls Tryd.prog 10 #[.agg #[.int .i64 (ppD s), .slice A' k c']] wr fun e w' => e = .returned (.tuple #[.string (pxB (ppD s) (ppK s)), .bool (pinsB (ppD s) (ppK s))]) ∧ Below wr.heap.size wr w') := Lib.hid (pinsTextK_any (ppD s) A' k c' (ppK s) wr HM.out HKA.out (HKC.out wr (Below.refl _ _)))
      have HPB : Hid (ppB s = (pinsB (ppD s) (ppK s) && decide (pxB (ppD s) (ppK s) = s))) := Lib.hid (by
        unfold ppB pxB
        cases h : pinsB (ppD s) (ppK s) with
        | false => rfl
        | true => rw [if_pos rfl])
      obtain ⟨x, hx⟩ : ∃ x, pinsB (ppD s) (ppK s) = x := ⟨_, rfl⟩
      obtain ⟨u, hu⟩ : ∃ u, pxB (ppD s) (ppK s) = u := ⟨_, rfl⟩
      rw [hx, hu] at HPT HPB
      clear hx hu
      by_cases hok : x = true ∧ u = s
      · obtain ⟨rfl, rfl⟩ := hok
        have HD : Hid (ppB u = true) := Lib.hid (by rw [HPB.out]; simp)
        have HE : Hid (ppDz u = ppD u ∧ ppKz u = ppK u) := Lib.hid (by unfold ppDz ppKz; rw [HD.out]; exact ⟨rfl, rfl⟩)
        have hsame : (u.toList == u.toList) = true := beq_self_eq_true _
        go_wp2_with (go_at_call 10; refine HPT.out.mono ?_; rintro e w5 ⟨rfl, hb5⟩
                     have HQ5 := Lib.hid (HQ.out.call hb5)
                     have HT5 := Lib.hid (HT.out.call hb5)
                     have HR5 := Lib.hid (HR.out.call hb5)
                     have HB5 := Lib.hid (bel_call HB.out hb5)
                     have q0 := HQ5.out.cell (show 0 < 2 by omega)
                     have q1 := HQ5.out.cell (show 1 < 2 by omega)
                     have f0 := HQ5.out.frozen (show 0 < 2 by omega)
                     have f1 := HQ5.out.frozen (show 1 < 2 by omega)
                     clear hb5 t0 t1
                     have t0 : w5.cell? ⟨U, 0, none⟩ = some (.int .i64 (ppD u)) := HT5.out.cell (show 0 < 2 by omega)
                     have t1 : w5.cell? ⟨U, 1, none⟩ = some (.slice A' k c') := HT5.out.cell (show 1 < 2 by omega))
        refine bodyPost_ret (v := .tuple #[.agg #[.int .i64 (ppD u), .slice A' k c'], .bool true]) (by simp [results, Tryd.results13, go_sem, q0, q1]) rfl ⟨_, by rw [HE.out.1, HD.out], ?_, ?_⟩
        · rw [HE.out.2]
          exact ((HR5.out.under (p := ⟨w.heap.size, 0, none⟩) (by show w.heap.size < V + 1; omega) _).under (p := ⟨w.heap.size, 1, none⟩) (by show w.heap.size < V + 1; omega) _).weak (by omega)
        · exact (HB5.out.setCell (p := ⟨w.heap.size, 0, none⟩) (Nat.le_refl _) _).setCell (p := ⟨w.heap.size, 1, none⟩) (Nat.le_refl _) _
      · have HD : Hid (ppB s = false) := Lib.hid (by
          rw [HPB.out]
          cases x with
          | false => rfl
          | true => exact decide_eq_false (fun h => hok ⟨rfl, h⟩))
        have HE : Hid (ppDz s = 0 ∧ ppKz s = []) := Lib.hid (by unfold ppDz ppKz; rw [HD.out]; exact ⟨rfl, rfl⟩)
        have hfin : ∀ W, Below w.heap.size w W → PinsOut w (ppDz s) (ppKz s) (ppB s) (.returned (.tuple #[.agg #[.int .i64 0, .slice none 0 0], .bool false])) W := fun W hb => by
          rw [HE.out.1, HE.out.2, HD.out]
          exact pinsOut_no rfl hb
        have HFIN := Lib.hid hfin
        clear hfin
        rcases x with _ | _
        · clear hok
          go_wp2_with (go_at_call 10; refine HPT.out.mono ?_; rintro e w5 ⟨rfl, hb5⟩
                       have HQ5 := Lib.hid (HQ.out.call hb5)
                       have HB5 := Lib.hid (bel_call HB.out hb5)
                       have q0 := HQ5.out.cell (show 0 < 2 by omega)
                       have q1 := HQ5.out.cell (show 1 < 2 by omega)
                       have f0 := HQ5.out.frozen (show 0 < 2 by omega)
                       have f1 := HQ5.out.frozen (show 1 < 2 by omega)
                       clear hb5)
          refine bodyPost_ret (v := .tuple #[.agg #[.int .i64 0, .slice none 0 0], .bool false]) (by simp [results, Tryd.results13, go_sem, q0, q1]) rfl (HFIN.out _ ?_)
          exact (HB5.out.setCell (p := ⟨w.heap.size, 0, none⟩) (Nat.le_refl _) _).setCell (p := ⟨w.heap.size, 1, none⟩) (Nat.le_refl _) _
        · have hne : u ≠ s := fun h => hok ⟨rfl, h⟩
          have hsame : (u.toList == s.toList) = false := bytes_neP hne
          clear hok hne
          go_wp2_with (go_at_call 10; refine HPT.out.mono ?_; rintro e w5 ⟨rfl, hb5⟩
                       have HQ5 := Lib.hid (HQ.out.call hb5)
                       have HB5 := Lib.hid (bel_call HB.out hb5)
                       have q0 := HQ5.out.cell (show 0 < 2 by omega)
                       have q1 := HQ5.out.cell (show 1 < 2 by omega)
                       have f0 := HQ5.out.frozen (show 0 < 2 by omega)
                       have f1 := HQ5.out.frozen (show 1 < 2 by omega)
                       clear hb5)
          refine bodyPost_ret (v := .tuple #[.agg #[.int .i64 0, .slice none 0 0], .bool false]) (by simp [results, Tryd.results13, go_sem, q0, q1]) rfl (HFIN.out _ ?_)
          exact (HB5.out.setCell (p := ⟨w.heap.size, 0, none⟩) (Nat.le_refl _) _).setCell (p := ⟨w.heap.size, 1, none⟩) (Nat.le_refl _) _

end Go.Proofs.YtgdjbclkdnmebaaDoor
