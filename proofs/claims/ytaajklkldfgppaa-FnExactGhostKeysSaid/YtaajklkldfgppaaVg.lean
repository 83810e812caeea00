/- The pins that all keys open, as the program makes them. For at most 9 depths and 7 places. -/
import Derived.Test.YtaajklkldfgppaaVf
namespace Go.Proofs.Ytaajklkldfgppaa
open Go.ChangeShapes Go.WideShapes Go.ChangeAt Go.RowKit Go.Joins

theorem pinsOut_no {w w' : World} {e : Ending} (he : e = .returned (.tuple #[.agg #[.int .i64 0, .slice none 0 0], .bool false])) (hb : Below w.heap.size w w') : PinsOut w 0 [] false e w' :=
  ⟨_, he, rowP_nil _ _, hb⟩

theorem rowv_succ {w : World} {base : Nat} {e : TypeId} {size n : Nat} {v : Value} {xs : List Value} (h : w.ownsRow base e size v (n + 1) xs) : ∃ g c, v = .slice (some ⟨g, 0, none⟩) (n + 1) c := by
  obtain ⟨g, c, e, _⟩ := h.form (by omega)
  exact ⟨g, c, e⟩

theorem listOut_at {w' : World} {B n : Nat} {A : Option Addr} {xs : List Int} (h : n = 0 ∨ ∃ g, A = some ⟨g, 0, none⟩ ∧ B ≤ g ∧ Cells w' g n (digF xs)) : ∃ g, n = 0 ∨ (A = some ⟨g, 0, none⟩ ∧ B ≤ g ∧ Cells w' g n (digF xs)) := by
  rcases h with h | ⟨g, h⟩
  · exact ⟨0, .inl h⟩
  · exact ⟨g, .inr h⟩

set_option maxRecDepth 100000 in
set_option maxHeartbeats 4000000 in
theorem wholePins_any (d m : Int) (w : World) :
    Calls Try.prog 50 #[.int .i64 d, .int .i64 m] w (PinsOut w (wpD d m) (wpK d m) (wpB d m)) := by
  obtain ⟨i0, hi, hy0, hy1, hy2⟩ := info_parts info_lists
  obtain ⟨v1, HV1⟩ : ∃ v, Hid (inB d 1 9 = v) := ⟨_, Lib.hid rfl⟩
  obtain ⟨v2, HV2⟩ : ∃ v, Hid (inB m 1 7 = v) := ⟨_, Lib.hid rfl⟩
  have HB0 := Lib.hid (show Below w.heap.size w (w.alloc (.cells #[.int .i64 0, .slice none 0 0] 26)) from (Below.refl _ _).alloc (Nat.le_refl _) _)
  have CQ0 := Lib.hid (Cells.new (W := w) (cs := #[.int .i64 0, .slice none 0 0]) (t := 26) (g := w.heap.size) (n := 2) rfl rfl)
  by_cases hv : v1 = true ∧ v2 = true
  · obtain ⟨rfl, rfl⟩ := hv
    have HP : Hid (wpB d m = true) := Lib.hid (by unfold wpB; rw [HV1.out, HV2.out]; rfl)
    have h1 := of_decide_eq_true HV1.out
    have h2 := of_decide_eq_true HV2.out
    have HD : Hid (wpD d m = d) := Lib.hid (by unfold wpD; rw [HP.out, if_pos rfl])
    have HK : Hid (wpK d m = wholeL d.toNat m.toNat) := Lib.hid (by unfold wpK; rw [HP.out, if_pos rfl])
    rw [HD.out, HK.out, HP.out]
    obtain ⟨dn, rfl⟩ : ∃ dn : Nat, d = dn := ⟨d.toNat, by omega⟩
    obtain ⟨n, rfl⟩ : ∃ n : Nat, m = n := ⟨m.toNat, by omega⟩
    rw [Int.toNat_natCast, Int.toNat_natCast]
    go_enter Try.func50, Try.ntmps50
    go_wp2_with (first | (go_at_call 70; refine (areDepths_any _ _).mono ?_; rw [HV1.out]; rintro e wq ⟨rfl, hwq⟩; replace hwq := hwq.symm; subst hwq) | (go_at_call 71; refine (arePlaces_any _ _).mono ?_; rw [HV2.out]; rintro e wq ⟨rfl, hwq⟩; replace hwq := hwq.symm; subst hwq))
    have CQ := Lib.hid (CQ0.out.alloc (.cells #[.int .i64 (dn : Int), .slice none 0 0] 26))
    have CT := Lib.hid (Cells.new (W := w.alloc (.cells #[.int .i64 0, .slice none 0 0] 26)) (cs := #[.int .i64 (dn : Int), .slice none 0 0]) (t := 26) (g := w.heap.size + 1) (n := 2) (by simp) rfl)
    have HB1 := Lib.hid (show Below w.heap.size w ((w.alloc (.cells #[.int .i64 0, .slice none 0 0] 26)).alloc (.cells #[.int .i64 (dn : Int), .slice none 0 0] 26)) from by (repeat (first | assumption | exact Below.refl _ _ | (refine Below.alloc ?_ (by first | omega | (simp; done) | (simp; omega)) _) | (refine Below.setCell ?_ (by first | omega | (simp; done) | (simp; omega)) _) | refine bel_drewN ?_ _ | refine bel_drew ?_ | (refine bel_call ?_ (by assumption)))))
    have hz0 : w.heap.size + 2 ≤ ((w.alloc (.cells #[.int .i64 0, .slice none 0 0] 26)).alloc (.cells #[.int .i64 (dn : Int), .slice none 0 0] 26)).heap.size := by simp
    go_loopw [19] (fun i wr => ∃ (k : Nat) (v : Value), k ≤ n ∧ i = .int .i64 k ∧ RowP wr (w.heap.size + 2) v (rwL (fun _ => upL dn) k) ∧ Cells wr w.heap.size 2 (pF 0 (.slice none 0 0)) ∧ Cells wr (w.heap.size + 1) 2 (pF (dn : Int) v) ∧ w.heap.size + 2 ≤ wr.heap.size ∧ Below w.heap.size w wr) (fun i _ => n - (intOf i).toNat)
    case atStart => exact ⟨0, .slice none 0 0, by omega, rfl, rowP_nil _ _, CQ.out, CT.out, hz0, HB1.out⟩
    case round =>
      clear CQ CT HB1 hz0 CQ0 HB0
      obtain ⟨k, v, hk, rfl, hR, hQ, hT, hz, hB⟩ := hrel
      have HR := Lib.hid hR
      have HQ := Lib.hid hQ
      have HT := Lib.hid hT
      have HB := Lib.hid hB
      clear hR hQ hT hB
      by_cases hlt : k < n
      · have HX : Hid (rwL (fun _ => upL dn) (k + 1) = rwL (fun _ => upL dn) k ++ [upL dn]) := Lib.hid rfl
        have hkl : (rwL (fun _ => upL dn) k).length = k := rwL_length _ _
        obtain ⟨K0, hK0⟩ : ∃ K0, rwL (fun _ => upL dn) k = K0 := ⟨_, rfl⟩
        rw [hK0] at HR HX hkl
        obtain ⟨G, vs, hv1, hv2, hv3, hv4⟩ := HR.out.own
        have HV1' := Lib.hid hv1
        have HV2' := Lib.hid hv2
        have HV3' := Lib.hid hv3
        have HV4' := Lib.hid hv4
        clear hv1 hv2 hv3 hv4
        rw [hkl] at HV2'
        have m1 : wr.cell? ⟨w.heap.size + 1, 1, none⟩ = some v := HT.out.cell (show 1 < 2 by omega)
        have HUL := Lib.hid (upL_length dn)
        obtain ⟨xs, hxs⟩ : ∃ xs, upL dn = xs := ⟨_, rfl⟩
        have HXS := Lib.hid hxs
        rw [hxs] at HX HUL
        clear hxs hK0
        go_wp2_with fail
        go_region_law (first
          | (go_simp; go_at_call 58; refine (depthsBelow_any dn _ (by omega)).mono ?_; rw [HXS.out]; rintro e w2 ⟨A2, c2, rfl, hC2, hb2⟩
             rw [HUL.out] at hC2
             rw [HUL.out]
             have HB2 := Lib.hid (below_undrew hb2)
             obtain ⟨g2, hC2⟩ := listOut_at hC2
             have HC2 := Lib.hid hC2
             have HT2 := Lib.hid (HT.out.call HB2.out)
             have m3 : w2.cell? ⟨w.heap.size + 1, 1, none⟩ = some v := HT2.out.cell (show 1 < 2 by omega)
             have m4 : (w2.alloc (.cells #[.slice A2 dn c2] 49)).cell? ⟨w.heap.size + 1, 1, none⟩ = some v := (HT2.out.alloc _).cell (show 1 < 2 by omega)
             have HO2 := Lib.hid ((rowv_kept HV2'.out HB2.out).alloc (.cells #[.slice A2 dn c2] 49))
             have HZ2 := Lib.hid (Nat.le_trans hz HB2.out.size)
             clear hb2 hC2)
          | (refine step_append_at rfl (.tmp 22) (.tmp 25) 22 rfl (w.heap.size + 2) 49 i0 (.slice none 0 0) 1 24 Try.underlying22 hi hy0 hy1 hy2 rfl (by decide) v k vs rfl HO2.out ⟨w2.heap.size, 0, none⟩ 1 1 [.slice A2 dn c2] rfl rfl (newv_one rfl) (by simp [Value.oneCell']) (by unfold maxLen; omega) (by omega) (by have := HZ2.out; simp; omega) ?_; intro v' w4 hown' hgrow hblk
             have HR4 := Lib.hid (RowP.snoc (g := g2) HV1'.out HV3'.out HV4'.out HV2'.out.lt HB2.out hz HC2.out HUL.out (by rw [hkl]; exact hown') hgrow hblk)
             have hlt2 := HO2.out.lt
             have HT4 := Lib.hid ((HT2.out.alloc (.cells #[.slice A2 dn c2] 49)).keptV hgrow (fun e => by have := (hlt2 _ e).1; omega))
             have HQ4 := Lib.hid (((HQ.out.call HB2.out).alloc (.cells #[.slice A2 dn c2] 49)).keptV hgrow (fun e => by have := (hlt2 _ e).1; omega))
             have HB4 := Lib.hid (((bel_call HB.out HB2.out).alloc (bel_call HB.out HB2.out).size _).grown hgrow (by have := HZ2.out; simp; omega) (fun j hj => by have := (hlt2 j hj).1; omega))
             have HZ4 := Lib.hid (show w.heap.size + 2 ≤ w4.heap.size by have h1 := HZ2.out; have h2 := hgrow.size; simp at h2; omega)
             obtain ⟨g', cap', rfl⟩ := rowv_succ hown'
             have c2' : w4.cell? ⟨w.heap.size + 1, 1, none⟩ = some v := HT4.out.cell (show 1 < 2 by omega)
             have c3 := HT4.out.frozen (show 1 < 2 by omega)
             clear hown' hgrow hblk hlt2))
        all_goals
          have HRN := Lib.hid (HR4.out.under (p := ⟨w.heap.size + 1, 1, none⟩) (by show w.heap.size + 1 < w.heap.size + 2; omega) (.slice (some ⟨g', 0, none⟩) (k + 1) cap'))
          have HQN := Lib.hid (HQ4.out.far (p := ⟨w.heap.size + 1, 1, none⟩) (by show w.heap.size + 1 ≠ w.heap.size; omega) (.slice (some ⟨g', 0, none⟩) (k + 1) cap'))
          have HTN := Lib.hid ((HT4.out.set_ (show 1 < 2 by omega) (.slice (some ⟨g', 0, none⟩) (k + 1) cap')).congr (f' := pF (dn : Int) (.slice (some ⟨g', 0, none⟩) (k + 1) cap')) (fun j hj => by
            have : j = 0 ∨ j = 1 := by omega
            rcases this with rfl | rfl <;> rfl))
          go_wp2_with fail
          go_roundw
          case rel => exact ⟨k + 1, _, by omega, by go_num, by rw [HXS.out, HX.out]; exact HRN.out, HQN.out, HTN.out, by rw [size_setCell]; exact HZ4.out, HB4.out.setCell (by show w.heap.size ≤ w.heap.size + 1; omega) _⟩
          case measure => simp [intOf]; omega
      · obtain rfl : k = n := by omega
        obtain ⟨A', c', rfl⟩ := HR.out.slice
        rw [rwL_length] at HR HT
        have t0 : wr.cell? ⟨w.heap.size + 1, 0, none⟩ = some (.int .i64 (dn : Int)) := HT.out.cell (show 0 < 2 by omega)
        have t1 : wr.cell? ⟨w.heap.size + 1, 1, none⟩ = some (.slice A' k c') := HT.out.cell (show 1 < 2 by omega)
        have q0 : wr.cell? ⟨w.heap.size, 0, none⟩ = some (.int .i64 0) := HQ.out.cell (show 0 < 2 by omega)
        have q1 : wr.cell? ⟨w.heap.size, 1, none⟩ = some (.slice none 0 0) := HQ.out.cell (show 1 < 2 by omega)
        have f0 := HQ.out.frozen (show 0 < 2 by omega)
        have f1 := HQ.out.frozen (show 1 < 2 by omega)
        go_wp2_with fail
        refine bodyPost_ret (v := .tuple #[.agg #[.int .i64 (dn : Int), .slice A' k c'], .bool true]) (by simp [results, Try.results50, go_sem, q0, q1]) rfl ⟨_, rfl, ?_, ?_⟩
        · exact ((HR.out.under (by show w.heap.size < w.heap.size + 2; omega) _).under (by show w.heap.size < w.heap.size + 2; omega) _).weak (by omega)
        · have h := HB.out
          (repeat (first | assumption | exact Below.refl _ _ | (refine Below.alloc ?_ (by first | omega | (simp; done) | (simp; omega)) _) | (refine Below.setCell ?_ (by first | omega | (simp; done) | (simp; omega)) _) | refine bel_drewN ?_ _ | refine bel_drew ?_ | (refine bel_call ?_ (by assumption))))
  · have HP : Hid (wpB d m = false) := Lib.hid (by
      unfold wpB
      rw [HV1.out, HV2.out]
      rcases v1 with _ | _
      · rfl
      · rcases v2 with _ | _
        · rfl
        · exact absurd ⟨rfl, rfl⟩ hv)
    have HD : Hid (wpD d m = 0) := Lib.hid (by unfold wpD; rw [HP.out]; rfl)
    have HK : Hid (wpK d m = []) := Lib.hid (by unfold wpK; rw [HP.out]; rfl)
    rw [HD.out, HK.out, HP.out]
    rcases v1 with _ | _
    · go_enter Try.func50, Try.ntmps50
      go_wp2_with (first | (go_at_call 70; refine (areDepths_any _ _).mono ?_; rw [HV1.out]; rintro e wq ⟨rfl, hwq⟩; replace hwq := hwq.symm; subst hwq))
      refine bodyPost_ret (v := .tuple #[.agg #[.int .i64 0, .slice none 0 0], .bool false]) (by simp [results, Try.results50, go_sem]) rfl (pinsOut_no rfl ?_)
      (repeat (first | assumption | exact Below.refl _ _ | (refine Below.alloc ?_ (by first | omega | (simp; done) | (simp; omega)) _) | (refine Below.setCell ?_ (by first | omega | (simp; done) | (simp; omega)) _) | refine bel_drewN ?_ _ | refine bel_drew ?_ | (refine bel_call ?_ (by assumption))))
    · rcases v2 with _ | _
      · go_enter Try.func50, Try.ntmps50
        go_wp2_with (first | (go_at_call 70; refine (areDepths_any _ _).mono ?_; rw [HV1.out]; rintro e wq ⟨rfl, hwq⟩; replace hwq := hwq.symm; subst hwq) | (go_at_call 71; refine (arePlaces_any _ _).mono ?_; rw [HV2.out]; rintro e wq ⟨rfl, hwq⟩; replace hwq := hwq.symm; subst hwq))
        refine bodyPost_ret (v := .tuple #[.agg #[.int .i64 0, .slice none 0 0], .bool false]) (by simp [results, Try.results50, go_sem]) rfl (pinsOut_no rfl ?_)
        (repeat (first | assumption | exact Below.refl _ _ | (refine Below.alloc ?_ (by first | omega | (simp; done) | (simp; omega)) _) | (refine Below.setCell ?_ (by first | omega | (simp; done) | (simp; omega)) _) | refine bel_drewN ?_ _ | refine bel_drew ?_ | (refine bel_call ?_ (by assumption))))
      · exact absurd ⟨rfl, rfl⟩ hv

end Go.Proofs.Ytaajklkldfgppaa
