/- A copy of pins, as the model makes it; whether there is a place and a depth; the pin with one depth, as the program makes it. For at most 9 depths and 7 places. -/
import Derived.Test.YtbfildegnbbinaaZa
import Derived.Test.YtbfildegnbbinaaOwn
import Derived.Deep.RegionLaw
namespace Go.Proofs.Ytbfildegnbbinaa
open Go.ChangeShapes Go.WideShapes Go.ChangeAt Go.RowKit Go.Joins

theorem take_snocL {ks : List (List Int)} {k : Nat} (h : k < ks.length) : ks.take (k + 1) = ks.take k ++ [ks.getD k []] := by
  rw [List.take_succ_eq_append_getElem h]
  simp [List.getD, List.getElem?_eq_getElem h]

set_option maxRecDepth 100000 in
set_option maxHeartbeats 4000000 in
theorem keOwn_any (d : Int) (A : Option Addr) (n c : Nat) (ks : List (List Int)) (w : World) (hn : n ≤ 7) (hA : KnobsA w A n ks) (h9 : Nine ks) :
    Calls Try.prog 34 #[.agg #[.int .i64 d, .slice A n c]] w (PinsGot w d ks) := by
  obtain ⟨i0, hi, hy0, hy1, hy2⟩ := info_parts info_lists
  have H1 := Lib.hid hA
  have HKL := Lib.hid hA.len
  have N9 := Lib.hid h9
  clear hA h9
  obtain ⟨W4, hW4⟩ : ∃ W4, ((w.alloc (.cells #[.int .i64 d, .slice A n c] 34)).alloc (.cells #[.int .i64 0, .slice none 0 0] 34)).alloc (.cells #[.int .i64 d, .slice none 0 0] 34) = W4 := ⟨_, rfl⟩
  have HB4 := Lib.hid (show Below w.heap.size w W4 from by rw [← hW4]; (repeat (first | assumption | exact Below.refl _ _ | (refine Below.alloc ?_ (by first | omega | (simp; done) | (simp; omega)) _) | (refine Below.setCell ?_ (by first | omega | (simp; done) | (simp; omega)) _) | refine bel_drewN ?_ _ | refine bel_drew ?_ | (refine bel_call ?_ (by assumption)))))
  have CP := Lib.hid (show Cells W4 w.heap.size 2 (pF d (.slice A n c)) from by rw [← hW4]; exact ((Cells.new (n := 2) rfl rfl).alloc _).alloc _)
  have CQ := Lib.hid (show Cells W4 (w.heap.size + 1) 2 (pF 0 (.slice none 0 0)) from by rw [← hW4]; exact (Cells.new (n := 2) (by simp) rfl).alloc _)
  have CT := Lib.hid (show Cells W4 (w.heap.size + 1 + 1) 2 (pF d (.slice none 0 0)) from by rw [← hW4]; exact Cells.new (n := 2) (by simp) rfl)
  have hz0' : w.heap.size + 3 ≤ W4.heap.size := by rw [← hW4]; simp
  have HW := Lib.hid hW4
  clear hW4
  go_enter Try.func34, Try.ntmps34
  go_wp2_with fail
  go_loopw [12] (fun i wr => ∃ (k : Nat) (u : Value), k ≤ n ∧ i = .int .i64 k ∧ RowP wr (w.heap.size + 3) u (ks.take k) ∧ Cells wr w.heap.size 2 (pF d (.slice A n c)) ∧ Cells wr (w.heap.size + 1) 2 (pF 0 (.slice none 0 0)) ∧ Cells wr (w.heap.size + 1 + 1) 2 (pF d u) ∧ w.heap.size + 3 ≤ wr.heap.size ∧ Below w.heap.size w wr) (fun i _ => n - (intOf i).toNat)
  case atStart => rw [HW.out]; exact ⟨0, .slice none 0 0, by omega, rfl, by rw [List.take_zero]; exact rowP_nil _ _, CP.out, CQ.out, CT.out, hz0', HB4.out⟩
  case round =>
    clear HW CP CQ CT HB4 hz0'
    obtain ⟨k, v, hk, rfl, hR, hP, hQ, hT, hz, hB⟩ := hrel
    have HR := Lib.hid hR
    have HP := Lib.hid hP
    have HQ := Lib.hid hQ
    have HT := Lib.hid hT
    have HB := Lib.hid hB
    clear hR hP hQ hT hB
    by_cases hlt : k < n
    · obtain ⟨b1, off1, e1, hb1, hc1⟩ := (H1.out.below HB.out).at_.resolve_left (by omega)
      subst e1
      obtain ⟨Ak1, ck1, o1, _, hI1⟩ := hc1 k hlt
      have HI1 := Lib.hid hI1
      have hl1 := N9.out k
      have HX := Lib.hid (take_snocL (ks := ks) (k := k) (by rw [HKL.out]; exact hlt))
      have hkl : (ks.take k).length = k := by rw [List.length_take, HKL.out]; omega
      clear hc1 hI1
      obtain ⟨xs, hxs⟩ : ∃ xs, ks.getD k [] = xs := ⟨_, rfl⟩
      rw [hxs] at o1 HI1 hl1 HX
      clear hxs
      obtain ⟨m, hm⟩ : ∃ m, xs.length = m := ⟨_, rfl⟩
      have HUL := Lib.hid hm
      rw [hm] at o1 HI1 hl1
      clear hm
      obtain ⟨K0, hK0⟩ : ∃ K0, ks.take k = K0 := ⟨_, rfl⟩
      rw [hK0] at HR HX hkl
      clear hK0
      obtain ⟨G, vs, hv1, hv2, hv3, hv4⟩ := HR.out.own
      have HV1' := Lib.hid hv1
      have HV2' := Lib.hid hv2
      have HV3' := Lib.hid hv3
      have HV4' := Lib.hid hv4
      clear hv1 hv2 hv3 hv4
      rw [hkl] at HV2'
      have m1 : wr.cell? ⟨w.heap.size + 1 + 1, 1, none⟩ = some v := HT.out.cell (show 1 < 2 by omega)
      go_wp2_with fail
      go_region_law (first
        | (go_simp; go_at_call 67; refine (l1Own_any Ak1 m ck1 xs _ (by omega) (HI1.out.below (bel_drew (Below.refl _ _)))).mono ?_; rintro e w2 ⟨g2, c2, rfl, hg2, hC2, hb2⟩
           have HB2 := Lib.hid (below_undrew hb2)
           have HC2 : Hid (m = 0 ∨ ((some (⟨g2, 0, none⟩ : Addr) : Option Addr) = some ⟨g2, 0, none⟩ ∧ wr.heap.size ≤ g2 ∧ Cells w2 g2 m (digF xs))) := Lib.hid (.inr ⟨rfl, hg2, hC2⟩)
           have HT2 := Lib.hid (HT.out.call HB2.out)
           have m3 : w2.cell? ⟨w.heap.size + 1 + 1, 1, none⟩ = some v := HT2.out.cell (show 1 < 2 by omega)
           have m4 : (w2.alloc (.cells #[.slice (some ⟨g2, 0, none⟩) m c2] 54)).cell? ⟨w.heap.size + 1 + 1, 1, none⟩ = some v := (HT2.out.alloc _).cell (show 1 < 2 by omega)
           have HO2 := Lib.hid ((rowv_kept HV2'.out HB2.out).alloc (.cells #[.slice (some ⟨g2, 0, none⟩) m c2] 54))
           have HZ2 := Lib.hid (Nat.le_trans hz HB2.out.size)
           clear hb2 hC2 hg2)
        | (refine step_append_at rfl (.tmp 17) (.tmp 20) 30 rfl (w.heap.size + 3) 54 i0 (.slice none 0 0) 1 24 Try.underlying30 hi hy0 hy1 hy2 rfl (by decide) v k vs rfl HO2.out ⟨w2.heap.size, 0, none⟩ 1 1 [.slice (some ⟨g2, 0, none⟩) m c2] rfl rfl (newv_one rfl) (by simp [Value.oneCell']) (by unfold maxLen; omega) (by omega) (by have := HZ2.out; simp; omega) ?_; intro v' w4 hown' hgrow hblk
           have HR4 := Lib.hid (RowP.snoc (g := g2) HV1'.out HV3'.out HV4'.out HV2'.out.lt HB2.out hz HC2.out HUL.out (by rw [hkl]; exact hown') hgrow hblk)
           have hlt2 := HO2.out.lt
           have HT4 := Lib.hid ((HT2.out.alloc (.cells #[.slice (some ⟨g2, 0, none⟩) m c2] 54)).keptV hgrow (fun e => by have := (hlt2 _ e).1; omega))
           have HQ4 := Lib.hid (((HQ.out.call HB2.out).alloc (.cells #[.slice (some ⟨g2, 0, none⟩) m c2] 54)).keptV hgrow (fun e => by have := (hlt2 _ e).1; omega))
           have HP4 := Lib.hid (((HP.out.call HB2.out).alloc (.cells #[.slice (some ⟨g2, 0, none⟩) m c2] 54)).keptV hgrow (fun e => by have := (hlt2 _ e).1; omega))
           have HB4 := Lib.hid (((bel_call HB.out HB2.out).alloc (bel_call HB.out HB2.out).size _).grown hgrow (by have := HZ2.out; simp; omega) (fun j hj => by have := (hlt2 j hj).1; omega))
           have HZ4 := Lib.hid (show w.heap.size + 3 ≤ w4.heap.size by have h1 := HZ2.out; have h2 := hgrow.size; simp at h2; omega)
           obtain ⟨g', cap', rfl⟩ := rowv_succ hown'
           have c2' : w4.cell? ⟨w.heap.size + 1 + 1, 1, none⟩ = some v := HT4.out.cell (show 1 < 2 by omega)
           have c3 := HT4.out.frozen (show 1 < 2 by omega)
           clear hown' hgrow hblk hlt2))
      all_goals
        have HRN := Lib.hid (HR4.out.under (p := ⟨w.heap.size + 1 + 1, 1, none⟩) (by show w.heap.size + 1 + 1 < w.heap.size + 3; omega) (.slice (some ⟨g', 0, none⟩) (k + 1) cap'))
        have HQN := Lib.hid (HQ4.out.far (p := ⟨w.heap.size + 1 + 1, 1, none⟩) (by show w.heap.size + 1 + 1 ≠ w.heap.size + 1; omega) (.slice (some ⟨g', 0, none⟩) (k + 1) cap'))
        have HPN := Lib.hid (HP4.out.far (p := ⟨w.heap.size + 1 + 1, 1, none⟩) (by show w.heap.size + 1 + 1 ≠ w.heap.size; omega) (.slice (some ⟨g', 0, none⟩) (k + 1) cap'))
        have HTN := Lib.hid ((HT4.out.set_ (show 1 < 2 by omega) (.slice (some ⟨g', 0, none⟩) (k + 1) cap')).congr (f' := pF d (.slice (some ⟨g', 0, none⟩) (k + 1) cap')) (fun j hj => by
          have : j = 0 ∨ j = 1 := by omega
          rcases this with rfl | rfl <;> rfl))
        go_wp2_with fail
        go_roundw
        case rel => exact ⟨k + 1, _, by omega, by go_num, by rw [HX.out]; exact HRN.out, HPN.out, HQN.out, HTN.out, by rw [size_setCell]; exact HZ4.out, HB4.out.setCell (by show w.heap.size ≤ w.heap.size + 1 + 1; omega) _⟩
        case measure => simp [intOf]; omega
    · obtain rfl : k = n := by omega
      obtain ⟨A', c', rfl⟩ := HR.out.slice
      have hkl : (ks.take k).length = k := by rw [List.length_take, HKL.out]; omega
      rw [hkl] at HR HT
      rw [List.take_of_length_le (by rw [HKL.out]; exact Nat.le_refl _)] at HR
      have t0 : wr.cell? ⟨w.heap.size + 1 + 1, 0, none⟩ = some (.int .i64 d) := HT.out.cell (show 0 < 2 by omega)
      have t1 : wr.cell? ⟨w.heap.size + 1 + 1, 1, none⟩ = some (.slice A' k c') := HT.out.cell (show 1 < 2 by omega)
      have q0 : wr.cell? ⟨w.heap.size + 1, 0, none⟩ = some (.int .i64 0) := HQ.out.cell (show 0 < 2 by omega)
      have q1 : wr.cell? ⟨w.heap.size + 1, 1, none⟩ = some (.slice none 0 0) := HQ.out.cell (show 1 < 2 by omega)
      have f0 := HQ.out.frozen (show 0 < 2 by omega)
      have f1 := HQ.out.frozen (show 1 < 2 by omega)
      go_wp2_with fail
      refine bodyPost_ret (v := .agg #[.int .i64 d, .slice A' k c']) (by simp [results, Try.results34, go_sem, q0, q1]) rfl ⟨_, rfl, ?_, ?_⟩
      · exact ((HR.out.under (by show w.heap.size + 1 < w.heap.size + 3; omega) _).under (by show w.heap.size + 1 < w.heap.size + 3; omega) _).weak (by omega)
      · have h := HB.out
        iterate 2 (refine Below.setCell ?_ (by show w.heap.size ≤ w.heap.size + 1; omega) _)
        exact h

/-- Whether there are pins, a place and a depth. -/
def pnB (d : Int) (ks : List (List Int)) (p q : Int) : Bool := pinsB d ks && inB p 0 ((ks.length : Int) - 1) && inB q 0 (d - 1)
def pnD (d : Int) (ks : List (List Int)) (p q : Int) : Int := if pnB d ks p q then d else 0
def pnK (d : Int) (ks : List (List Int)) (p q : Int) : List (List Int) := if pnB d ks p q then onL p.toNat q.toNat ks.length else []

theorem pn_no {d p q : Int} {ks : List (List Int)} (h : pinsB d ks = false ∨ inB p 0 ((ks.length : Int) - 1) = false ∨ inB q 0 (d - 1) = false) : pnB d ks p q = false := by
  unfold pnB
  rcases h with h | h | h <;> rw [h] <;> simp

theorem pn_yes {d p q : Int} {ks : List (List Int)} (h : pnB d ks p q = true) : pinsB d ks = true ∧ (0 ≤ p ∧ p ≤ (ks.length : Int) - 1) ∧ 0 ≤ q ∧ q ≤ d - 1 := by
  unfold pnB at h
  simp only [Bool.and_eq_true] at h
  exact ⟨h.1.1, of_decide_eq_true h.1.2, of_decide_eq_true h.2⟩

set_option maxHeartbeats 2000000 in
theorem kePlace_any (d : Int) (A : Option Addr) (n c : Nat) (ks : List (List Int)) (p q : Int) (w : World) (hm : n + lensAt ks n ≤ 1048576) (hA : KnobsA w A n ks) :
    Calls Try.prog 32 #[.agg #[.int .i64 d, .slice A n c], .int .i64 p, .int .i64 q] w fun e w' => e = .returned (.bool (pnB d ks p q)) ∧ Below w.heap.size w w' := by
  have HB := Lib.hid ((Below.refl w.heap.size w).alloc (Nat.le_refl _) (.cells #[.int .i64 d, .slice A n c] 34))
  have HU : Hid (Cells (w.alloc (.cells #[.int .i64 d, .slice A n c] 34)) w.heap.size 2 (pF d (.slice A n c))) := Lib.hid (Cells.new (n := 2) rfl rfl)
  have HA := Lib.hid (hA.below HB.out)
  have HL := Lib.hid hA.len
  have hwn : IntKind.i64.wrap ((n : Int) - 1) = (n : Int) - 1 := by rw [IntKind.wrap_i64]; omega
  obtain ⟨x, hx⟩ : ∃ x, pinsB d ks = x := ⟨_, rfl⟩
  have HX := Lib.hid hx
  obtain ⟨y, hy⟩ : ∃ y, inB p 0 ((n : Int) - 1) = y := ⟨_, rfl⟩
  have HY := Lib.hid hy
  obtain ⟨z, hz⟩ : ∃ z, inB q 0 (d - 1) = z := ⟨_, rfl⟩
  have HZ := Lib.hid hz
  have HV : Hid (pnB d ks p q = (x && y && z)) := Lib.hid (by unfold pnB; rw [hA.len, hx, hy, hz])
  have hwd : x = true → IntKind.i64.wrap (d - 1) = d - 1 := fun h => by
    have := (pinsB_yes (hx.trans h)); rw [IntKind.wrap_i64]; omega
  clear hA hx hy hz
  rw [HV.out]
  rcases x with _ | _
  · go_enter Try.func32, Try.ntmps32
    go_wp2_with (go_at_call 60; refine (keGood_any _ _ _ _ ks _ hm HA.out).mono ?_; rw [HX.out]; rintro e w1 ⟨rfl, hb1⟩)
    go_ret
    exact ⟨rfl, bel_call HB.out hb1⟩
  have hwd' := hwd rfl
  clear hwd
  rcases y with _ | _ <;> rcases z with _ | _ <;> go_enter Try.func32, Try.ntmps32
  all_goals go_wp2_with (first
    | (go_at_call 60; refine (keGood_any _ _ _ _ ks _ hm HA.out).mono ?_; rw [HX.out]; rintro e w1 ⟨rfl, hb1⟩
       have H1 := Lib.hid (HU.out.call hb1)
       have HB1 := Lib.hid (bel_call HB.out hb1)
       have l0 : w1.cell? ⟨w.heap.size, 0, none⟩ = some (.int .i64 d) := H1.out.cell (show 0 < 2 by omega)
       have l1 : w1.cell? ⟨w.heap.size, 1, none⟩ = some (.slice A n c) := H1.out.cell (show 1 < 2 by omega)
       clear hb1)
    | (go_at_call 59; refine (l1In_any _ _ _ _).mono ?_; (first | rw [HY.out] | rw [HZ.out]); rintro e wq ⟨rfl, hwq⟩; have hwz := hwq.symm; clear hwq; subst hwz))
  all_goals go_ret
  all_goals exact ⟨rfl, HB1.out⟩

end Go.Proofs.Ytbfildegnbbinaa
