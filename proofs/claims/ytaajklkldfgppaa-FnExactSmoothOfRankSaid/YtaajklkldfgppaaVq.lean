/- The pins that one key opens, as the program makes them. For texts of at most 2^20 bytes. -/
import Derived.Test.YtaajklkldfgppaaVp
namespace Go.Proofs.Ytaajklkldfgppaa
open Go.ChangeShapes Go.WideShapes Go.ChangeAt Go.RowKit Go.Joins

def dgA (s : ByteArray) : List Int := s.data.toList.map fun c => IntKind.u8.wrap ((c.toNat : Int) - 48)

theorem dgA_length (s : ByteArray) : (dgA s).length = s.size := by simp [dgA]

theorem dgA_at {s : ByteArray} {k : Nat} (hk : k < s.size) : (dgA s).getD k 0 = IntKind.u8.wrap ((s[k].toNat : Int) - 48) := by
  have h : k < s.data.toList.length := by simpa using hk
  have e : s[k] = s.data.toList[k] := rfl
  rw [e]
  simp [dgA, List.getD, List.getElem?_eq_getElem h]


theorem digitsOfA_any (s : ByteArray) (w : World) (hl : s.size ≤ 1048576) :
    Calls Try.prog 57 #[.string s] w (IntsOut w (dgA s) s.size) := by
  have hmk := make_intsN s.size hl
  go_enter Try.func57, Try.ntmps57
  go_wp2
  have hN : Cells (w.alloc (.cells (madeCells #[.int .i64 0] s.size) 3)) w.heap.size s.size (fun _ => .int .i64 0) := Cells.made _ _ _ _
  go_loopw [10] (fun i wr => ∃ k : Nat, k ≤ s.size ∧ i = .int .i64 k ∧ Cells wr w.heap.size s.size (fun j => if j < k then digF (dgA s) j else .int .i64 0) ∧ Below w.heap.size w wr) (fun i _ => s.size - (intOf i).toNat)
  case atStart => exact ⟨0, by omega, rfl, hN.congr (fun j _ => by simp), by (repeat (first | assumption | exact Below.refl _ _ | (refine Below.alloc ?_ (by first | omega | (simp; done) | (simp; omega)) _) | (refine Below.setCell ?_ (by first | omega | (simp; done) | (simp; omega)) _) | refine bel_drewN ?_ _ | refine bel_drew ?_ | (refine bel_call ?_ (by assumption))))⟩
  case round =>
    clear hN hmk
    obtain ⟨k, hk, rfl, hC, hB⟩ := hrel
    have HC := Lib.hid hC
    clear hC
    by_cases hlt : k < s.size
    · have ho : wr.cell? ⟨w.heap.size, k, none⟩ = some (.int .i64 0) := by rw [HC.out.cell hlt, if_neg (by omega)]
      have hf : wr.frozen? ⟨w.heap.size, k, none⟩ = false := HC.out.frozen hlt
      obtain ⟨x, hx⟩ : ∃ x, IntKind.u8.wrap ((s[k].toNat : Int) - 48) = x := ⟨_, rfl⟩
      have hx0 : 0 ≤ x ∧ x ≤ 255 := by rw [← hx, IntKind.wrap_u8]; omega
      have hxw : IntKind.i64.wrap x = x := by rw [IntKind.wrap_i64]; omega
      have hxa : (dgA s).getD k 0 = x := by rw [dgA_at hlt, hx]
      have HS := Lib.hid ((HC.out.set_ hlt (.int .i64 x)).congr (f' := fun j => if j < k + 1 then digF (dgA s) j else .int .i64 0) (fun j hj => by
        have hv : Value.int .i64 x = digF (dgA s) k := by rw [digF, hxa]
        rw [hv]; exact cells_step j k (digF (dgA s)) _))
      go_wp2
      go_roundw
      case rel => exact ⟨k + 1, by omega, by go_num, HS.out, hB.setCell (Nat.le_refl _) _⟩
      case measure => simp [intOf]; omega
    · go_wp2
      go_ret
      exact ⟨_, _, rfl, Nat.le_refl _, HC.out.congr (fun j hj => by rw [if_pos (by omega)]), hB⟩

/-- The first k lists are those of the digits. -/
def setL (ds : List Int) (ks : List (List Int)) : Nat → List (List Int)
  | 0 => ks
  | k + 1 => (setL ds ks k).set k [ds.getD k 0]

theorem setL_length (ds : List Int) (ks : List (List Int)) (k : Nat) : (setL ds ks k).length = ks.length := by
  induction k with
  | zero => rfl
  | succ k ih => rw [setL, List.length_set, ih]

theorem setL_at (ds : List Int) (ks : List (List Int)) {k i : Nat} (hi : i < ks.length) : (setL ds ks k).getD i [] = if i < k then [ds.getD i 0] else ks.getD i [] := by
  induction k with
  | zero => rfl
  | succ k ih =>
    rw [setL]
    by_cases e : i = k
    · subst e
      rw [getD_set_eq (by rw [setL_length]; exact hi), if_pos (by omega)]
    · rw [getD_set_ne e, ih]
      by_cases h : i < k
      · rw [if_pos h, if_pos (by omega)]
      · rw [if_neg h, if_neg (by omega)]

theorem setL_all (ds : List Int) (ks : List (List Int)) : setL ds ks ks.length = kqL ds ks.length := by
  refine lists_ext (by rw [setL_length]; exact (rwL_length _ _).symm) fun i hi => ?_
  rw [setL_length] at hi
  rw [setL_at _ _ hi, if_pos hi]
  exact (rwL_at (f := fun i => [ds.getD i 0]) hi).symm

theorem kq_dig {d : Int} (hd : 1 ≤ d ∧ d ≤ 9) (c : UInt8) : depB d [IntKind.u8.wrap ((c.toNat : Int) - 48)] = digitB d c := by
  have hc : (c.toNat : Int) ≤ 255 := by have := c.toNat_lt; omega
  unfold depB digitB riseB
  rw [IntKind.wrap_u8, Bool.eq_iff_iff]
  simp [riseB]
  omega

theorem pinsB_kq {d : Int} {s : ByteArray} (hd : inB d 1 9 = true) (hs : inB (s.size : Int) 1 7 = true) : pinsB d (kqL (dgA s) s.size) = allK d s := by
  unfold pinsB
  have hl : (kqL (dgA s) s.size).length = s.size := rwL_length _ _
  rw [hl, hd, hs, Bool.true_and, Bool.true_and]
  have hd' := of_decide_eq_true hd
  cases h : allK d s with
  | true =>
    refine List.all_eq_true.2 fun xs hxs => ?_
    obtain ⟨i, hi, e⟩ := List.getElem_of_mem hxs
    rw [hl] at hi
    have e2 : xs = [(dgA s).getD i 0] := by
      rw [← e]
      have := rwL_at (f := fun i => [(dgA s).getD i 0]) hi
      rw [List.getD, List.getElem?_eq_getElem (by rw [rwL_length]; exact hi), Option.getD_some] at this
      exact this
    rw [e2, dgA_at hi, kq_dig hd']
    exact allK_at h hi
  | false =>
    refine Bool.eq_false_iff.2 fun hall => ?_
    refine Bool.eq_false_iff.1 h ?_
    refine List.all_eq_true.2 fun c hc => ?_
    obtain ⟨i, hi, e⟩ := List.getElem_of_mem hc
    have hi' : i < s.size := by simpa using hi
    have h1 := List.all_eq_true.1 hall ((kqL (dgA s) s.size).getD i []) (by
      simp only [List.getD, List.getElem?_eq_getElem (show i < (kqL (dgA s) s.size).length by rw [hl]; exact hi'), Option.getD_some]
      exact List.getElem_mem _)
    have e2 : (kqL (dgA s) s.size).getD i [] = [(dgA s).getD i 0] := rwL_at hi'
    rw [e2, dgA_at hi', kq_dig hd'] at h1
    rw [← e]
    exact h1

theorem kq_same {d : Int} {s : ByteArray} (hd : 1 ≤ d ∧ d ≤ 9) (h : allK d s = true) : kqL (dgA s) s.size = kqL (dg s) s.size := by
  unfold kqL
  refine rwL_congr fun i hi => ?_
  have h1 := allK_at h hi
  have hc := of_decide_eq_true h1
  rw [dgA_at hi, dg_at hi, IntKind.wrap_u8]
  congr 1
  omega

set_option maxRecDepth 100000 in
set_option maxHeartbeats 4000000 in
theorem pinsOfKey_any (d : Int) (s : ByteArray) (w : World) (hs : s.size ≤ 1048576) :
    Calls Try.prog 55 #[.int .i64 d, .string s] w (PinsOut w (kqD d s) (kqK d s) (keyB d s)) := by
  have HB0 := Lib.hid (show Below w.heap.size w (w.alloc (.cells #[.int .i64 0, .slice none 0 0] 26)) from (Below.refl _ _).alloc (Nat.le_refl _) _)
  have CQ := Lib.hid (Cells.new (W := w) (cs := #[.int .i64 0, .slice none 0 0]) (t := 26) (g := w.heap.size) (n := 2) rfl rfl)
  obtain ⟨v, HV⟩ : ∃ v, Hid (wpB d (s.size : Int) = v) := ⟨_, Lib.hid rfl⟩
  rcases v with _ | _
  · have hkb : keyB d s = false := by
      have := HV.out
      unfold wpB at this
      unfold keyB
      rw [this, Bool.false_and]
    obtain ⟨e1, e2⟩ := kq_no hkb
    rw [e1, e2, hkb]
    have hwd : wpD d (s.size : Int) = 0 := by unfold wpD; rw [HV.out]; rfl
    have hwk : wpK d (s.size : Int) = [] := by unfold wpK; rw [HV.out]; rfl
    have HWP : Hid (∀ W : World, Calls Try.prog 50 #[.int .i64 d, .int .i64 (s.size : Int)] W (PinsOut W 0 [] false)) := Lib.hid (fun W => by have h := wholePins_any d (s.size : Int) W; rw [hwd, hwk, HV.out] at h; exact h)
    clear hkb e1 e2 hwd hwk
    go_enter Try.func55, Try.ntmps55
    go_wp2_with (first
      | (go_at_call 50; refine (HWP.out _).mono ?_; rintro e w1 ⟨v1, rfl, hR1, hb1⟩
         obtain ⟨A1, c1, rfl⟩ := hR1.slice
         rw [List.length_nil] at hR1 ⊢
         have HB1 := Lib.hid ((bel_call HB0.out hb1).alloc (bel_call HB0.out hb1).size (.cells #[.int .i64 0, .slice A1 0 c1] 26))
         have HQ1 := Lib.hid ((CQ.out.call hb1).alloc (.cells #[.int .i64 0, .slice A1 0 c1] 26))
         have q0 : (w1.alloc (.cells #[.int .i64 0, .slice A1 0 c1] 26)).cell? ⟨w.heap.size, 0, none⟩ = some (.int .i64 0) := HQ1.out.cell (show 0 < 2 by omega)
         have q1 : (w1.alloc (.cells #[.int .i64 0, .slice A1 0 c1] 26)).cell? ⟨w.heap.size, 1, none⟩ = some (.slice none 0 0) := HQ1.out.cell (show 1 < 2 by omega)
         have f0 := HQ1.out.frozen (show 0 < 2 by omega)
         have f1 := HQ1.out.frozen (show 1 < 2 by omega)
         clear hb1 hR1))
    refine bodyPost_ret (v := .tuple #[.agg #[.int .i64 0, .slice none 0 0], .bool false]) (by simp [results, Try.results55, go_sem, q0, q1]) rfl (pinsOut_no rfl ?_)
    iterate 2 (refine Below.setCell ?_ (by show w.heap.size ≤ w.heap.size; omega) _)
    exact HB1.out
  · have hw := HV.out
    unfold wpB at hw
    rw [Bool.and_eq_true] at hw
    have hd := of_decide_eq_true hw.1
    have hn := of_decide_eq_true hw.2
    have HPK := Lib.hid (pinsB_kq hw.1 hw.2)
    have HKS : Hid (allK d s = true → kqL (dgA s) s.size = kqL (dg s) s.size) := Lib.hid (kq_same hd)
    have HKB : Hid (keyB d s = allK d s) := Lib.hid (by unfold keyB; rw [hw.1, hw.2]; rfl)
    have hwd : wpD d (s.size : Int) = d := by unfold wpD; rw [HV.out, if_pos rfl]
    have hwk : wpK d (s.size : Int) = wholeL d.toNat s.size := by unfold wpK; rw [HV.out, if_pos rfl, Int.toNat_natCast]
    have HWP : Hid (∀ W : World, Calls Try.prog 50 #[.int .i64 d, .int .i64 (s.size : Int)] W (PinsOut W d (wholeL d.toNat s.size) true)) := Lib.hid (fun W => by have h := wholePins_any d (s.size : Int) W; rw [hwd, hwk, HV.out] at h; exact h)
    have HWL : Hid ((wholeL d.toNat s.size).length = s.size) := Lib.hid (rwL_length _ _)
    have HSA : Hid (setL (dgA s) (wholeL d.toNat s.size) s.size = kqL (dgA s) s.size) := Lib.hid (by have h := setL_all (dgA s) (wholeL d.toNat s.size); rw [HWL.out] at h; exact h)
    clear hwd hwk hw
    generalize wholeL d.toNat s.size = K0 at HWP HWL HSA
    go_enter Try.func55, Try.ntmps55
    go_wp2_with (first
      | (go_at_call 50; refine (HWP.out _).mono ?_; rintro e w1 ⟨v1, rfl, hR1, hb1⟩
         obtain ⟨A1, c1, rfl⟩ := hR1.slice
         rw [HWL.out] at hR1 ⊢
         have HB1 := Lib.hid ((bel_call HB0.out hb1).alloc (bel_call HB0.out hb1).size (.cells #[.int .i64 d, .slice A1 s.size c1] 26))
         have HQ1 := Lib.hid ((CQ.out.call hb1).alloc (.cells #[.int .i64 d, .slice A1 s.size c1] 26))
         have HR1 := Lib.hid ((hR1.weak (show w.heap.size + 1 ≤ _ by simp)).alloc (.cells #[.int .i64 d, .slice A1 s.size c1] 26))
         have HT1 := Lib.hid (Cells.new (W := w1) (cs := #[.int .i64 d, .slice A1 s.size c1]) (t := 26) (g := w1.heap.size) (n := 2) rfl rfl)
         have HLT := Lib.hid (show ∀ g, A1 = some ⟨g, 0, none⟩ → w.heap.size + 1 ≤ g ∧ g < w1.heap.size from fun g e => by
           subst e
           obtain ⟨_, _, _, h2, _⟩ := hR1.own
           have := h2.lt g rfl
           simp at this
           omega)
         have hz1 : w.heap.size + 1 ≤ w1.heap.size := by have := hb1.size; simp at this; omega
         clear hb1 hR1)
      | (go_at_call 57; refine (digitsOfA_any s _ hs).mono ?_; rintro e w2 ⟨g2, c2, rfl, hg2, hC2, hb2⟩
         have HB2 := Lib.hid (bel_call HB1.out hb2)
         have HQ2 := Lib.hid (HQ1.out.call hb2)
         have HR2 := Lib.hid (HR1.out.call hb2)
         have HT2 := Lib.hid (HT1.out.call hb2)
         have HC2 := Lib.hid hC2
         have hz2 : w1.heap.size + 1 ≤ w2.heap.size := by have := hb2.size; simp at this; omega
         clear hb2 hC2))
    have HSP : Hid (∀ k, k ≤ s.size → ∃ g0, A1 = some ⟨g0, 0, none⟩) := Lib.hid (fun _ _ => by
      obtain ⟨G, vs, h1, h2, _, _⟩ := HR1.out.own
      rw [HWL.out] at h2
      obtain ⟨g, c, e, _⟩ := h2.form (by omega)
      injection e with e _ _
      exact ⟨g, e⟩)
    obtain ⟨g0, rfl⟩ := HSP.out 0 (by omega)
    obtain ⟨hg0, hgP⟩ := HLT.out g0 rfl
    have hg2' : w1.heap.size + 1 ≤ g2 := by have := hg2; simp at this; omega
    obtain ⟨P, hP⟩ : ∃ P, w1.heap.size = P := ⟨_, rfl⟩
    rw [hP] at HT2 hz1 hz2 hgP hg2'
    rw [hP]
    clear HR1 HT1 HQ1 HB1 HSP HLT hg2 hP
    go_loopw [23] (fun i wr => ∃ k : Nat, k ≤ s.size ∧ i = .int .i64 k ∧ RowP wr (w.heap.size + 1) (.slice (some ⟨g0, 0, none⟩) s.size c1) (setL (dgA s) K0 k) ∧ Cells wr w.heap.size 2 (pF 0 (.slice none 0 0)) ∧ Cells wr P 2 (pF d (.slice (some ⟨g0, 0, none⟩) s.size c1)) ∧ Cells wr g2 s.size (digF (dgA s)) ∧ P + 1 ≤ wr.heap.size ∧ Below w.heap.size w wr) (fun i _ => s.size - (intOf i).toNat)
    case atStart => exact ⟨0, by omega, rfl, HR2.out, HQ2.out, HT2.out, HC2.out, hz2, HB2.out⟩
    case round =>
      clear HR2 HQ2 HT2 HC2 HB2 hz2
      obtain ⟨k, hk, rfl, hR, hQ, hT, hC, hz, hB⟩ := hrel
      have HR := Lib.hid hR
      have HQ := Lib.hid hQ
      have HT := Lib.hid hT
      have HC := Lib.hid hC
      have HB := Lib.hid hB
      clear hR hQ hT hC hB
      by_cases hlt : k < s.size
      · have o1 : wr.cell? ⟨g2, k, none⟩ = some (.int .i64 ((dgA s).getD k 0)) := HC.out.cell hlt
        have HX : Hid (setL (dgA s) K0 (k + 1) = (setL (dgA s) K0 k).set k [(dgA s).getD k 0]) := Lib.hid rfl
        have hsl : (setL (dgA s) K0 k).length = s.size := by rw [setL_length, HWL.out]
        generalize (dgA s).getD k 0 = x at o1 HX
        obtain ⟨K1, hK1⟩ : ∃ K1, setL (dgA s) K0 k = K1 := ⟨_, rfl⟩
        rw [hK1] at HR HX hsl
        clear hK1
        obtain ⟨G, vs, hv1, hv2, hv3, hv4⟩ := HR.out.own
        obtain ⟨Ao, co, eo, _⟩ := hv3 k (by omega)
        rw [hsl] at hv2
        have q1 : wr.cell? ⟨g0, k, none⟩ = some (.slice Ao (K1.getD k []).length co) := by rw [hv2.cellAt k (by omega), eo]
        have q2 := hv2.frozenAt k
        have hgw := (hv2.lt g0 rfl).2
        clear hv1 hv2 hv3 hv4 eo
        have t1 : wr.cell? ⟨P, 1, none⟩ = some (.slice (some ⟨g0, 0, none⟩) s.size c1) := HT.out.cell (show 1 < 2 by omega)
        have HBA := Lib.hid (show Below wr.heap.size wr (wr.alloc (.cells #[.int .i64 x] 3)) from (Below.refl _ _).alloc (Nat.le_refl _) _)
        have p1 : (wr.alloc (.cells #[.int .i64 x] 3)).cell? ⟨g0, k, none⟩ = some (.slice Ao (K1.getD k []).length co) := by rw [HBA.out.cell (p := ⟨g0, k, none⟩) hgw]; exact q1
        have p2 : (wr.alloc (.cells #[.int .i64 x] 3)).frozen? ⟨g0, k, none⟩ = false := by rw [HBA.out.frozen (p := ⟨g0, k, none⟩) hgw]; exact q2
        clear q1 q2
        have HCM := Lib.hid (World.setCell_alloc_past (w := wr) (.cells #[.int .i64 x] 3) g0 k (.slice (some ⟨wr.heap.size, 0, none⟩) 1 1) hgw)
        have HRN := Lib.hid (HR.out.put (A' := some ⟨wr.heap.size, 0, none⟩) (c := 1) HBA.out (k := k) (g := wr.heap.size) (m := 1) (xs := [x]) (by omega) rfl (.inr ⟨rfl, Nat.le_refl _, by have := HB.out.size; omega, (Cells.new (n := 1) rfl rfl).congr fun j hj => by
          obtain rfl : j = 0 := by omega
          rfl⟩))
        have HQN := Lib.hid ((HQ.out.call HBA.out).far (p := ⟨g0, k, none⟩) (by show g0 ≠ w.heap.size; omega) (.slice (some ⟨wr.heap.size, 0, none⟩) 1 1))
        have HTN := Lib.hid ((HT.out.call HBA.out).far (p := ⟨g0, k, none⟩) (by show g0 ≠ P; omega) (.slice (some ⟨wr.heap.size, 0, none⟩) 1 1))
        have HCN := Lib.hid ((HC.out.call HBA.out).far (p := ⟨g0, k, none⟩) (by show g0 ≠ g2; omega) (.slice (some ⟨wr.heap.size, 0, none⟩) 1 1))
        have HBN := Lib.hid ((bel_call HB.out HBA.out).setCell (p := ⟨g0, k, none⟩) (by show w.heap.size ≤ g0; omega) (.slice (some ⟨wr.heap.size, 0, none⟩) 1 1))
        have hzn : P + 1 ≤ ((wr.alloc (.cells #[.int .i64 x] 3)).setCell ⟨g0, k, none⟩ (.slice (some ⟨wr.heap.size, 0, none⟩) 1 1)).heap.size := by rw [size_setCell]; exact Nat.le_trans hz HBA.out.size
        obtain ⟨WN, hWN⟩ : ∃ WN, (wr.alloc (.cells #[.int .i64 x] 3)).setCell ⟨g0, k, none⟩ (.slice (some ⟨wr.heap.size, 0, none⟩) 1 1) = WN := ⟨_, rfl⟩
        have HWN := Lib.hid (HCM.out.symm.trans hWN)
        have hRN : RowP WN (w.heap.size + 1) (.slice (some ⟨g0, 0, none⟩) s.size c1) (K1.set k [x]) := by rw [← hWN]; exact HRN.out
        have hQN : Cells WN w.heap.size 2 (pF 0 (.slice none 0 0)) := by rw [← hWN]; exact HQN.out
        have hTN : Cells WN P 2 (pF d (.slice (some ⟨g0, 0, none⟩) s.size c1)) := by rw [← hWN]; exact HTN.out
        have hCN : Cells WN g2 s.size (digF (dgA s)) := by rw [← hWN]; exact HCN.out
        have hzN : P + 1 ≤ WN.heap.size := by rw [← hWN]; exact hzn
        have hBN : Below w.heap.size w WN := by rw [← hWN]; exact HBN.out
        have JRN := Lib.hid hRN
        have JQN := Lib.hid hQN
        have JTN := Lib.hid hTN
        have JCN := Lib.hid hCN
        have JBN := Lib.hid hBN
        clear hWN hRN hQN hTN hCN hBN HRN HQN HTN HCN HBN hzn HCM
        go_wp2_with fail
        rw [HWN.out]
        go_roundw
        case rel => exact ⟨k + 1, by omega, by go_num, by rw [HX.out]; exact JRN.out, JQN.out, JTN.out, JCN.out, hzN, JBN.out⟩
        case measure => simp [intOf]; omega
      · obtain rfl : k = s.size := by omega
        rw [HSA.out] at HR
        have hkl : (kqL (dgA s) s.size).length = s.size := rwL_length _ _
        have h1k : ∀ i, i < (kqL (dgA s) s.size).length → ((kqL (dgA s) s.size).getD i []).length ≤ maxLen := fun i hi => by
          rw [hkl] at hi
          have e : (kqL (dgA s) s.size).getD i [] = [(dgA s).getD i 0] := rwL_at (f := fun i => [(dgA s).getD i 0]) hi
          rw [e]
          unfold maxLen
          show 1 ≤ _
          omega
        have HKN := Lib.hid (HR.out.knobs h1k)
        have hla : ∀ m, m ≤ s.size → lensAt (kqL (dgA s) s.size) m = m := fun m => by
          induction m with
          | zero => intro _; rfl
          | succ m ih =>
            intro hm
            have e : (kqL (dgA s) s.size).getD m [] = [(dgA s).getD m 0] := rwL_at (f := fun i => [(dgA s).getD i 0]) (by omega)
            rw [lensAt, ih (by omega), e]
            rfl
        have hfew : s.size + lensAt (kqL (dgA s) s.size) s.size ≤ 1048576 := by rw [hla s.size (Nat.le_refl _)]; omega
        have t0 : wr.cell? ⟨P, 0, none⟩ = some (.int .i64 d) := HT.out.cell (show 0 < 2 by omega)
        have t1 : wr.cell? ⟨P, 1, none⟩ = some (.slice (some ⟨g0, 0, none⟩) s.size c1) := HT.out.cell (show 1 < 2 by omega)
        obtain ⟨v, HV3⟩ : ∃ v, Hid (allK d s = v) := ⟨_, Lib.hid rfl⟩
        have HPK2 : Hid (pinsB d (kqL (dgA s) s.size) = v) := Lib.hid (HPK.out.trans HV3.out)
        have HKE : Hid (v = true → kqL (dgA s) s.size = kqL (dg s) s.size) := Lib.hid (fun h => HKS.out (HV3.out.trans h))
        have HKV : Hid (keyB d s = v) := Lib.hid (HKB.out.trans HV3.out)
        clear HPK HKS HKB HV3 HC hla h1k hkl
        generalize kqL (dgA s) s.size = K2 at HR HKN HPK2 HKE hfew
        rcases v with _ | _
        · obtain ⟨e1, e2⟩ := kq_no HKV.out
          have HE1 := Lib.hid e1
          have HE2 := Lib.hid e2
          clear e1 e2
          go_wp2_with (first
            | (go_at_call 39; refine (arePins_any _ _ _ _ K2 _ hfew HKN.out).mono ?_; rw [HPK2.out]; rintro e w5 ⟨rfl, hb5⟩
               have HB5 := Lib.hid (bel_call HB.out hb5)
               have HQ5 := Lib.hid (HQ.out.call hb5)
               have q0 : w5.cell? ⟨w.heap.size, 0, none⟩ = some (.int .i64 0) := HQ5.out.cell (show 0 < 2 by omega)
               have q1 : w5.cell? ⟨w.heap.size, 1, none⟩ = some (.slice none 0 0) := HQ5.out.cell (show 1 < 2 by omega)
               have f0 := HQ5.out.frozen (show 0 < 2 by omega)
               have f1 := HQ5.out.frozen (show 1 < 2 by omega)
               clear hb5))
          refine bodyPost_ret (v := .tuple #[.agg #[.int .i64 0, .slice none 0 0], .bool false]) (by simp [results, Try.results55, go_sem, q0, q1]) rfl ?_
          rw [HE1.out, HE2.out, HKV.out]
          refine pinsOut_no rfl ?_
          iterate 2 (refine Below.setCell ?_ (by show w.heap.size ≤ w.heap.size; omega) _)
          exact HB5.out
        · obtain ⟨e1, e2⟩ := kq_yes HKV.out
          have HE1 := Lib.hid e1
          have HE2 : Hid (kqK d s = K2) := Lib.hid (e2.trans (HKE.out rfl).symm)
          clear e1 e2
          go_wp2_with (first
            | (go_at_call 39; refine (arePins_any _ _ _ _ K2 _ hfew HKN.out).mono ?_; rw [HPK2.out]; rintro e w5 ⟨rfl, hb5⟩
               have HB5 := Lib.hid (bel_call HB.out hb5)
               have HQ5 := Lib.hid (HQ.out.call hb5)
               have HR5 := Lib.hid (HR.out.call hb5)
               have HT5 := Lib.hid (HT.out.call hb5)
               have q0 : w5.cell? ⟨w.heap.size, 0, none⟩ = some (.int .i64 0) := HQ5.out.cell (show 0 < 2 by omega)
               have q1 : w5.cell? ⟨w.heap.size, 1, none⟩ = some (.slice none 0 0) := HQ5.out.cell (show 1 < 2 by omega)
               have f0 := HQ5.out.frozen (show 0 < 2 by omega)
               have f1 := HQ5.out.frozen (show 1 < 2 by omega)
               have r0 : w5.cell? ⟨P, 0, none⟩ = some (.int .i64 d) := HT5.out.cell (show 0 < 2 by omega)
               have r1 : w5.cell? ⟨P, 1, none⟩ = some (.slice (some ⟨g0, 0, none⟩) s.size c1) := HT5.out.cell (show 1 < 2 by omega)
               clear hb5))
          refine bodyPost_ret (v := .tuple #[.agg #[.int .i64 d, .slice (some ⟨g0, 0, none⟩) s.size c1], .bool true]) (by simp [results, Try.results55, go_sem, q0, q1]) rfl ?_
          rw [HE1.out, HE2.out, HKV.out]
          refine ⟨_, rfl, ?_, ?_⟩
          · exact ((HR5.out.under (by show w.heap.size < w.heap.size + 1; omega) _).under (by show w.heap.size < w.heap.size + 1; omega) _).weak (by omega)
          · iterate 2 (refine Below.setCell ?_ (by show w.heap.size ≤ w.heap.size; omega) _)
            exact HB5.out

end Go.Proofs.Ytaajklkldfgppaa
