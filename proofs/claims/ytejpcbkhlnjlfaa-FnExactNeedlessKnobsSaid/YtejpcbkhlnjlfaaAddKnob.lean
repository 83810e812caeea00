/- Gears with a knob more, as the model tells them. For at most 1048576 numbers. -/
import Derived.Test.YtejpcbkhlnjlfaaDropKnob
namespace Go.Proofs.Ytejpcbkhlnjlfaa
open Go.ChangeShapes Go.WideShapes Go.ChangeAt Go.RowKit Go.Joins

theorem woAt_neg (ks : List (List Int)) {q : Int} (hq : q < 0) (k : Nat) (hk : k ≤ ks.length) : woAt ks q k = ks.take k := by
  induction k with
  | zero => rfl
  | succ k ih =>
    rw [woAt, if_neg (by omega), ih (by omega), List.take_succ_eq_append_getElem (by omega)]
    simp [List.getD, List.getElem?_eq_getElem (show k < ks.length by omega)]

theorem RowG.other {w : World} {B : Nat} {v : Value} {ks : List (List Int)} {G Cp : Nat → Nat} (h : RowG w B v ks G Cp) {g k : Nat} (hne : v.ownBlock ≠ some g) (hG : ∀ i, i < ks.length → G i ≠ g) (x : Value) : RowG (w.setCell ⟨g, k, none⟩ x) B v ks G Cp := by
  have hgrow : w.grownBy (w.setCell ⟨g, k, none⟩ x) (some g) := ⟨rfl, rfl, rfl, by rw [size_setCell]; exact Nat.le_refl _, fun j _ hj => Below.heap_setCell _ _ _ j (fun e => hj (by rw [e]))⟩
  refine ⟨h.own.kept hgrow ?_, fun i hi => ⟨(h.row i hi).1, (h.row i hi).2.1, (h.row i hi).2.2.far (fun e => hG i hi e.symm) _⟩, h.apart⟩
  rcases h.own.2 with ⟨rfl, _⟩ | ⟨g', cap, cur, rfl, hb, _⟩
  · exact .inl rfl
  · exact .inr fun e => hne e

def akB (a b : Int) (ks : List (List Int)) (xs : List Int) : Bool := gearsB a b ks && knobB a b xs && !decide (ks.length = 5)

def akA (a b : Int) (ks : List (List Int)) (xs : List Int) (x : Int) : Int := if akB a b ks xs then x else 0

def akZ (a b : Int) (ks : List (List Int)) (xs : List Int) : List (List Int) := if akB a b ks xs then ks ++ [xs] else []

set_option maxHeartbeats 4000000 in
theorem specAddKnob_any (a b : Int) (A Ax : Option Addr) (n c nx cx : Nat) (ks : List (List Int)) (xs : List Int) (w : World) (hm : n + lensAt ks n ≤ 1048576) (hx : nx ≤ 1048576) (hA : KnobsA w A n ks) (hX : IntsA w Ax nx xs) :
    Calls Try.prog 59 #[.agg #[.int .i64 a, .int .i64 b, .slice A n c], .slice Ax nx cx] w (GearsOut w (akA a b ks xs a) (akA a b ks xs b) (akZ a b ks xs) (akB a b ks xs)) := by
  have HX := Lib.hid hX
  obtain ⟨i0, hi, hy0, hy1, hy2⟩ := info_parts info_list
  have HXN := Lib.hid hX.len
  clear hX
  have HA := Lib.hid hA
  have HN := Lib.hid hA.len
  have hn2 : n ≤ 1048576 := by omega
  have CU : Cells ((w.alloc (.cells #[.int .i64 a, .int .i64 b, .slice A n c] 31)).alloc (.cells #[.int .i64 0, .int .i64 0, .slice none 0 0] 31)) w.heap.size 3 (gF a b (.slice A n c)) := (Cells.new (W := w) (n := 3) rfl rfl).alloc _
  have CQ : Cells ((w.alloc (.cells #[.int .i64 a, .int .i64 b, .slice A n c] 31)).alloc (.cells #[.int .i64 0, .int .i64 0, .slice none 0 0] 31)) (w.heap.size + 1) 3 (gF 0 0 (.slice none 0 0)) := Cells.new (n := 3) (by simp) rfl
  have hB0 : Below w.heap.size w ((w.alloc (.cells #[.int .i64 a, .int .i64 b, .slice A n c] 31)).alloc (.cells #[.int .i64 0, .int .i64 0, .slice none 0 0] 31)) := by (repeat (first | assumption | exact Below.refl _ _ | (refine Below.alloc ?_ (by first | omega | (simp; done) | (simp; omega)) _) | (refine Below.setCell ?_ (by first | omega | (simp; done) | (simp; omega)) _) | refine bel_drewN ?_ _ | refine bel_drew ?_ | (refine bel_call ?_ (by assumption))))
  have HU := Lib.hid CU
  have HQ := Lib.hid CQ
  have HB0 := Lib.hid hB0
  clear hA CU CQ hB0
  by_cases hg : gearsB a b ks = true
  · have HG := Lib.hid hg
    have hgd := good_yes (gearsB_yes hg).1
    obtain ⟨b0, b10⟩ : 0 ≤ b ∧ b ≤ 10 := by omega
    clear hg hgd
    obtain ⟨u, HK⟩ : ∃ u, Hid (knobB a b xs = u) := ⟨_, Lib.hid rfl⟩
    rcases u with _ | _
    · have HD : Hid (akB a b ks xs = false) := Lib.hid (by unfold akB; rw [HK.out, Bool.and_false, Bool.false_and])
      go_enter Try.func59, Try.ntmps59
      go_wp2_with (first
        | (go_at_call 62; refine (joGood_any _ _ _ _ _ ks _ hm (HA.out.below HB0.out)).mono ?_; rw [HG.out]; rintro e w1 ⟨rfl, hb1⟩
           have D1 := Lib.hid (HU.out.call hb1)
           have E1 := Lib.hid (HQ.out.call hb1)
           have B1 := Lib.hid (bel_call HB0.out hb1)
           have l0 : w1.cell? ⟨w.heap.size, 0, none⟩ = some (.int .i64 a) := D1.out.cell (show 0 < 3 by omega)
           have l1 : w1.cell? ⟨w.heap.size, 1, none⟩ = some (.int .i64 b) := D1.out.cell (show 1 < 3 by omega)
           have l2 : w1.cell? ⟨w.heap.size, 2, none⟩ = some (.slice A n c) := D1.out.cell (show 2 < 3 by omega)
           have q0 : w1.cell? ⟨w.heap.size + 1, 0, none⟩ = some (.int .i64 0) := E1.out.cell (show 0 < 3 by omega)
           have q1 : w1.cell? ⟨w.heap.size + 1, 1, none⟩ = some (.int .i64 0) := E1.out.cell (show 1 < 3 by omega)
           have q2 : w1.cell? ⟨w.heap.size + 1, 2, none⟩ = some (.slice none 0 0) := E1.out.cell (show 2 < 3 by omega)
           have f0 := E1.out.frozen (show 0 < 3 by omega)
           have f1 := E1.out.frozen (show 1 < 3 by omega)
           have f2 := E1.out.frozen (show 2 < 3 by omega))
        | (go_at_call 95; refine (joKnob_any _ _ _ _ _ xs _ hx b0 b10 (HX.out.below B1.out)).mono ?_; rw [HK.out]; rintro e w2 ⟨rfl, hb2⟩
           have D2 := Lib.hid (D1.out.call hb2)
           have E2 := Lib.hid (E1.out.call hb2)
           have B2 := Lib.hid (bel_call B1.out hb2)
           clear l0 l1 l2 q0 q1 q2 f0 f1 f2
           have l0 : w2.cell? ⟨w.heap.size, 0, none⟩ = some (.int .i64 a) := D2.out.cell (show 0 < 3 by omega)
           have l1 : w2.cell? ⟨w.heap.size, 1, none⟩ = some (.int .i64 b) := D2.out.cell (show 1 < 3 by omega)
           have l2 : w2.cell? ⟨w.heap.size, 2, none⟩ = some (.slice A n c) := D2.out.cell (show 2 < 3 by omega)
           have q0 : w2.cell? ⟨w.heap.size + 1, 0, none⟩ = some (.int .i64 0) := E2.out.cell (show 0 < 3 by omega)
           have q1 : w2.cell? ⟨w.heap.size + 1, 1, none⟩ = some (.int .i64 0) := E2.out.cell (show 1 < 3 by omega)
           have q2 : w2.cell? ⟨w.heap.size + 1, 2, none⟩ = some (.slice none 0 0) := E2.out.cell (show 2 < 3 by omega)
           have f0 := E2.out.frozen (show 0 < 3 by omega)
           have f1 := E2.out.frozen (show 1 < 3 by omega)
           have f2 := E2.out.frozen (show 2 < 3 by omega)))
      refine bodyPost_ret (v := .tuple #[.agg #[.int .i64 0, .int .i64 0, .slice none 0 0], .bool false]) (by simp [results, Try.results59, go_sem, q0, q1, q2]) rfl ?_
      unfold akA akZ
      rw [HD.out]
      exact gears_none (((B2.out.setCell (p := ⟨w.heap.size + 1, 0, none⟩) (by show w.heap.size ≤ w.heap.size + 1; omega) _).setCell (p := ⟨w.heap.size + 1, 1, none⟩) (by show w.heap.size ≤ w.heap.size + 1; omega) _).setCell (p := ⟨w.heap.size + 1, 2, none⟩) (by show w.heap.size ≤ w.heap.size + 1; omega) _)
    · by_cases h1 : n = 5
      · have h1' : ((n : Int) == 5) = true := by simpa using (show (n : Int) = 5 by omega)
        have HD : Hid (akB a b ks xs = false) := Lib.hid (by unfold akB; rw [HN.out, decide_eq_true h1]; simp)
        clear h1
        go_enter Try.func59, Try.ntmps59
        go_wp2_with (first
          | (go_at_call 62; refine (joGood_any _ _ _ _ _ ks _ hm (HA.out.below HB0.out)).mono ?_; rw [HG.out]; rintro e w1 ⟨rfl, hb1⟩
             have D1 := Lib.hid (HU.out.call hb1)
             have E1 := Lib.hid (HQ.out.call hb1)
             have B1 := Lib.hid (bel_call HB0.out hb1)
             have l0 : w1.cell? ⟨w.heap.size, 0, none⟩ = some (.int .i64 a) := D1.out.cell (show 0 < 3 by omega)
             have l1 : w1.cell? ⟨w.heap.size, 1, none⟩ = some (.int .i64 b) := D1.out.cell (show 1 < 3 by omega)
             have l2 : w1.cell? ⟨w.heap.size, 2, none⟩ = some (.slice A n c) := D1.out.cell (show 2 < 3 by omega)
             have q0 : w1.cell? ⟨w.heap.size + 1, 0, none⟩ = some (.int .i64 0) := E1.out.cell (show 0 < 3 by omega)
             have q1 : w1.cell? ⟨w.heap.size + 1, 1, none⟩ = some (.int .i64 0) := E1.out.cell (show 1 < 3 by omega)
             have q2 : w1.cell? ⟨w.heap.size + 1, 2, none⟩ = some (.slice none 0 0) := E1.out.cell (show 2 < 3 by omega)
             have f0 := E1.out.frozen (show 0 < 3 by omega)
             have f1 := E1.out.frozen (show 1 < 3 by omega)
             have f2 := E1.out.frozen (show 2 < 3 by omega))
          | (go_at_call 95; refine (joKnob_any _ _ _ _ _ xs _ hx b0 b10 (HX.out.below B1.out)).mono ?_; rw [HK.out]; rintro e w2 ⟨rfl, hb2⟩
             have D2 := Lib.hid (D1.out.call hb2)
             have E2 := Lib.hid (E1.out.call hb2)
             have B2 := Lib.hid (bel_call B1.out hb2)
             clear l0 l1 l2 q0 q1 q2 f0 f1 f2
             have l0 : w2.cell? ⟨w.heap.size, 0, none⟩ = some (.int .i64 a) := D2.out.cell (show 0 < 3 by omega)
             have l1 : w2.cell? ⟨w.heap.size, 1, none⟩ = some (.int .i64 b) := D2.out.cell (show 1 < 3 by omega)
             have l2 : w2.cell? ⟨w.heap.size, 2, none⟩ = some (.slice A n c) := D2.out.cell (show 2 < 3 by omega)
             have q0 : w2.cell? ⟨w.heap.size + 1, 0, none⟩ = some (.int .i64 0) := E2.out.cell (show 0 < 3 by omega)
             have q1 : w2.cell? ⟨w.heap.size + 1, 1, none⟩ = some (.int .i64 0) := E2.out.cell (show 1 < 3 by omega)
             have q2 : w2.cell? ⟨w.heap.size + 1, 2, none⟩ = some (.slice none 0 0) := E2.out.cell (show 2 < 3 by omega)
             have f0 := E2.out.frozen (show 0 < 3 by omega)
             have f1 := E2.out.frozen (show 1 < 3 by omega)
             have f2 := E2.out.frozen (show 2 < 3 by omega)))
        refine bodyPost_ret (v := .tuple #[.agg #[.int .i64 0, .int .i64 0, .slice none 0 0], .bool false]) (by simp [results, Try.results59, go_sem, q0, q1, q2]) rfl ?_
        unfold akA akZ
        rw [HD.out]
        exact gears_none (((B2.out.setCell (p := ⟨w.heap.size + 1, 0, none⟩) (by show w.heap.size ≤ w.heap.size + 1; omega) _).setCell (p := ⟨w.heap.size + 1, 1, none⟩) (by show w.heap.size ≤ w.heap.size + 1; omega) _).setCell (p := ⟨w.heap.size + 1, 2, none⟩) (by show w.heap.size ≤ w.heap.size + 1; omega) _)
      · have h1' : ((n : Int) == 5) = false := by simpa using (show ¬ (n : Int) = 5 by omega)
        have HD : Hid (akB a b ks xs = true) := Lib.hid (by unfold akB; rw [HN.out, HK.out, HG.out, decide_eq_false h1]; rfl)
        go_enter Try.func59, Try.ntmps59
        go_wp2_with (first
          | (go_at_call 62; refine (joGood_any _ _ _ _ _ ks _ hm (HA.out.below HB0.out)).mono ?_; rw [HG.out]; rintro e w1 ⟨rfl, hb1⟩
             have D1 := Lib.hid (HU.out.call hb1)
             have E1 := Lib.hid (HQ.out.call hb1)
             have B1 := Lib.hid (bel_call HB0.out hb1)
             have l0 : w1.cell? ⟨w.heap.size, 0, none⟩ = some (.int .i64 a) := D1.out.cell (show 0 < 3 by omega)
             have l1 : w1.cell? ⟨w.heap.size, 1, none⟩ = some (.int .i64 b) := D1.out.cell (show 1 < 3 by omega)
             have l2 : w1.cell? ⟨w.heap.size, 2, none⟩ = some (.slice A n c) := D1.out.cell (show 2 < 3 by omega)
             have q0 : w1.cell? ⟨w.heap.size + 1, 0, none⟩ = some (.int .i64 0) := E1.out.cell (show 0 < 3 by omega)
             have q1 : w1.cell? ⟨w.heap.size + 1, 1, none⟩ = some (.int .i64 0) := E1.out.cell (show 1 < 3 by omega)
             have q2 : w1.cell? ⟨w.heap.size + 1, 2, none⟩ = some (.slice none 0 0) := E1.out.cell (show 2 < 3 by omega)
             have f0 := E1.out.frozen (show 0 < 3 by omega)
             have f1 := E1.out.frozen (show 1 < 3 by omega)
             have f2 := E1.out.frozen (show 2 < 3 by omega))
          | (go_at_call 95; refine (joKnob_any _ _ _ _ _ xs _ hx b0 b10 (HX.out.below B1.out)).mono ?_; rw [HK.out]; rintro e w2 ⟨rfl, hb2⟩
             have D2 := Lib.hid (D1.out.call hb2)
             have E2 := Lib.hid (E1.out.call hb2)
             have B2 := Lib.hid (bel_call B1.out hb2)
             clear l0 l1 l2 q0 q1 q2 f0 f1 f2
             have l0 : w2.cell? ⟨w.heap.size, 0, none⟩ = some (.int .i64 a) := D2.out.cell (show 0 < 3 by omega)
             have l1 : w2.cell? ⟨w.heap.size, 1, none⟩ = some (.int .i64 b) := D2.out.cell (show 1 < 3 by omega)
             have l2 : w2.cell? ⟨w.heap.size, 2, none⟩ = some (.slice A n c) := D2.out.cell (show 2 < 3 by omega)
             have q0 : w2.cell? ⟨w.heap.size + 1, 0, none⟩ = some (.int .i64 0) := E2.out.cell (show 0 < 3 by omega)
             have q1 : w2.cell? ⟨w.heap.size + 1, 1, none⟩ = some (.int .i64 0) := E2.out.cell (show 1 < 3 by omega)
             have q2 : w2.cell? ⟨w.heap.size + 1, 2, none⟩ = some (.slice none 0 0) := E2.out.cell (show 2 < 3 by omega)
             have f0 := E2.out.frozen (show 0 < 3 by omega)
             have f1 := E2.out.frozen (show 1 < 3 by omega)
             have f2 := E2.out.frozen (show 2 < 3 by omega)))
        refine (joWithout_any _ _ _ _ _ _ ks _ hm (HA.out.below B2.out)).mono ?_
        rintro e w3 ⟨v, G, Cp, rfl, hR, hz3, hb3⟩
        rw [woAt_neg ks (by omega) n (by rw [HN.out]; exact Nat.le_refl _), List.take_of_length_le (by rw [HN.out]; exact Nat.le_refl _)] at hR
        have E3 := Lib.hid (E2.out.call hb3)
        have B3 := Lib.hid (bel_call B2.out hb3)
        obtain ⟨A', c', hv⟩ := hR.slice
        rw [HN.out] at hv
        subst hv
        have HR := Lib.hid hR
        clear q0 q1 q2 f0 f1 f2 l0 l1 l2 hR hb3
        go_wp2_with fail
        have CT := Lib.hid (show Cells (w3.alloc (.cells #[.int .i64 a, .int .i64 b, .slice A' n c'] 31)) w3.heap.size 3 (gF a b (.slice A' n c')) from Cells.new (n := 3) rfl rfl)
        have R4 := Lib.hid (HR.out.call ((Below.refl _ _).alloc (Nat.le_refl _) (.cells #[.int .i64 a, .int .i64 b, .slice A' n c'] 31)))
        have E4 := Lib.hid (E3.out.alloc (.cells #[.int .i64 a, .int .i64 b, .slice A' n c'] 31))
        have B4 := Lib.hid (B3.out.alloc B3.out.size (.cells #[.int .i64 a, .int .i64 b, .slice A' n c'] 31))
        have NO := Lib.hid (show (Value.slice A' n c').ownBlock ≠ some w3.heap.size from fun e => by have := (HR.out.own.lt _ e).2; omega)
        have NG := Lib.hid (show ∀ i, i < ks.length → G i ≠ w3.heap.size from fun i hi => by have := (HR.out.row i hi).2.2.lt; omega)
        have ZU := Lib.hid (show w.heap.size + 1 < w3.heap.size from E3.out.lt)
        have ZB := Lib.hid (show w2.heap.size + 3 ≤ (w3.alloc (.cells #[.int .i64 a, .int .i64 b, .slice A' n c'] 31)).heap.size ∧ w.heap.size + 1 < w2.heap.size + 3 ∧ w.heap.size ≤ w2.heap.size + 3 from
          ⟨by simp; omega, Nat.lt_trans E2.out.lt (by omega), Nat.le_trans B2.out.size (by omega)⟩)
        generalize w2.heap.size + 3 = B at HR R4 ZB
        obtain ⟨w4, hw4⟩ : ∃ w4, w3.alloc (.cells #[.int .i64 a, .int .i64 b, .slice A' n c'] 31) = w4 := ⟨_, rfl⟩
        obtain ⟨U, hU⟩ : ∃ U, w3.heap.size = U := ⟨_, rfl⟩
        rw [hw4] at CT R4 E4 B4 ZB ⊢
        rw [hU] at CT NO NG ZU ⊢
        clear hw4 hU HR E3 B3
        have m2 : w4.cell? ⟨U, 2, none⟩ = some (.slice A' n c') := CT.out.cell (show 2 < 3 by omega)
        have HI := Lib.hid (HX.out.below B4.out)
        go_region_law (first
          | (go_simp; go_at_call 96; refine (l1Own_any _ _ _ xs _ hx (HI.out.below (bel_drew (Below.refl _ _)))).mono ?_; rintro e w5 ⟨g2, c2, rfl, hg2, hC2, hb2⟩
             have HB2 := Lib.hid (below_undrew hb2)
             have HC2 := Lib.hid hC2
             have HG2 := Lib.hid hg2
             have HT2 := Lib.hid (CT.out.call HB2.out)
             have m3 : w5.cell? ⟨U, 2, none⟩ = some (.slice A' n c') := HT2.out.cell (show 2 < 3 by omega)
             have m4 : (w5.alloc (.cells #[.slice (some ⟨g2, 0, none⟩) nx c2] 43)).cell? ⟨U, 2, none⟩ = some (.slice A' n c') := (HT2.out.alloc _).cell (show 2 < 3 by omega)
             have HO2 := Lib.hid ((own_kept R4.out.own HB2.out).alloc (.cells #[.slice (some ⟨g2, 0, none⟩) nx c2] 43))
             have HZ2 := Lib.hid (Nat.le_trans ZB.out.1 HB2.out.size)
             clear hb2 hC2 hg2)
          | (refine step_append_at rfl (.tmp 27) (.tmp 30) 24 rfl B 43 i0 (.slice none 0 0) 1 24 Try.underlying24 hi hy0 hy1 hy2 rfl (by decide) (.slice A' n c') ks.length (rowV ks G Cp) rfl HO2.out ⟨w5.heap.size, 0, none⟩ 1 1 [.slice (some ⟨g2, 0, none⟩) nx c2] rfl rfl (news_one rfl) (by simp [Value.oneCell']) (by have := HN.out; unfold maxLen; omega) (by have := HN.out; omega) (by have := HZ2.out; simp; omega) ?_; intro v' w6 hown' hgrow hblk
             have HR4 := Lib.hid (R4.out.snoc HB2.out ZB.out.1 HG2.out HC2.out HXN.out hown' hgrow hblk)
             have HT4 := Lib.hid ((HT2.out.alloc (.cells #[.slice (some ⟨g2, 0, none⟩) nx c2] 43)).kept hgrow NO.out)
             have HQ4 := Lib.hid (((E4.out.call HB2.out).alloc (.cells #[.slice (some ⟨g2, 0, none⟩) nx c2] 43)).kept hgrow (fun e => by have := (HO2.out.lt _ e).1; have := ZB.out.2.1; omega))
             have HB4 := Lib.hid (((bel_call B4.out HB2.out).alloc (bel_call B4.out HB2.out).size _).grown hgrow (by have h1 := HZ2.out; have h2 := ZB.out.2.2; simp; omega) (fun j hj => by have h1 := (HO2.out.lt j hj).1; have h2 := ZB.out.2.2; omega))
             have NO6 := Lib.hid (show v'.ownBlock ≠ some U from fun e => by
               rcases hblk with h | h
               · exact NO.out (h.symm.trans e)
               · rw [h] at e; injection e with e; have h5 := HT2.out.lt; simp at e; omega)
             have ZG := Lib.hid (show g2 ≠ U from fun e => by have h1 := HG2.out; have h2 := CT.out.lt; have h3 : w4.drew.heap.size = w4.heap.size := rfl; omega)
             obtain ⟨g', cap', rfl⟩ := row_succ hown'
             have c2' : w6.cell? ⟨U, 2, none⟩ = some (.slice A' n c') := HT4.out.cell (show 2 < 3 by omega)
             have c3 := HT4.out.frozen (show 2 < 3 by omega)
             clear hown' hgrow hblk))
        all_goals
          have HRN := Lib.hid (HR4.out.other (g := U) (k := 2) NO6.out (fun i hi => by
            show (if i = ks.length then g2 else G i) ≠ U
            split
            · exact ZG.out
            · exact NG.out i (by simp at hi; omega)) (.slice (some ⟨g', 0, none⟩) (ks.length + 1) cap'))
          have HQN := Lib.hid (HQ4.out.far (p := ⟨U, 2, none⟩) (by show U ≠ w.heap.size + 1; have := ZU.out; omega) (.slice (some ⟨g', 0, none⟩) (ks.length + 1) cap'))
          have HTN := Lib.hid ((HT4.out.set_ (show 2 < 3 by omega) (.slice (some ⟨g', 0, none⟩) (ks.length + 1) cap')).congr (f' := gF a b (.slice (some ⟨g', 0, none⟩) (ks.length + 1) cap')) (fun j hj => by
            have : j = 0 ∨ j = 1 ∨ j = 2 := by omega
            rcases this with rfl | rfl | rfl <;> rfl))
          have HBN := Lib.hid (HB4.out.setCell (p := ⟨U, 2, none⟩) (by show w.heap.size ≤ U; have := ZU.out; omega) (.slice (some ⟨g', 0, none⟩) (ks.length + 1) cap'))
          clear m2 c2' c3
          generalize (w6.setCell ⟨U, 2, none⟩ (.slice (some ⟨g', 0, none⟩) (ks.length + 1) cap')) = w7 at HRN HQN HTN HBN ⊢
          have t0 : w7.cell? ⟨U, 0, none⟩ = some (.int .i64 a) := HTN.out.cell (show 0 < 3 by omega)
          have t1 : w7.cell? ⟨U, 1, none⟩ = some (.int .i64 b) := HTN.out.cell (show 1 < 3 by omega)
          have t2 : w7.cell? ⟨U, 2, none⟩ = some (.slice (some ⟨g', 0, none⟩) (ks.length + 1) cap') := HTN.out.cell (show 2 < 3 by omega)
          have q0 : w7.cell? ⟨w.heap.size + 1, 0, none⟩ = some (.int .i64 0) := HQN.out.cell (show 0 < 3 by omega)
          have q1 : w7.cell? ⟨w.heap.size + 1, 1, none⟩ = some (.int .i64 0) := HQN.out.cell (show 1 < 3 by omega)
          have q2 : w7.cell? ⟨w.heap.size + 1, 2, none⟩ = some (.slice none 0 0) := HQN.out.cell (show 2 < 3 by omega)
          have f0 := HQN.out.frozen (show 0 < 3 by omega)
          have f1 := HQN.out.frozen (show 1 < 3 by omega)
          have f2 := HQN.out.frozen (show 2 < 3 by omega)
          go_wp2_with fail
          refine bodyPost_ret (v := .tuple #[.agg #[.int .i64 a, .int .i64 b, .slice (some ⟨g', 0, none⟩) (ks.length + 1) cap'], .bool true]) (by simp [results, Try.results59, go_sem, q0, q1, q2]) rfl ?_
          unfold akA akZ
          rw [HD.out]
          exact ⟨_, B, _, _, rfl, ZB.out.2.2, ((HRN.out.far ZB.out.2.1 _).far ZB.out.2.1 _).far ZB.out.2.1 _, (((HBN.out.setCell (p := ⟨w.heap.size + 1, 0, none⟩) (by show w.heap.size ≤ w.heap.size + 1; omega) _).setCell (p := ⟨w.heap.size + 1, 1, none⟩) (by show w.heap.size ≤ w.heap.size + 1; omega) _).setCell (p := ⟨w.heap.size + 1, 2, none⟩) (by show w.heap.size ≤ w.heap.size + 1; omega) _)⟩
  · have HG := Lib.hid (Bool.eq_false_iff.2 hg)
    have HD : Hid (akB a b ks xs = false) := Lib.hid (by unfold akB; rw [HG.out]; rfl)
    clear hg
    go_enter Try.func59, Try.ntmps59
    go_wp2_with (go_at_call 62; refine (joGood_any _ _ _ _ _ ks _ hm (HA.out.below HB0.out)).mono ?_; rw [HG.out]; rintro e w1 ⟨rfl, hb1⟩
                 have D1 := Lib.hid (HU.out.call hb1)
                 have E1 := Lib.hid (HQ.out.call hb1)
                 have B1 := Lib.hid (bel_call HB0.out hb1)
                 have l0 : w1.cell? ⟨w.heap.size, 0, none⟩ = some (.int .i64 a) := D1.out.cell (show 0 < 3 by omega)
                 have l1 : w1.cell? ⟨w.heap.size, 1, none⟩ = some (.int .i64 b) := D1.out.cell (show 1 < 3 by omega)
                 have l2 : w1.cell? ⟨w.heap.size, 2, none⟩ = some (.slice A n c) := D1.out.cell (show 2 < 3 by omega)
                 have q0 : w1.cell? ⟨w.heap.size + 1, 0, none⟩ = some (.int .i64 0) := E1.out.cell (show 0 < 3 by omega)
                 have q1 : w1.cell? ⟨w.heap.size + 1, 1, none⟩ = some (.int .i64 0) := E1.out.cell (show 1 < 3 by omega)
                 have q2 : w1.cell? ⟨w.heap.size + 1, 2, none⟩ = some (.slice none 0 0) := E1.out.cell (show 2 < 3 by omega)
                 have f0 := E1.out.frozen (show 0 < 3 by omega)
                 have f1 := E1.out.frozen (show 1 < 3 by omega)
                 have f2 := E1.out.frozen (show 2 < 3 by omega))
    refine bodyPost_ret (v := .tuple #[.agg #[.int .i64 0, .int .i64 0, .slice none 0 0], .bool false]) (by simp [results, Try.results59, go_sem, q0, q1, q2]) rfl ?_
    unfold akA akZ
    rw [HD.out]
    exact gears_none (((B1.out.setCell (p := ⟨w.heap.size + 1, 0, none⟩) (by show w.heap.size ≤ w.heap.size + 1; omega) _).setCell (p := ⟨w.heap.size + 1, 1, none⟩) (by show w.heap.size ≤ w.heap.size + 1; omega) _).setCell (p := ⟨w.heap.size + 1, 2, none⟩) (by show w.heap.size ≤ w.heap.size + 1; omega) _)

end Go.Proofs.Ytejpcbkhlnjlfaa
