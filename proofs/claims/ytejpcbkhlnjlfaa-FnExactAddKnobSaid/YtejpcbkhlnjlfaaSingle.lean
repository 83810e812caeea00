/- Gears with a knob for each wheel, as the model and the program make them. No conditions. -/
import Derived.Test.YtejpcbkhlnjlfaaKnobsI
import Derived.Test.YtejpcbkhlnjlfaaGearsI
import Derived.Test.YtejpcbkhlnjlfaaKD2
namespace Go.Proofs.Ytejpcbkhlnjlfaa
open Go.ChangeShapes Go.WideShapes Go.ChangeAt Go.RowKit Go.Joins

def sgB (a b : Int) : Bool := goodB a b && decide (pw b a.toNat ≤ 1000) && decide (a ≤ 5)

/-- The first knobs, each for one wheel. -/
def sgL (m : Nat) : Nat → List (List Int)
  | 0 => []
  | k + 1 => sgL m k ++ [oneT m k 1]

theorem sgL_length (m k : Nat) : (sgL m k).length = k := by
  induction k with
  | zero => rfl
  | succ k ih => rw [sgL, List.length_append, ih]; rfl

def sgZ (a b : Int) : List (List Int) := if sgB a b then sgL a.toNat a.toNat else []

def sgA (a b x : Int) : Int := if sgB a b then x else 0

theorem sg_size {m : Nat} (h : m ≤ 6) : m + lensAt (sgL m m) m ≤ 1048576 := by
  have : m = 0 ∨ m = 1 ∨ m = 2 ∨ m = 3 ∨ m = 4 ∨ m = 5 ∨ m = 6 := by omega
  rcases this with rfl | rfl | rfl | rfl | rfl | rfl | rfl <;> decide +kernel

theorem sg_knob {m k : Nat} {b : Int} (hk : k < m) (hb : 2 ≤ b) : knobB (m : Int) b (oneT m k 1) = true := by
  unfold knobB
  rw [oneT_length, Bool.and_eq_true, decide_eq_true_eq, List.all_eq_true]
  refine ⟨rfl, fun x hx => ?_⟩
  obtain ⟨j, hj, rfl⟩ := List.getElem_of_mem hx
  have := oneT_at (j := j) (m := 1) hk
  simp only [List.getD, List.getElem?_eq_getElem hj, Option.getD_some] at this
  rw [this]
  unfold inB
  rw [decide_eq_true_eq]
  split <;> omega

theorem sg_all {m : Nat} {b : Int} (hb : 2 ≤ b) (k : Nat) (hk : k ≤ m) : (sgL m k).all (knobB (m : Int) b) = true := by
  induction k with
  | zero => rfl
  | succ k ih => rw [sgL, List.all_append, ih (by omega)]; simp [sg_knob (show k < m by omega) hb]

theorem sg_gears {m : Nat} {b : Int} (hg : goodB (m : Int) b = true) : gearsB (m : Int) b (sgL m m) = sgB (m : Int) b := by
  have hy := good_yes hg
  unfold gearsB sgB
  rw [sg_all (by omega) m (Nat.le_refl _), sgL_length, Bool.and_true]
  congr 1
  unfold inB
  exact decide_eq_decide.2 ⟨fun h => by omega, fun h => by omega⟩

theorem sgZ_size (a b : Int) : (sgZ a b).length + lensAt (sgZ a b) (sgZ a b).length ≤ 1048576 := by
  unfold sgZ
  split
  · next h =>
    unfold sgB at h
    rw [Bool.and_eq_true, Bool.and_eq_true] at h
    have hy := good_yes h.1.1
    rw [sgL_length]
    exact sg_size (by omega)
  · exact (by decide : 0 + 0 ≤ 1048576)

def lF (a b : Int) (j : Nat) : Value := (#[.int .i64 a, .int .i64 b] : Array Value).toList.getD j undef

theorem sg_no {a b : Int} (h : sgB a b = false) : sgA a b a = 0 ∧ sgA a b b = 0 ∧ sgZ a b = [] := by
  unfold sgA sgZ
  rw [h]
  exact ⟨rfl, rfl, rfl⟩

set_option maxRecDepth 100000 in
set_option maxHeartbeats 4000000 in
theorem specSingle_any (a b : Int) (w : World) :
    Calls Try.prog 23 #[.agg #[.int .i64 a, .int .i64 b]] w (GearsOut w (sgA a b a) (sgA a b b) (sgZ a b) (sgB a b)) := by
  obtain ⟨i0, hi, hy0, hy1, hy2⟩ := info_parts info_list
  have HU := Lib.hid (show Cells ((w.alloc (.cells #[.int .i64 a, .int .i64 b] 29)).alloc (.cells #[.int .i64 0, .int .i64 0, .slice none 0 0] 31)) w.heap.size 2 (lF a b) from (Cells.new (W := w) (n := 2) rfl rfl).alloc _)
  have HQ := Lib.hid (show Cells ((w.alloc (.cells #[.int .i64 a, .int .i64 b] 29)).alloc (.cells #[.int .i64 0, .int .i64 0, .slice none 0 0] 31)) (w.heap.size + 1) 3 (gF 0 0 (.slice none 0 0)) from Cells.new (n := 3) (by simp) rfl)
  have HB0 := Lib.hid (show Below w.heap.size w ((w.alloc (.cells #[.int .i64 a, .int .i64 b] 29)).alloc (.cells #[.int .i64 0, .int .i64 0, .slice none 0 0] 31)) by (repeat (first | assumption | exact Below.refl _ _ | (refine Below.alloc ?_ (by first | omega | (simp; done) | (simp; omega)) _) | (refine Below.setCell ?_ (by first | omega | (simp; done) | (simp; omega)) _) | refine bel_drewN ?_ _ | refine bel_drew ?_ | (refine bel_call ?_ (by assumption)))))
  by_cases hg : goodB a b = true
  · have HG := Lib.hid hg
    obtain ⟨a1, a6, b2, b10⟩ := good_yes hg
    obtain ⟨n, rfl⟩ : ∃ n : Nat, a = n := ⟨a.toNat, by omega⟩
    have hn6 : n ≤ 6 := by omega
    have HSB : Hid (sgB (n : Int) b = (decide (pw b n ≤ 1000) && decide ((n : Int) ≤ 5))) := Lib.hid (by unfold sgB; rw [HG.out, Int.toNat_natCast, Bool.true_and])
    obtain ⟨z, hz⟩ : ∃ z, pw b n = z := ⟨_, rfl⟩
    have HP := Lib.hid hz
    rw [hz] at HSB
    clear hg hz
    by_cases hok : z ≤ 1000 ∧ n ≤ 5
    · obtain ⟨hz1, hn5⟩ := hok
      have HD : Hid (sgB (n : Int) b = true) := Lib.hid (by rw [HSB.out, decide_eq_true hz1, decide_eq_true (by omega)]; rfl)
      clear HSB
      go_enter Try.func23, Try.ntmps23
      go_wp2_with (first
        | (go_at_call 68; refine (whGood_any _ _ _).mono ?_; rw [HG.out]; rintro e w1 ⟨rfl, hb1⟩
           have D1 := Lib.hid (HU.out.call hb1)
           have E1 := Lib.hid (HQ.out.call hb1)
           have B1 := Lib.hid (bel_call HB0.out hb1)
           have l0 : w1.cell? ⟨w.heap.size, 0, none⟩ = some (.int .i64 n) := D1.out.cell (show 0 < 2 by omega)
           have l1 : w1.cell? ⟨w.heap.size, 1, none⟩ = some (.int .i64 b) := D1.out.cell (show 1 < 2 by omega)
           clear hb1)
        | (go_at_call 69; refine (whCount_any _ _ _ HG.out).mono ?_; rw [HP.out]; rintro e w2 ⟨rfl, hb2⟩
           have D2 := Lib.hid (D1.out.call hb2)
           have E2 := Lib.hid (E1.out.call hb2)
           have B2 := Lib.hid (bel_call B1.out hb2)
           clear l0 l1 hb2 D1 E1 B1
           have l0 : w2.cell? ⟨w.heap.size, 0, none⟩ = some (.int .i64 n) := D2.out.cell (show 0 < 2 by omega)
           have l1 : w2.cell? ⟨w.heap.size, 1, none⟩ = some (.int .i64 b) := D2.out.cell (show 1 < 2 by omega)))
      have CT : Cells (w2.alloc (.cells #[.int .i64 n, .int .i64 b, .slice none 0 0] 31)) w2.heap.size 3 (gF n b (.slice none 0 0)) := Cells.new (n := 3) rfl rfl
      have CU : Cells (w2.alloc (.cells #[.int .i64 n, .int .i64 b, .slice none 0 0] 31)) w.heap.size 2 (lF n b) := D2.out.alloc _
      have CQ : Cells (w2.alloc (.cells #[.int .i64 n, .int .i64 b, .slice none 0 0] 31)) (w.heap.size + 1) 3 (gF 0 0 (.slice none 0 0)) := E2.out.alloc _
      have hB0 : Below w.heap.size w (w2.alloc (.cells #[.int .i64 n, .int .i64 b, .slice none 0 0] 31)) := B2.out.alloc B2.out.size _
      have hz0 : w2.heap.size + 1 ≤ (w2.alloc (.cells #[.int .i64 n, .int .i64 b, .slice none 0 0] 31)).heap.size := by simp
      have hU1 : w.heap.size + 1 < w2.heap.size := E2.out.lt
      obtain ⟨w3, hw3⟩ : ∃ w3, w2.alloc (.cells #[.int .i64 n, .int .i64 b, .slice none 0 0] 31) = w3 := ⟨_, rfl⟩
      obtain ⟨U, hU⟩ : ∃ U, w2.heap.size = U := ⟨_, rfl⟩
      rw [hw3] at CT CU CQ hB0 hz0 ⊢
      rw [hU] at CT hz0 hU1 ⊢
      clear hw3 hU D2 E2 B2 HU HQ HB0 l0 l1
      go_loopw [5] (fun i wr => ∃ (k : Nat) (v : Value) (G Cp : Nat → Nat), k ≤ n ∧ i = .int .i64 k ∧ RowG wr (U + 1) v (sgL n k) G Cp ∧ Cells wr w.heap.size 2 (lF n b) ∧ Cells wr (w.heap.size + 1) 3 (gF 0 0 (.slice none 0 0)) ∧ Cells wr U 3 (gF n b v) ∧ U + 1 ≤ wr.heap.size ∧ Below w.heap.size w wr) (fun i _ => n - (intOf i).toNat)
      case atStart => exact ⟨0, .slice none 0 0, fun _ => 0, fun _ => 0, by omega, rfl, rowG_nil _ _, CU, CQ, CT, hz0, hB0⟩
      case round =>
        clear CU CQ CT hB0 hz0
        obtain ⟨k, v, G, Cp, hk, rfl, hR, hU, hQ, hT, hz, hB⟩ := hrel
        have HR := Lib.hid hR
        have HU := Lib.hid hU
        have HQ := Lib.hid hQ
        have HT := Lib.hid hT
        have l0 : wr.cell? ⟨w.heap.size, 0, none⟩ = some (.int .i64 n) := HU.out.cell (show 0 < 2 by omega)
        clear hR hU hQ hT
        have HKL := Lib.hid (sgL_length n k)
        have HW1 : Hid (sgL n (k + 1) = sgL n k ++ [oneT n k 1]) := Lib.hid rfl
        by_cases hlt : k < n
        · generalize sgL n k = K0 at HR HKL HW1
          have hmk := make_intsN n (by omega)
          have C2 := Lib.hid (Cells.made wr (.int .i64 0) n 3)
          have p1 := C2.out.cell hlt
          have p2 := C2.out.frozen hlt
          have HE := Lib.hid (show (wr.alloc (.cells (madeCells #[.int .i64 0] n) 3)).setCell ⟨wr.heap.size, k, none⟩ (.int .i64 1) = wr.alloc (.cells ((madeCells #[.int .i64 0] n).setIfInBounds k (.int .i64 1)) 3) from set_new wr _ _ _ _)
          have C3 := Lib.hid (show Cells (wr.alloc (.cells ((madeCells #[.int .i64 0] n).setIfInBounds k (.int .i64 1)) 3)) wr.heap.size n (digF (oneT n k 1)) by rw [← HE.out]; exact one_cells hlt C2.out)
          have HB2 := Lib.hid (show Below wr.heap.size wr (wr.alloc (.cells ((madeCells #[.int .i64 0] n).setIfInBounds k (.int .i64 1)) 3)) from (Below.refl _ _).alloc (Nat.le_refl _) _)
          have HT2 := Lib.hid (HT.out.call HB2.out)
          have m2 : (wr.alloc (.cells ((madeCells #[.int .i64 0] n).setIfInBounds k (.int .i64 1)) 3)).cell? ⟨U, 2, none⟩ = some v := HT2.out.cell (show 2 < 3 by omega)
          have m3 : ((wr.alloc (.cells ((madeCells #[.int .i64 0] n).setIfInBounds k (.int .i64 1)) 3)).alloc (.cells #[.slice (some ⟨wr.heap.size, 0, none⟩) n n] 43)).cell? ⟨U, 2, none⟩ = some v := (HT2.out.alloc _).cell (show 2 < 3 by omega)
          have HO2 := Lib.hid ((own_kept HR.out.own HB2.out).alloc (.cells #[.slice (some ⟨wr.heap.size, 0, none⟩) n n] 43))
          have HS2 : Hid ((wr.alloc (.cells ((madeCells #[.int .i64 0] n).setIfInBounds k (.int .i64 1)) 3)).heap.size = wr.heap.size + 1) := Lib.hid (by simp)
          go_wp2_with (at_builtin; refine wpList_append_own_at _ rfl _ _ 24 rfl (U + 1) 43 i0 (.slice none 0 0) 1 24 Try.underlying24 hi hy0 hy1 hy2 rfl (by decide) v K0.length (rowV K0 G Cp) rfl HO2.out ⟨_, 0, none⟩ 1 1 [.slice (some ⟨wr.heap.size, 0, none⟩) n n] rfl rfl (news_one HS2.out.symm) (by simp [Value.oneCell']) (by have := HKL.out; unfold maxLen; omega) (by have := HKL.out; omega) (by simp; omega) ?_; intro v' w4 hown' hgrow hiff hblk
                       have HR4 := Lib.hid (HR.out.snoc HB2.out hz (Nat.le_refl _) C3.out (oneT_length n k 1) hown' hgrow hblk)
                       have hlt2 := HO2.out.lt
                       have HT4 := Lib.hid ((HT2.out.alloc (.cells #[.slice (some ⟨wr.heap.size, 0, none⟩) n n] 43)).kept hgrow (fun e => by have := (hlt2 _ e).1; omega))
                       have HU4 := Lib.hid (((HU.out.call HB2.out).alloc (.cells #[.slice (some ⟨wr.heap.size, 0, none⟩) n n] 43)).kept hgrow (fun e => by have := (hlt2 _ e).1; omega))
                       have HQ4 := Lib.hid (((HQ.out.call HB2.out).alloc (.cells #[.slice (some ⟨wr.heap.size, 0, none⟩) n n] 43)).kept hgrow (fun e => by have := (hlt2 _ e).1; omega))
                       have HB4 := Lib.hid (((bel_call hB HB2.out).alloc (bel_call hB HB2.out).size _).grown hgrow (by have := HS2.out; simp; omega) (fun j hj => by have := (hlt2 j hj).1; omega))
                       have HZ4 := Lib.hid (show U + 1 ≤ w4.heap.size by have h1 := HS2.out; have h2 := hgrow.size; simp at h2; omega)
                       obtain ⟨g', cap', rfl⟩ := row_succ hown'
                       have c2' : w4.cell? ⟨U, 2, none⟩ = some v := HT4.out.cell (show 2 < 3 by omega)
                       have c3 := HT4.out.frozen (show 2 < 3 by omega)
                       clear hown' hgrow hblk hlt2 hiff)
          have HRN := Lib.hid (HR4.out.far (g := U) (k := 2) (by omega) (.slice (some ⟨g', 0, none⟩) (K0.length + 1) cap'))
          have HUN := Lib.hid (HU4.out.far (p := ⟨U, 2, none⟩) (by show U ≠ w.heap.size; omega) (.slice (some ⟨g', 0, none⟩) (K0.length + 1) cap'))
          have HQN := Lib.hid (HQ4.out.far (p := ⟨U, 2, none⟩) (by show U ≠ w.heap.size + 1; omega) (.slice (some ⟨g', 0, none⟩) (K0.length + 1) cap'))
          have HTN := Lib.hid ((HT4.out.set_ (show 2 < 3 by omega) (.slice (some ⟨g', 0, none⟩) (K0.length + 1) cap')).congr (f' := gF n b (.slice (some ⟨g', 0, none⟩) (K0.length + 1) cap')) (fun j hj => by
            have : j = 0 ∨ j = 1 ∨ j = 2 := by omega
            rcases this with rfl | rfl | rfl <;> rfl))
          go_wp2_with fail
          go_roundw
          case rel => exact ⟨k + 1, _, _, _, by omega, by go_num, by rw [HW1.out]; exact HRN.out, HUN.out, HQN.out, HTN.out, by rw [size_setCell]; exact HZ4.out, HB4.out.setCell (by show w.heap.size ≤ U; omega) _⟩
          case measure => simp [intOf]; omega
        · obtain rfl : k = n := by omega
          obtain ⟨A', c', hv⟩ := HR.out.slice
          rw [HKL.out] at hv
          subst hv
          have t0 : wr.cell? ⟨U, 0, none⟩ = some (.int .i64 k) := HT.out.cell (show 0 < 3 by omega)
          have t1 : wr.cell? ⟨U, 1, none⟩ = some (.int .i64 b) := HT.out.cell (show 1 < 3 by omega)
          have t2 : wr.cell? ⟨U, 2, none⟩ = some (.slice A' k c') := HT.out.cell (show 2 < 3 by omega)
          have q0 : wr.cell? ⟨w.heap.size + 1, 0, none⟩ = some (.int .i64 0) := HQ.out.cell (show 0 < 3 by omega)
          have q1 : wr.cell? ⟨w.heap.size + 1, 1, none⟩ = some (.int .i64 0) := HQ.out.cell (show 1 < 3 by omega)
          have q2 : wr.cell? ⟨w.heap.size + 1, 2, none⟩ = some (.slice none 0 0) := HQ.out.cell (show 2 < 3 by omega)
          have f0 := HQ.out.frozen (show 0 < 3 by omega)
          have f1 := HQ.out.frozen (show 1 < 3 by omega)
          have f2 := HQ.out.frozen (show 2 < 3 by omega)
          have HSZ : Hid (sgA (k : Int) b k = k ∧ sgA (k : Int) b b = b ∧ sgZ (k : Int) b = sgL k k) := Lib.hid (by unfold sgA sgZ; rw [HD.out, Int.toNat_natCast]; exact ⟨rfl, rfl, rfl⟩)
          go_wp2_with fail
          refine bodyPost_ret (v := .tuple #[.agg #[.int .i64 k, .int .i64 b, .slice A' k c'], .bool true]) (by simp [results, Try.results23, go_sem, q0, q1, q2]) rfl ?_
          rw [HD.out, HSZ.out.1, HSZ.out.2.1, HSZ.out.2.2]
          exact ⟨_, U + 1, _, _, rfl, by omega, ((HR.out.far (by omega) _).far (by omega) _).far (by omega) _, ((hB.setCell (p := ⟨w.heap.size + 1, 0, none⟩) (by show w.heap.size ≤ w.heap.size + 1; omega) _).setCell (p := ⟨w.heap.size + 1, 1, none⟩) (by show w.heap.size ≤ w.heap.size + 1; omega) _).setCell (p := ⟨w.heap.size + 1, 2, none⟩) (by show w.heap.size ≤ w.heap.size + 1; omega) _⟩
    · have HD : Hid (sgB (n : Int) b = false) := Lib.hid (by
        rw [HSB.out, Bool.eq_false_iff]
        intro h
        rw [Bool.and_eq_true, decide_eq_true_eq, decide_eq_true_eq] at h
        exact hok ⟨h.1, by omega⟩)
      have hok' : z ≤ 1000 → 5 < (n : Int) := fun h => by omega
      clear HSB hok
      have HNO := Lib.hid (sg_no HD.out)
      rcases Int.lt_or_le 1000 z with hz1 | hz1
      · go_enter Try.func23, Try.ntmps23
        go_wp2_with (first
          | (go_at_call 68; refine (whGood_any _ _ _).mono ?_; rw [HG.out]; rintro e w1 ⟨rfl, hb1⟩
             have D1 := Lib.hid (HU.out.call hb1)
             have E1 := Lib.hid (HQ.out.call hb1)
             have B1 := Lib.hid (bel_call HB0.out hb1)
             have l0 : w1.cell? ⟨w.heap.size, 0, none⟩ = some (.int .i64 n) := D1.out.cell (show 0 < 2 by omega)
             have l1 : w1.cell? ⟨w.heap.size, 1, none⟩ = some (.int .i64 b) := D1.out.cell (show 1 < 2 by omega)
             clear hb1)
          | (go_at_call 69; refine (whCount_any _ _ _ HG.out).mono ?_; rw [HP.out]; rintro e w2 ⟨rfl, hb2⟩
             have E2 := Lib.hid (E1.out.call hb2)
             have B2 := Lib.hid (bel_call B1.out hb2)
             have q0 : w2.cell? ⟨w.heap.size + 1, 0, none⟩ = some (.int .i64 0) := E2.out.cell (show 0 < 3 by omega)
             have q1 : w2.cell? ⟨w.heap.size + 1, 1, none⟩ = some (.int .i64 0) := E2.out.cell (show 1 < 3 by omega)
             have q2 : w2.cell? ⟨w.heap.size + 1, 2, none⟩ = some (.slice none 0 0) := E2.out.cell (show 2 < 3 by omega)
             have f0 := E2.out.frozen (show 0 < 3 by omega)
             have f1 := E2.out.frozen (show 1 < 3 by omega)
             have f2 := E2.out.frozen (show 2 < 3 by omega)))
        refine bodyPost_ret (v := .tuple #[.agg #[.int .i64 0, .int .i64 0, .slice none 0 0], .bool false]) (by simp [results, Try.results23, go_sem, q0, q1, q2]) rfl ?_
        rw [HD.out, HNO.out.1, HNO.out.2.1, HNO.out.2.2]
        exact gears_none (((B2.out.setCell (p := ⟨w.heap.size + 1, 0, none⟩) (by show w.heap.size ≤ w.heap.size + 1; omega) _).setCell (p := ⟨w.heap.size + 1, 1, none⟩) (by show w.heap.size ≤ w.heap.size + 1; omega) _).setCell (p := ⟨w.heap.size + 1, 2, none⟩) (by show w.heap.size ≤ w.heap.size + 1; omega) _)
      · have hn5 := hok' hz1
        clear hok'
        go_enter Try.func23, Try.ntmps23
        go_wp2_with (first
          | (go_at_call 68; refine (whGood_any _ _ _).mono ?_; rw [HG.out]; rintro e w1 ⟨rfl, hb1⟩
             have D1 := Lib.hid (HU.out.call hb1)
             have E1 := Lib.hid (HQ.out.call hb1)
             have B1 := Lib.hid (bel_call HB0.out hb1)
             have l0 : w1.cell? ⟨w.heap.size, 0, none⟩ = some (.int .i64 n) := D1.out.cell (show 0 < 2 by omega)
             have l1 : w1.cell? ⟨w.heap.size, 1, none⟩ = some (.int .i64 b) := D1.out.cell (show 1 < 2 by omega)
             clear hb1)
          | (go_at_call 69; refine (whCount_any _ _ _ HG.out).mono ?_; rw [HP.out]; rintro e w2 ⟨rfl, hb2⟩
             have D2 := Lib.hid (D1.out.call hb2)
             have E2 := Lib.hid (E1.out.call hb2)
             have B2 := Lib.hid (bel_call B1.out hb2)
             clear l0 l1
             have l0 : w2.cell? ⟨w.heap.size, 0, none⟩ = some (.int .i64 n) := D2.out.cell (show 0 < 2 by omega)
             have q0 : w2.cell? ⟨w.heap.size + 1, 0, none⟩ = some (.int .i64 0) := E2.out.cell (show 0 < 3 by omega)
             have q1 : w2.cell? ⟨w.heap.size + 1, 1, none⟩ = some (.int .i64 0) := E2.out.cell (show 1 < 3 by omega)
             have q2 : w2.cell? ⟨w.heap.size + 1, 2, none⟩ = some (.slice none 0 0) := E2.out.cell (show 2 < 3 by omega)
             have f0 := E2.out.frozen (show 0 < 3 by omega)
             have f1 := E2.out.frozen (show 1 < 3 by omega)
             have f2 := E2.out.frozen (show 2 < 3 by omega)))
        refine bodyPost_ret (v := .tuple #[.agg #[.int .i64 0, .int .i64 0, .slice none 0 0], .bool false]) (by simp [results, Try.results23, go_sem, q0, q1, q2]) rfl ?_
        rw [HD.out, HNO.out.1, HNO.out.2.1, HNO.out.2.2]
        exact gears_none (((B2.out.setCell (p := ⟨w.heap.size + 1, 0, none⟩) (by show w.heap.size ≤ w.heap.size + 1; omega) _).setCell (p := ⟨w.heap.size + 1, 1, none⟩) (by show w.heap.size ≤ w.heap.size + 1; omega) _).setCell (p := ⟨w.heap.size + 1, 2, none⟩) (by show w.heap.size ≤ w.heap.size + 1; omega) _)
  · have HG := Lib.hid (Bool.eq_false_iff.2 hg)
    have HD : Hid (sgB a b = false) := Lib.hid (by unfold sgB; rw [HG.out]; rfl)
    have HNO := Lib.hid (sg_no HD.out)
    clear hg
    go_enter Try.func23, Try.ntmps23
    go_wp2_with (go_at_call 68; refine (whGood_any _ _ _).mono ?_; rw [HG.out]; rintro e w1 ⟨rfl, hb1⟩
                 have E1 := Lib.hid (HQ.out.call hb1)
                 have B1 := Lib.hid (bel_call HB0.out hb1)
                 have q0 : w1.cell? ⟨w.heap.size + 1, 0, none⟩ = some (.int .i64 0) := E1.out.cell (show 0 < 3 by omega)
                 have q1 : w1.cell? ⟨w.heap.size + 1, 1, none⟩ = some (.int .i64 0) := E1.out.cell (show 1 < 3 by omega)
                 have q2 : w1.cell? ⟨w.heap.size + 1, 2, none⟩ = some (.slice none 0 0) := E1.out.cell (show 2 < 3 by omega)
                 have f0 := E1.out.frozen (show 0 < 3 by omega)
                 have f1 := E1.out.frozen (show 1 < 3 by omega)
                 have f2 := E1.out.frozen (show 2 < 3 by omega))
    refine bodyPost_ret (v := .tuple #[.agg #[.int .i64 0, .int .i64 0, .slice none 0 0], .bool false]) (by simp [results, Try.results23, go_sem, q0, q1, q2]) rfl ?_
    rw [HD.out, HNO.out.1, HNO.out.2.1, HNO.out.2.2]
    exact gears_none (((B1.out.setCell (p := ⟨w.heap.size + 1, 0, none⟩) (by show w.heap.size ≤ w.heap.size + 1; omega) _).setCell (p := ⟨w.heap.size + 1, 1, none⟩) (by show w.heap.size ≤ w.heap.size + 1; omega) _).setCell (p := ⟨w.heap.size + 1, 2, none⟩) (by show w.heap.size ≤ w.heap.size + 1; omega) _)

end Go.Proofs.Ytejpcbkhlnjlfaa
