/- Rings raised: both programs' answers. No conditions, whatever the library's own variable holds. -/
import Derived.Test.YteolmplbgmfhmaaRk
import Derived.Test.YteolmplbgmfhmaaPair
namespace Go.Proofs.Yteolmplbgmfhmaa
open Go.ChangeShapes Go.WideShapes Go.ChangeAt Go.RowKit Go.Joins

def raB (a b : Int) (s : ByteArray) (x : Int) : Bool := ringB a b s && inB x 0 (b - 1)

def raL (b : Int) (s : ByteArray) (x : Int) : List Int := (dg s).map fun d => addI b d x

def raT (a b : Int) (s : ByteArray) (x : Int) : ByteArray := if raB a b s x then textOf (raL b s x) else ⟨#[]⟩

theorem ra_no {a b x : Int} {s : ByteArray} (h : raB a b s x = false) : raT a b s x = ⟨#[]⟩ := by unfold raT; rw [h]; rfl

theorem ra_yes {a b x : Int} {s : ByteArray} (h : raB a b s x = true) : raT a b s x = textOf (raL b s x) := by unfold raT; rw [h]; rfl

theorem raL_length (b : Int) (s : ByteArray) (x : Int) : (raL b s x).length = s.size := by unfold raL; rw [List.length_map, dg_length]

theorem raL_at {b x : Int} {s : ByteArray} {k : Nat} (h : k < s.size) : (raL b s x).getD k 0 = addI b ((dg s).getD k 0) x := by
  have : k < (dg s).length := by rw [dg_length]; exact h
  unfold raL
  simp [List.getD, List.getElem?_eq_getElem this]

theorem raL_digits {b x : Int} {s : ByteArray} (h2 : 2 ≤ b) (h10 : b ≤ 10) : Digits (raL b s x) := fun j hj => by
  rw [raL_length] at hj
  rw [raL_at hj]
  have := addI_bd h2 ((dg s).getD j 0) x
  omega

theorem raised1_any (n : Nat) (b d x : Int) (L Y : Nat) (w : World) (h2 : 2 ≤ b) (h10 : b ≤ 10) (hd : 0 ≤ d ∧ d ≤ 9) (hx : 0 ≤ x ∧ x ≤ 9) (c0 : w.cell? ⟨L, 0, none⟩ = some (.int .i64 n)) (c1 : w.cell? ⟨L, 1, none⟩ = some (.int .i64 b)) (cy : w.cell? ⟨Y, 0, none⟩ = some (.int .i64 x)) :
    Calls Try.prog 51 #[.int .i64 d, .pointer (some ⟨L, 0, none⟩), .pointer (some ⟨Y, 0, none⟩)] w fun e w' => e = .returned (.int .i64 (addI b d x)) ∧ Below w.heap.size w w' := by
  go_enter Try.func51, Try.ntmps51
  go_wp2_with (go_at_call 52; refine (sum_any _ _ _ _ _ h2 h10 (by omega) (by omega) (by omega)).mono ?_; rintro e w1 ⟨rfl, hb⟩)
  go_ret
  exact ⟨rfl, hb⟩

set_option maxRecDepth 100000 in
set_option maxHeartbeats 4000000 in
theorem replaceR_any (n : Nat) (b x : Int) (L Y : Nat) (s : ByteArray) (w : World) (h2 : 2 ≤ b) (h10 : b ≤ 10) (hx : 0 ≤ x ∧ x ≤ 9) (hsz : s.size ≤ 1000) (hd : Digits (dg s)) (c0 : w.cell? ⟨L, 0, none⟩ = some (.int .i64 n)) (c1 : w.cell? ⟨L, 1, none⟩ = some (.int .i64 b)) (cy : w.cell? ⟨Y, 0, none⟩ = some (.int .i64 x)) :
    Calls Try.prog 50 #[.string s, .func (.func 51) #[] #[.pointer (some ⟨L, 0, none⟩), .pointer (some ⟨Y, 0, none⟩)]] w fun e w' => e = .returned (.string (textOf (raL b s x))) ∧ Below w.heap.size w w' := by
  have HD := Lib.hid hd
  have hL := cell_lt c0
  have hY := cell_lt cy
  have C0 := Lib.hid c0
  have C1 := Lib.hid c1
  have CY := Lib.hid cy
  have HLEN := Lib.hid (raL_length b s x)
  have HAT := Lib.hid (fun k (hk : k < s.size) => (raL_at (b := b) (x := x) hk))
  have HDR := Lib.hid (raL_digits (s := s) (x := x) h2 h10)
  clear hd c0 c1 cy
  generalize raL b s x = Z at HLEN HAT HDR
  go_enter Try.func50, Try.ntmps50
  go_wp2_with (go_at_call 45; refine (digitsOf_any _ _ HD.out hsz).mono ?_; rintro e w1 ⟨g, c, rfl, hg, hC, hb⟩; have HC := Lib.hid hC; have HB := Lib.hid hb; clear hC hb)
  go_loopw [12] (fun i wr => ∃ k : Nat, k ≤ s.size ∧ i = .int .i64 k ∧ Cells wr g s.size (fun j => if j < k then digF Z j else digF (dg s) j) ∧ Below w.heap.size w wr) (fun i _ => s.size - (intOf i).toNat)
  case atStart => exact ⟨0, by omega, rfl, HC.out.congr (fun j _ => by simp), HB.out⟩
  case round =>
    obtain ⟨k, hk, rfl, hCr, hB⟩ := hrel
    have HCR := Lib.hid hCr
    clear hCr
    by_cases hlt : k < s.size
    · have o1 : wr.cell? ⟨g, k, none⟩ = some (.int .i64 ((dg s).getD k 0)) := by rw [HCR.out.cell hlt, if_neg (by omega)]; rfl
      have hdk := HD.out k (by rw [dg_length]; exact hlt)
      have HV := Lib.hid (HAT.out k hlt)
      have e0 : Hid (wr.cell? ⟨L, 0, none⟩ = some (.int .i64 n)) := Lib.hid (by rw [hB.cell (p := ⟨L, 0, none⟩) hL]; exact C0.out)
      have e1 : Hid (wr.cell? ⟨L, 1, none⟩ = some (.int .i64 b)) := Lib.hid (by rw [hB.cell (p := ⟨L, 1, none⟩) hL]; exact C1.out)
      have ey : Hid (wr.cell? ⟨Y, 0, none⟩ = some (.int .i64 x)) := Lib.hid (by rw [hB.cell (p := ⟨Y, 0, none⟩) hY]; exact CY.out)
      generalize (dg s).getD k 0 = d at o1 hdk HV
      go_wp2_with (go_at_call 51; refine (raised1_any n b d x L Y _ h2 h10 hdk hx e0.out e1.out ey.out).mono ?_; rintro e w3 ⟨rfl, hb3⟩; have h3 := Lib.hid (HCR.out.call hb3); have p1 := h3.out.cell hlt; have p2 := h3.out.frozen hlt)
      have HS := Lib.hid ((h3.out.set_ hlt (.int .i64 (addI b d x))).congr (f' := fun j => if j < k + 1 then digF Z j else digF (dg s) j) (fun j hj => by
        have hv : Value.int .i64 (addI b d x) = digF Z k := by rw [digF, HV.out]
        rw [hv]
        by_cases e : j = k
        · subst e; rw [if_pos rfl, if_pos (by omega)]
        · rw [if_neg e]
          by_cases e2 : j < k
          · rw [if_pos e2, if_pos (by omega)]
          · rw [if_neg e2, if_neg (by omega)]))
      go_roundw
      case rel => exact ⟨k + 1, by omega, by go_num, HS.out, (bel_call hB hb3).setCell hg _⟩
      case measure => simp [intOf]; omega
    · have HCC : Hid (Cells wr g s.size (digF Z)) := Lib.hid (HCR.out.congr (fun j hj => by rw [if_pos (by omega)]))
      go_wp2_with (go_at_call 47; refine (codeOf_n _ _ Z HLEN.out _ HCC.out HDR.out hsz).mono ?_; rintro e w4 ⟨rfl, hb4⟩)
      go_ret
      exact ⟨rfl, bel_call hB hb4⟩

set_option maxRecDepth 100000 in
set_option maxHeartbeats 4000000 in
theorem raisedRing_any (a b : Int) (s : ByteArray) (x : Int) (w : World) (hs : s.size ≤ maxLen) (hm : Mx w) :
    Calls Try.prog 26 #[.agg #[.int .i64 a, .int .i64 b], .string s, .int .i64 x] w fun e w' => e = .returned (.tuple #[.string (raT a b s x), .bool (raB a b s x)]) ∧ Below w.heap.size w w' := by
  have HS := Lib.hid hs
  have hml := hm.lt
  have HM := Lib.hid hm
  unfold maxLen at hs
  clear hm
  by_cases hr : ringB a b s = true
  · have HR := Lib.hid hr
    obtain ⟨n, rfl⟩ := ring_nat hr
    have hx := ring_of hr
    have hsz : s.size ≤ 1000 := by
      have := hx.size
      have := cn_le hx.ri
      omega
    obtain ⟨_, _, h2, h10⟩ := good_yes hx.good
    have HD := Lib.hid ((allD_low hx.digits).digits h10)
    clear hr hx
    by_cases hx : 0 ≤ x ∧ x ≤ b - 1
    · have HT : Hid (raB n b s x = true) := Lib.hid (by unfold raB inB; rw [HR.out, decide_eq_true hx]; rfl)
      have HY := Lib.hid (ra_yes HT.out)
      obtain ⟨hx0, hx1⟩ := hx
      go_enter Try.func26, Try.ntmps26
      go_wp2_with (first | (go_at_call 40; refine (hasRing_any _ _ _ _ HS.out (HM.out.below (B := w.heap.size) (by (repeat (first | assumption | exact Below.refl _ _ | (refine Below.alloc ?_ (by first | omega | (simp; done) | (simp; omega)) _) | (refine Below.setCell ?_ (by first | omega | (simp; done) | (simp; omega)) _) | refine bel_drewN ?_ _ | refine bel_drew ?_ | (refine bel_call ?_ (by assumption))))) hml)).mono ?_; rw [HR.out]; rintro e w1 ⟨rfl, hb⟩; have HB := Lib.hid (show Below w.heap.size w w1 from by (repeat (first | assumption | exact Below.refl _ _ | (refine Below.alloc ?_ (by first | omega | (simp; done) | (simp; omega)) _) | (refine Below.setCell ?_ (by first | omega | (simp; done) | (simp; omega)) _) | refine bel_drewN ?_ _ | refine bel_drew ?_ | (refine bel_call ?_ (by assumption))))); have m0 : w1.cell? ⟨w.heap.size, 0, none⟩ = some (.int .i64 n) := (by rw [hb.cell (p := ⟨w.heap.size, 0, none⟩) (by first | (simp; done) | (simp; omega))]; first | (simp; done) | (rw [World.cell?_alloc_lt _ _ _ (by simp)]; simp)); have m1 : w1.cell? ⟨w.heap.size, 1, none⟩ = some (.int .i64 b) := (by rw [hb.cell (p := ⟨w.heap.size, 1, none⟩) (by first | (simp; done) | (simp; omega))]; first | (simp; done) | (rw [World.cell?_alloc_lt _ _ _ (by simp)]; simp)); have my : w1.cell? ⟨w.heap.size + 1, 0, none⟩ = some (.int .i64 x) := (by rw [hb.cell (p := ⟨w.heap.size + 1, 0, none⟩) (by first | (simp; done) | (simp; omega))]; first | (simp; done) | (rw [World.cell?_alloc_lt _ _ _ (by simp)]; simp)); clear hb) | (go_at_call 50; refine (replaceR_any n b x _ _ s _ h2 h10 (by omega) hsz HD.out m0 m1 my).mono ?_; rintro e w2 ⟨rfl, hb2⟩; have HB2 := Lib.hid (bel_call HB.out hb2); clear hb2))
      go_ret2
      exact ⟨by rw [HY.out, HT.out]; rfl, HB2.out⟩
    · have HT : Hid (raB n b s x = false) := Lib.hid (by unfold raB inB; rw [decide_eq_false hx, Bool.and_false])
      have hx' : x < 0 ∨ (0 ≤ x ∧ b ≤ x) := by omega
      clear hx
      rcases hx' with hx' | ⟨hx1, hx2⟩
      all_goals
        go_enter Try.func26, Try.ntmps26
        go_wp2_with (go_at_call 40; refine (hasRing_any _ _ _ _ HS.out (HM.out.below (B := w.heap.size) (by (repeat (first | assumption | exact Below.refl _ _ | (refine Below.alloc ?_ (by first | omega | (simp; done) | (simp; omega)) _) | (refine Below.setCell ?_ (by first | omega | (simp; done) | (simp; omega)) _) | refine bel_drewN ?_ _ | refine bel_drew ?_ | (refine bel_call ?_ (by assumption))))) hml)).mono ?_; rw [HR.out]; rintro e w1 ⟨rfl, hb⟩; have HB := Lib.hid (show Below w.heap.size w w1 from by (repeat (first | assumption | exact Below.refl _ _ | (refine Below.alloc ?_ (by first | omega | (simp; done) | (simp; omega)) _) | (refine Below.setCell ?_ (by first | omega | (simp; done) | (simp; omega)) _) | refine bel_drewN ?_ _ | refine bel_drew ?_ | (refine bel_call ?_ (by assumption))))); have m0 : w1.cell? ⟨w.heap.size, 0, none⟩ = some (.int .i64 n) := (by rw [hb.cell (p := ⟨w.heap.size, 0, none⟩) (by first | (simp; done) | (simp; omega))]; first | (simp; done) | (rw [World.cell?_alloc_lt _ _ _ (by simp)]; simp)); have m1 : w1.cell? ⟨w.heap.size, 1, none⟩ = some (.int .i64 b) := (by rw [hb.cell (p := ⟨w.heap.size, 1, none⟩) (by first | (simp; done) | (simp; omega))]; first | (simp; done) | (rw [World.cell?_alloc_lt _ _ _ (by simp)]; simp)); have my : w1.cell? ⟨w.heap.size + 1, 0, none⟩ = some (.int .i64 x) := (by rw [hb.cell (p := ⟨w.heap.size + 1, 0, none⟩) (by first | (simp; done) | (simp; omega))]; first | (simp; done) | (rw [World.cell?_alloc_lt _ _ _ (by simp)]; simp)); clear hb)
        go_ret2
        exact ⟨by rw [ra_no HT.out, HT.out]; rfl, HB.out⟩
  · have HR := Lib.hid (Bool.eq_false_iff.2 hr)
    have HT : Hid (raB a b s x = false) := Lib.hid (by unfold raB; rw [HR.out]; rfl)
    clear hr
    go_enter Try.func26, Try.ntmps26
    go_wp2_with (go_at_call 40; refine (hasRing_any _ _ _ _ HS.out (HM.out.below (B := w.heap.size) (by (repeat (first | assumption | exact Below.refl _ _ | (refine Below.alloc ?_ (by first | omega | (simp; done) | (simp; omega)) _) | (refine Below.setCell ?_ (by first | omega | (simp; done) | (simp; omega)) _) | refine bel_drewN ?_ _ | refine bel_drew ?_ | (refine bel_call ?_ (by assumption))))) hml)).mono ?_; rw [HR.out]; rintro e w1 ⟨rfl, hb⟩; have HB := Lib.hid (show Below w.heap.size w w1 from by (repeat (first | assumption | exact Below.refl _ _ | (refine Below.alloc ?_ (by first | omega | (simp; done) | (simp; omega)) _) | (refine Below.setCell ?_ (by first | omega | (simp; done) | (simp; omega)) _) | refine bel_drewN ?_ _ | refine bel_drew ?_ | (refine bel_call ?_ (by assumption))))); clear hb)
    go_ret2
    exact ⟨by rw [ra_no HT.out, HT.out]; rfl, HB.out⟩

theorem raL_snoc {b x : Int} {s : ByteArray} {k : Nat} (h : k < s.size) : textOf ((raL b s x).take k) ++ strOfNums [48 + addI b ((dg s).getD k 0) x] = textOf ((raL b s x).take (k + 1)) := by
  rw [← textOf_snoc (raL b s x) (by rw [raL_length]; exact h), raL_at h]

set_option maxRecDepth 100000 in
set_option maxHeartbeats 4000000 in
theorem specRaisedRing_any (a b : Int) (s : ByteArray) (x : Int) (w : World) (hs : s.size ≤ maxLen) :
    Calls Try.prog 25 #[.agg #[.int .i64 a, .int .i64 b], .string s, .int .i64 x] w fun e w' => e = .returned (.tuple #[.string (raT a b s x), .bool (raB a b s x)]) ∧ Below w.heap.size w w' := by
  have HS := Lib.hid hs
  unfold maxLen at hs
  by_cases hg : riB a b = true
  · have HG := Lib.hid hg
    obtain ⟨n, rfl⟩ : ∃ n : Nat, a = n := ⟨a.toNat, by have := good_yes (riB_good hg); omega⟩
    clear hg
    by_cases hr : ringB n b s = true
    · have HR := Lib.hid hr
      have hx := ring_of hr
      have hge := cn_ge hx.good
      have hsz : s.size ≤ 1000 ∧ 0 < s.size := by
        have := hx.size
        have := cn_le hx.ri
        omega
      obtain ⟨hsz, hs0⟩ := hsz
      obtain ⟨_, _, h2, h10⟩ := good_yes hx.good
      have HD := Lib.hid ((allD_low hx.digits).digits h10)
      clear hr hx hge
      by_cases hx : inB x 0 (b - 1) = true
      · have HX := Lib.hid hx
        have HT : Hid (raB n b s x = true) := Lib.hid (by unfold raB; rw [HR.out, hx]; rfl)
        have HY := Lib.hid (ra_yes HT.out)
        obtain ⟨hx0, hx1⟩ := of_decide_eq_true hx
        clear hx
        go_enter Try.func25, Try.ntmps25
        go_wp2_with (first | (go_at_call 37; refine (riGood_any _ _ _).mono ?_; rw [HG.out]; rintro e w1 ⟨rfl, hb⟩; obtain ⟨hc, hf, hz⟩ := bcell hb; have hz0 : w.heap.size < w1.heap.size := by (try simp at hz); omega) | (go_at_call 38; refine (riRing_any _ _ _ _ HS.out HG.out).mono ?_; rw [HR.out]; rintro e w2 ⟨rfl, hb2⟩; have HB2 := Lib.hid (show Below w.heap.size w w2 from by (repeat (first | assumption | exact Below.refl _ _ | (refine Below.alloc ?_ (by first | omega | (simp; done) | (simp; omega)) _) | (refine Below.setCell ?_ (by first | omega | (simp; done) | (simp; omega)) _) | refine bel_drewN ?_ _ | refine bel_drew ?_ | (refine bel_call ?_ (by assumption))))); have z2 : w.heap.size < w2.heap.size := (by have := hb2.size; omega); have p1 : w2.cell? ⟨w.heap.size, 1, none⟩ = some (.int .i64 b) := (by rw [hb2.cell (p := ⟨w.heap.size, 1, none⟩) hz0, hb.cell (p := ⟨w.heap.size, 1, none⟩) (by simp)]; simp); clear hb2 hc hf hz hb) | (go_at_call 44; refine (l1In_any _ _ _ _).mono ?_; rw [HX.out]; rintro e w3 ⟨rfl, rfl⟩) | (go_at_call 48; refine (whDigits_any _ _ HD.out hsz hs0).mono ?_; rintro e w4 ⟨g, c, rfl, hgg, hC, hb4⟩; have HC := Lib.hid hC; have HB4 := Lib.hid (bel_call HB2.out hb4); have q1 : w4.cell? ⟨w.heap.size, 1, none⟩ = some (.int .i64 b) := (by rw [hb4.cell (p := ⟨w.heap.size, 1, none⟩) z2]; exact p1); have z4 : w.heap.size < w4.heap.size := (by have := hb4.size; omega); clear hC hb4))
        go_loopw [8, 31] (fun v i wr => ∃ k : Nat, k ≤ s.size ∧ i = .int .i64 k ∧ v = .string (textOf ((raL b s x).take k)) ∧ Cells wr g s.size (digF (dg s)) ∧ wr.cell? ⟨w.heap.size, 1, none⟩ = some (.int .i64 b) ∧ Below w.heap.size w wr ∧ w.heap.size < wr.heap.size) (fun _ i _ => s.size - (intOf i).toNat)
        case atStart => exact ⟨0, by omega, rfl, rfl, HC.out, q1, HB4.out, z4⟩
        case round =>
          clear q1 z4
          obtain ⟨k, hk, rfl, rfl, hCr, c1, hB, hz⟩ := hrel
          have HCR := Lib.hid hCr
          clear hCr
          by_cases hlt : k < s.size
          · have hct := HCR.out.cell hlt
            unfold digF at hct
            have hdk := HD.out k (by rw [dg_length]; exact hlt)
            have hsn := raL_snoc (b := b) (x := x) hlt
            have hsize : (textOf ((raL b s x).take k)).size ≤ 1000 := by rw [textOf_size, List.length_take]; omega
            generalize (dg s).getD k 0 = d at hct hdk hsn
            obtain ⟨d0, d9⟩ := hdk
            obtain ⟨v, hv⟩ : ∃ v, (d + x) % b = v := ⟨_, rfl⟩
            have hv0 : 0 ≤ v := by rw [← hv]; exact Int.emod_nonneg _ (by omega)
            have hv1 : v < b := by rw [← hv]; exact Int.emod_lt_of_pos _ (by omega)
            have hadd : ∀ W : World, (Op.stringOp .add (textOf ((raL b s x).take k)) (strOfNums [48 + v])).run Try.prog W = .ok (.string (textOf ((raL b s x).take (k + 1)))) W := fun W => by
              rw [run_string_add_sum _ _ _ (by rw [strOne_size]; omega), ← hsn]
              unfold addI
              rw [hv]
            clear hsn
            go_wp2_with (go_at_call 49; refine (l1Num_any _ _ (by omega) (by omega)).mono ?_; rintro e w5 ⟨rfl, hb5⟩)
            go_roundw
            case rel => exact ⟨k + 1, by omega, by go_num, rfl, HCR.out.call hb5, by rw [hb5.cell (p := ⟨w.heap.size, 1, none⟩) hz]; exact c1, bel_call hB hb5, Nat.lt_of_lt_of_le hz hb5.size⟩
            case measure => simp [intOf]; omega
          · have HF : Hid (textOf ((raL b s x).take k) = textOf (raL b s x)) := Lib.hid (textOf_all _ (by rw [raL_length]; omega))
            go_wp2
            go_ret2
            exact ⟨by rw [HT.out, HY.out, HF.out]; rfl, hB⟩
      · have HX := Lib.hid (Bool.eq_false_iff.2 hx)
        have HT : Hid (raB n b s x = false) := Lib.hid (by unfold raB; rw [HX.out, Bool.and_false])
        clear hx
        go_enter Try.func25, Try.ntmps25
        go_wp2_with (first | (go_at_call 37; refine (riGood_any _ _ _).mono ?_; rw [HG.out]; rintro e w1 ⟨rfl, hb⟩; obtain ⟨hc, hf, hz⟩ := bcell hb; have hz0 : w.heap.size < w1.heap.size := by (try simp at hz); omega) | (go_at_call 38; refine (riRing_any _ _ _ _ HS.out HG.out).mono ?_; rw [HR.out]; rintro e w1 ⟨rfl, hb⟩; obtain ⟨hc, hf, hz⟩ := bcell hb; have hz0 : w.heap.size < w1.heap.size := by (try simp at hz); omega) | (go_at_call 44; refine (l1In_any _ _ _ _).mono ?_; rw [HX.out]; rintro e w3 ⟨rfl, rfl⟩))
        go_ret2
        refine ⟨by rw [ra_no HT.out, HT.out]; rfl, ?_⟩
        (repeat (first | assumption | exact Below.refl _ _ | (refine Below.alloc ?_ (by first | omega | (simp; done) | (simp; omega)) _) | (refine Below.setCell ?_ (by first | omega | (simp; done) | (simp; omega)) _) | refine bel_drewN ?_ _ | refine bel_drew ?_ | (refine bel_call ?_ (by assumption))))
    · have HR := Lib.hid (Bool.eq_false_iff.2 hr)
      have HT : Hid (raB n b s x = false) := Lib.hid (by unfold raB; rw [HR.out]; rfl)
      clear hr
      go_enter Try.func25, Try.ntmps25
      go_wp2_with (first | (go_at_call 37; refine (riGood_any _ _ _).mono ?_; rw [HG.out]; rintro e w1 ⟨rfl, hb⟩; obtain ⟨hc, hf, hz⟩ := bcell hb; have hz0 : w.heap.size < w1.heap.size := by (try simp at hz); omega) | (go_at_call 38; refine (riRing_any _ _ _ _ HS.out HG.out).mono ?_; rw [HR.out]; rintro e w1 ⟨rfl, hb⟩; obtain ⟨hc, hf, hz⟩ := bcell hb; have hz0 : w.heap.size < w1.heap.size := by (try simp at hz); omega))
      go_ret2
      refine ⟨by rw [ra_no HT.out, HT.out]; rfl, ?_⟩
      (repeat (first | assumption | exact Below.refl _ _ | (refine Below.alloc ?_ (by first | omega | (simp; done) | (simp; omega)) _) | (refine Below.setCell ?_ (by first | omega | (simp; done) | (simp; omega)) _) | refine bel_drewN ?_ _ | refine bel_drew ?_ | (refine bel_call ?_ (by assumption))))
  · have HG := Lib.hid (Bool.eq_false_iff.2 hg)
    have HT : Hid (raB a b s x = false) := Lib.hid (by unfold raB; rw [ringB_no HG.out]; rfl)
    clear hg
    go_enter Try.func25, Try.ntmps25
    go_wp2_with (go_at_call 37; refine (riGood_any _ _ _).mono ?_; rw [HG.out]; rintro e w1 ⟨rfl, hb⟩; obtain ⟨hc, hf, hz⟩ := bcell hb; have hz0 : w.heap.size < w1.heap.size := by (try simp at hz); omega)
    go_ret2
    refine ⟨by rw [ra_no HT.out, HT.out]; rfl, ?_⟩
    (repeat (first | assumption | exact Below.refl _ _ | (refine Below.alloc ?_ (by first | omega | (simp; done) | (simp; omega)) _) | (refine Below.setCell ?_ (by first | omega | (simp; done) | (simp; omega)) _) | refine bel_drewN ?_ _ | refine bel_drew ?_ | (refine bel_call ?_ (by assumption))))

end Go.Proofs.Yteolmplbgmfhmaa
