/- Rings told backwards: both programs' answers. No conditions, whatever the library's own variable holds. -/
import Derived.Test.YteolmplbgmfhmaaRb
namespace Go.Proofs.Yteolmplbgmfhmaa
open Go.ChangeShapes Go.WideShapes Go.ChangeAt Go.RowKit Go.Joins

def bkT (a b : Int) (s : ByteArray) : ByteArray := if ringB a b s then textOf (dg s).reverse else ⟨#[]⟩

theorem bk_no {a b : Int} {s : ByteArray} (h : ringB a b s = false) : bkT a b s = ⟨#[]⟩ := by unfold bkT; rw [h]; rfl

theorem bk_yes {a b : Int} {s : ByteArray} (h : ringB a b s = true) : bkT a b s = textOf (dg s).reverse := by unfold bkT; rw [h]; rfl

theorem rev_at (xs : List Int) {j : Nat} (h : j < xs.length) : xs.reverse.getD j 0 = xs.getD (xs.length - 1 - j) 0 := by
  rw [List.getD, List.getD, List.getElem?_reverse h]

theorem rev_digits {xs : List Int} (h : Digits xs) : Digits xs.reverse := fun j hj => by
  rw [List.length_reverse] at hj
  rw [rev_at xs hj]
  exact h _ (by omega)

/-- What the library leaves of a list told backwards. -/
theorem set_cells {w : World} {g n : Nat} {f : Nat → Value} {ys : List Int} {q : Nat} (h : Cells w g n f) (hl : ys.length = n) :
    Cells ((w.drewN q).setCells g 0 (ys.map (Value.int .i64))) g n (digF ys) := by
  have hlen : (ys.map (Value.int .i64)).length = n := by rw [List.length_map]; exact hl
  have hb : Below 0 w ((w.drewN q).setCells g 0 (ys.map (Value.int .i64))) := Go.Lib.below_setCells g (Nat.zero_le _) _ _ (bel_drewN (Below.refl 0 w) q)
  refine ⟨Nat.lt_of_lt_of_le h.lt hb.size, fun j hj => ?_⟩
  have hin := World.cell?_setCells_in g (ys.map (Value.int .i64)) 0 (w.drewN q) (fun i hi => by
    rw [hlen] at hi
    have : (w.drewN q).cell? ⟨g, 0 + i, none⟩ = some (f i) := by rw [Nat.zero_add]; exact (h.drewN q).cell hi
    rw [this]; rfl) j (by rw [hlen]; exact hj)
  rw [Nat.zero_add] at hin
  refine ⟨?_, ?_⟩
  · rw [hin]
    unfold digF
    simp [List.getD, List.getElem?_eq_getElem (show j < ys.length by omega)]
  · rw [World.frozen?_setCells]
    exact (h.drewN q).frozen hj

theorem rev_cells {w : World} {g n : Nat} {zs : List Int} {q : Nat} (h : Cells w g n (digF zs)) (hl : zs.length = n) :
    Cells ((w.drewN q).setCells g 0 ((zs.take n).reverse.map (Value.int .i64))) g n (digF zs.reverse) := by
  rw [List.take_of_length_le (by omega)]
  exact set_cells h (by rw [List.length_reverse]; exact hl)

set_option maxRecDepth 100000 in
set_option maxHeartbeats 4000000 in
theorem backRing_any (a b : Int) (s : ByteArray) (w : World) (hs : s.size ≤ maxLen) (hm : Mx w) :
    Calls Try.prog 24 #[.agg #[.int .i64 a, .int .i64 b], .string s] w fun e w' => e = .returned (.tuple #[.string (bkT a b s), .bool (ringB a b s)]) ∧ Below w.heap.size w w' := by
  have HS := Lib.hid hs
  have hml := hm.lt
  have HM := Lib.hid hm
  unfold maxLen at hs
  clear hm
  by_cases hr : ringB a b s = true
  · have HR := Lib.hid hr
    obtain ⟨n, rfl⟩ := ring_nat hr
    have hx := ring_of hr
    have hsz : s.size ≤ 1000 := by
      have := hx.size
      have := cn_le hx.ri
      omega
    have h10 := (good_yes hx.good).2.2.2
    have HD := Lib.hid ((allD_low hx.digits).digits h10)
    have HT := Lib.hid (bk_yes hr)
    have HL : Hid ((dg s).length = s.size) := Lib.hid (dg_length s)
    clear hr hx
    go_enter Try.func24, Try.ntmps24
    go_wp2_with (first | (go_at_call 40; refine (hasRing_any _ _ _ _ HS.out (HM.out.below ((Below.refl _ _).alloc (Nat.le_refl _) _) hml)).mono ?_; rw [HR.out]; rintro e w1 ⟨rfl, hb⟩; have HB := Lib.hid (show Below w.heap.size w w1 from bel_call ((Below.refl _ _).alloc (Nat.le_refl _) _) hb); have hw1 := HB.out.size; clear hb) | (go_at_call 45; refine (digitsOf_any _ _ HD.out hsz).mono ?_; rintro e w2 ⟨g, c, rfl, hg, hC, hb⟩; have HC := Lib.hid hC; have HB2 := Lib.hid (bel_call HB.out hb); have hz := HB2.out.size; clear hC hb) | (go_at_call 46; refine (Try.slices_Reverse_int_cells g 0 s.size c (dg s) _ (by rw [HL.out]; exact Nat.le_refl _) (by omega) (fun j hj => by rw [Nat.zero_add]; exact HC.out.cell (by rw [HL.out] at hj; exact hj)) (fun j hj => by rw [Nat.zero_add]; exact HC.out.frozen hj)).mono ?_; rintro e w3 ⟨rfl, q, hw3⟩; have HB3 := Lib.hid (show Below w.heap.size w w3 from (by rw [hw3]; exact Go.Lib.below_setCells g (by omega) _ _ (bel_drewN HB2.out q))); have HC3 := Lib.hid (show Cells w3 g s.size (digF (dg s).reverse) from (by rw [hw3]; exact rev_cells HC.out HL.out)); clear hw3) | (go_at_call 47; refine (codeOf_n _ _ (dg s).reverse (by rw [List.length_reverse]; exact HL.out) _ HC3.out (rev_digits HD.out) hsz).mono ?_; rintro e w4 ⟨rfl, hb4⟩; have HB4 := Lib.hid (bel_call HB3.out hb4); clear hb4))
    go_ret2
    exact ⟨by rw [HT.out, HR.out]; rfl, HB4.out⟩
  · have HR := Lib.hid (Bool.eq_false_iff.2 hr)
    clear hr
    go_enter Try.func24, Try.ntmps24
    go_wp2_with (go_at_call 40; refine (hasRing_any _ _ _ _ HS.out (HM.out.below ((Below.refl _ _).alloc (Nat.le_refl _) _) hml)).mono ?_; rw [HR.out]; rintro e w1 ⟨rfl, hb⟩; obtain ⟨hc, hf, hz⟩ := bcell hb; have hz0 : w.heap.size < w1.heap.size := by (try simp at hz); omega)
    go_ret2
    refine ⟨by rw [bk_no HR.out, HR.out]; rfl, ?_⟩
    (repeat (first | assumption | exact Below.refl _ _ | (refine Below.alloc ?_ (by first | omega | (simp; done) | (simp; omega)) _) | (refine Below.setCell ?_ (by first | omega | (simp; done) | (simp; omega)) _) | refine bel_drewN ?_ _ | refine bel_drew ?_ | (refine bel_call ?_ (by assumption))))

theorem dg_ext {s : ByteArray} (h : Digits (dg s)) {i : Nat} (hi : i < s.size) : s.extract i (i + 1) = textOf [(dg s).getD i 0] := by
  refine bytes_ext ?_
  have e : s[i] = s.data.toList[i]'(by simpa using hi) := rfl
  have h2 := sbT_list s i 1
  unfold sbT at h2
  rw [h2, textOf_list, dg_at hi]
  have h3 := (digits_at h hi).1
  have h4 : byt ((s[i].toNat : Int) - 48) = s[i] := by
    unfold byt
    rw [show (48 + ((s[i].toNat : Int) - 48)).toNat = s[i].toNat by omega]
    exact UInt8.ofNat_toNat
  show _ = [byt ((s[i].toNat : Int) - 48)]
  rw [h4, e]
  have hl : i < s.data.toList.length := by rw [bytes_len]; exact hi
  rw [List.drop_eq_getElem_cons hl]
  rfl

theorem rev_step (xs : List Int) {i : Nat} (hi : i < xs.length) : (xs.drop i).reverse = (xs.drop (i + 1)).reverse ++ [xs.getD i 0] := by
  rw [List.drop_eq_getElem_cons hi, List.reverse_cons, List.getD, List.getElem?_eq_getElem hi, Option.getD_some]

set_option maxRecDepth 100000 in
set_option maxHeartbeats 4000000 in
theorem specBackRing_any (a b : Int) (s : ByteArray) (w : World) (hs : s.size ≤ maxLen) :
    Calls Try.prog 23 #[.agg #[.int .i64 a, .int .i64 b], .string s] w fun e w' => e = .returned (.tuple #[.string (bkT a b s), .bool (ringB a b s)]) ∧ Below w.heap.size w w' := by
  have HS := Lib.hid hs
  unfold maxLen at hs
  by_cases hg : riB a b = true
  · have HG := Lib.hid hg
    obtain ⟨n, rfl⟩ : ∃ n : Nat, a = n := ⟨a.toNat, by have := good_yes (riB_good hg); omega⟩
    clear hg
    by_cases hr : ringB n b s = true
    · have HR := Lib.hid hr
      have hx := ring_of hr
      have hsz : s.size ≤ 1000 := by
        have := hx.size
        have := cn_le hx.ri
        omega
      have h10 := (good_yes hx.good).2.2.2
      have HD := Lib.hid ((allD_low hx.digits).digits h10)
      have HT := Lib.hid (bk_yes hr)
      have HL : Hid ((dg s).length = s.size) := Lib.hid (dg_length s)
      clear hr hx
      go_enter Try.func23, Try.ntmps23
      go_wp2_with (first | (go_at_call 37; refine (riGood_any _ _ _).mono ?_; rw [HG.out]; rintro e w1 ⟨rfl, hb⟩; obtain ⟨hc, hf, hz⟩ := bcell hb; have hz0 : w.heap.size < w1.heap.size := by (try simp at hz); omega) | (go_at_call 38; refine (riRing_any _ _ _ _ HS.out HG.out).mono ?_; rw [HR.out]; rintro e w2 ⟨rfl, hb2⟩; have HB2 := Lib.hid (show Below w.heap.size w w2 from by (repeat (first | assumption | exact Below.refl _ _ | (refine Below.alloc ?_ (by first | omega | (simp; done) | (simp; omega)) _) | (refine Below.setCell ?_ (by first | omega | (simp; done) | (simp; omega)) _) | refine bel_drewN ?_ _ | refine bel_drew ?_ | (refine bel_call ?_ (by assumption)))))))
      go_loopw [6, 7] (fun v i wr => ∃ k : Nat, k ≤ s.size ∧ i = .int .i64 ((k : Int) - 1) ∧ v = .string (textOf ((dg s).drop k).reverse) ∧ Below w.heap.size w wr) (fun _ i _ => (intOf i + 1).toNat)
      case atStart => exact ⟨s.size, by omega, rfl, by rw [List.drop_of_length_le (by rw [HL.out]; exact Nat.le_refl _)]; rfl, HB2.out⟩
      case round =>
        obtain ⟨k, hk, rfl, rfl, hB⟩ := hrel
        rcases k with _ | i
        · go_wp2
          go_ret2
          exact ⟨by rw [HT.out, HR.out]; rfl, hB⟩
        · rw [show ((i + 1 : Nat) : Int) - 1 = (i : Int) by omega]
          have hi : i < (dg s).length := by rw [HL.out]; omega
          have hadd : ∀ W : World, (Op.stringOp .add (textOf ((dg s).drop (i + 1)).reverse) (s.extract i (i + 1))).run Try.prog W = .ok (.string (textOf ((dg s).drop i).reverse)) W := fun W => by
            rw [run_string_add_sum _ _ _ (by rw [textOf_size, List.length_reverse, List.length_drop, ByteArray.size_extract, HL.out]; omega), dg_ext HD.out (by omega), ← textOf_append, ← rev_step (dg s) hi]
          have HL2 := Lib.hid hi
          clear hi
          go_wp2
          go_roundw
          case rel => exact ⟨i, by omega, rfl, rfl, hB⟩
          case measure => simp [intOf]
    · have HR := Lib.hid (Bool.eq_false_iff.2 hr)
      clear hr
      go_enter Try.func23, Try.ntmps23
      go_wp2_with (first | (go_at_call 37; refine (riGood_any _ _ _).mono ?_; rw [HG.out]; rintro e w1 ⟨rfl, hb⟩; obtain ⟨hc, hf, hz⟩ := bcell hb; have hz0 : w.heap.size < w1.heap.size := by (try simp at hz); omega) | (go_at_call 38; refine (riRing_any _ _ _ _ HS.out HG.out).mono ?_; rw [HR.out]; rintro e w1 ⟨rfl, hb⟩; obtain ⟨hc, hf, hz⟩ := bcell hb; have hz0 : w.heap.size < w1.heap.size := by (try simp at hz); omega))
      go_ret2
      refine ⟨by rw [bk_no HR.out, HR.out]; rfl, ?_⟩
      (repeat (first | assumption | exact Below.refl _ _ | (refine Below.alloc ?_ (by first | omega | (simp; done) | (simp; omega)) _) | (refine Below.setCell ?_ (by first | omega | (simp; done) | (simp; omega)) _) | refine bel_drewN ?_ _ | refine bel_drew ?_ | (refine bel_call ?_ (by assumption))))
  · have HG := Lib.hid (Bool.eq_false_iff.2 hg)
    have HR := Lib.hid (ringB_no (s := s) HG.out)
    clear hg
    go_enter Try.func23, Try.ntmps23
    go_wp2_with (go_at_call 37; refine (riGood_any _ _ _).mono ?_; rw [HG.out]; rintro e w1 ⟨rfl, hb⟩; obtain ⟨hc, hf, hz⟩ := bcell hb; have hz0 : w.heap.size < w1.heap.size := by (try simp at hz); omega)
    go_ret2
    refine ⟨by rw [bk_no HR.out, HR.out]; rfl, ?_⟩
    (repeat (first | assumption | exact Below.refl _ _ | (refine Below.alloc ?_ (by first | omega | (simp; done) | (simp; omega)) _) | (refine Below.setCell ?_ (by first | omega | (simp; done) | (simp; omega)) _) | refine bel_drewN ?_ _ | refine bel_drew ?_ | (refine bel_call ?_ (by assumption))))

end Go.Proofs.Yteolmplbgmfhmaa
