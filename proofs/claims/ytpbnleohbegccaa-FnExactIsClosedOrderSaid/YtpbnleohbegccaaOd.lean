/- The forth and back order: the code with a rank, as both programs make it. No conditions. -/
import Derived.Test.YtpbnleohbegccaaOc
import Derived.Deep.RegionLaw
namespace Go.Proofs.Ytpbnleohbegccaa
open Go.ChangeShapes Go.WideShapes Go.ChangeAt Go.RowKit Go.Joins

theorem orL_digits {f : Int → Int → Int} {b x : Int} {n : Nat} (hb : b ≤ 10) (h : ∀ q, 0 ≤ f b q ∧ f b q < b) : Digits (orL f b x n) := fun j hj => by
  rw [orL_length] at hj
  rw [orL_at hj]
  have := h (x / pw b (n - 1 - j))
  omega

theorem iv_snoc {ds : List Int} {k : Nat} (hk : k < ds.length) : iv (ds.take (k + 1)) = iv (ds.take k) ++ [.int .i64 (ds.getD k 0)] := by
  unfold iv; rw [List.take_succ_eq_append_getElem hk, List.map_append]
  simp [List.getD, List.getElem?_eq_getElem hk]

theorem news_one {W : World} {v : Value} {t : TypeId} {g : Nat} (hg : g = W.heap.size) : ∀ j u, ([v] : List Value)[j]? = some u → (W.alloc (.cells #[v] t)).cell? ((⟨g, 0, none⟩ : Addr).add j) = some u := by
  intro j u hj
  subst hg
  match j, hj with
  | 0, hj => simp at hj; subst hj; simp [Addr.add]

/-- One wheel of it, as the model reckons it. -/
theorem fo_round {b x : Int} {n k : Nat} (h2 : 2 ≤ b) (hk : k < n) :
    (orL foI b x n).getD k 0 = (if (x / pw b (n - k)) % 2 = 1 then b - 1 - (digL b x n).getD k 0 else (digL b x n).getD k 0) ∧
    x / pw b (n - (k + 1)) = (x / pw b (n - k)) * b + (digL b x n).getD k 0 := by
  rw [orL_at hk, digL_at hk, show n - k = (n - (k + 1)) + 1 by omega, show n - 1 - k = n - (k + 1) by omega, div_pw h2]
  refine ⟨rfl, ?_⟩
  have := Int.mul_ediv_add_emod (x / pw b (n - (k + 1))) b
  rw [Int.mul_comm] at this
  exact this.symm

theorem isBackwards_any (d : Int) (w : World) (h0 : 0 ≤ d) (_ : d ≤ 10) :
    Calls Try.prog 67 #[.int .i64 d] w fun e w' => e = .returned (.bool (decide (d % 2 = 1))) ∧ w' = w := by
  have ht : d.tmod 2 = d % 2 := Int.tmod_eq_emod_of_nonneg h0
  go_enter Try.func67, Try.ntmps67
  go_wp2
  go_ret
  refine ⟨ret_bool ?_, rfl⟩
  first | rfl | (rw [Bool.eq_iff_iff]; simp; omega)

set_option maxRecDepth 100000 in
set_option maxHeartbeats 4000000 in
theorem orForth_any (n : Nat) (b x : Int) (w : World) (hg : goodB n b = true) (h0 : 0 ≤ x) (hx : x < pw b n) :
    Calls Try.prog 65 #[.agg #[.int .i64 n, .int .i64 b], .int .i64 x] w fun e w' => e = .returned (.string (textOf (orL foI b x n))) ∧ Below w.heap.size w w' := by
  have HG := Lib.hid hg
  obtain ⟨h1, h6, h2, h10⟩ := good_yes hg
  obtain ⟨p1, p2⟩ := pw_bd6 h2 h10 (k := n) (by omega)
  have hDD := digL_digits (x := x) (n := n) h2 h10
  obtain ⟨s, hs⟩ : ∃ s, textOf (digL b x n) = s := ⟨_, rfl⟩
  have HS := Lib.hid hs
  have hsz : s.size = n := by rw [← hs, textOf_size, digL_length]
  have HDG : Hid (dg s = digL b x n) := Lib.hid (by rw [← hs]; exact dg_textOf hDD)
  have HD : Hid (Digits (dg s)) := Lib.hid (by rw [HDG.out]; exact hDD)
  have HSZ := Lib.hid hsz
  obtain ⟨i0, hi, hz0, hz1, hz2⟩ := info_parts info_int
  clear hg hDD hs hsz
  go_enter Try.func65, Try.ntmps65
  go_wp2_with (first
    | (go_at_call 97; refine (whOf_any _ _ _ _ HG.out h0 (by omega)).mono ?_; rw [HS.out]; rintro e w1 ⟨rfl, hb1⟩; have z1 : w.heap.size < w1.heap.size := (by have := hb1.size; simp at this; omega); have m1 : w1.cell? ⟨w.heap.size, 1, none⟩ = some (.int .i64 b) := (hb1.cell (p := ⟨w.heap.size, 1, none⟩) (by simp)).trans (by simp); have HB1 := Lib.hid (show Below w.heap.size w w1 from bel_call ((Below.refl _ _).alloc (Nat.le_refl _) _) hb1); clear hb1)
    | (go_at_call 70; refine (whDigits_any _ _ HD.out (by rw [HSZ.out]; omega) (by rw [HSZ.out]; omega)).mono ?_; rw [HSZ.out, HDG.out]; rintro e w2 ⟨g, c, rfl, hgg, hC, hb2⟩; have m2 : w2.cell? ⟨w.heap.size, 1, none⟩ = some (.int .i64 b) := (hb2.cell (p := ⟨w.heap.size, 1, none⟩) z1).trans m1; have HB2 := Lib.hid (show Below w.heap.size w w2 from bel_call HB1.out hb2); have z2 := hb2.size; have HC := Lib.hid hC; have zg := hC.lt; clear hb2 hC m1))
  have hz : w.heap.size < w2.heap.size := by omega
  go_loopw [6, 7, 16] (fun q v i wr => ∃ k : Nat, k ≤ n ∧ i = .int .i64 k ∧ q = .int .i64 (x / pw b (n - k)) ∧ wr.ownsRow w2.heap.size 3 1 v k (iv ((orL foI b x n).take k)) ∧ Below w2.heap.size w2 wr) (fun _ _ i _ => n - (intOf i).toNat)
  case atStart => exact ⟨0, by omega, rfl, by rw [Nat.sub_zero, Int.ediv_eq_zero_of_lt h0 hx], World.ownsRow_nil _ _ _ _, Below.refl _ _⟩
  case round =>
    obtain ⟨k, hk, rfl, rfl, hown, hB⟩ := hrel
    have HO := Lib.hid hown
    clear hown
    by_cases hlt : k < n
    · have hcg := (HC.out.below hB zg).cell hlt
      unfold digF at hcg
      have m3 := (hB.cell (p := ⟨w.heap.size, 1, none⟩) hz).trans m2
      obtain ⟨q0, q1⟩ := quot_bd (x := x) (k := n - k) h2 h10 (by omega) h0
      obtain ⟨e1, e2⟩ := fo_round (x := x) h2 hlt
      have hdl : 0 ≤ (digL b x n).getD k 0 ∧ (digL b x n).getD k 0 < b := by
        rw [digL_at hlt]; exact ⟨Int.emod_nonneg _ (by omega), Int.emod_lt_of_pos _ (by omega)⟩
      have q2 := quot_bd (x := x) (k := n - (k + 1)) h2 h10 (by omega) h0
      rw [e2] at q2
      have HSN := Lib.hid (iv_snoc (ds := orL foI b x n) (k := k) (by rw [orL_length]; exact hlt))
      have E1 := Lib.hid e1
      have E2 := Lib.hid e2
      clear e1 e2
      have hk1 : IntKind.i64.wrap (k : Int) = (k : Int) := IntWalk.i64_in _ (by omega)
      have HDV := Lib.hid (show digF (digL b x n) k = .int .i64 ((digL b x n).getD k 0) from rfl)
      generalize (digL b x n).getD k 0 = d at hcg hdl E1 E2 q2 HDV
      generalize hqq : x / pw b (n - k) = q at q0 q1 E1 E2 q2
      obtain ⟨d0, d1⟩ := hdl
      obtain ⟨q3, q4⟩ := q2
      clear hqq
      have hmul : 0 ≤ q * b := Int.mul_nonneg q0 (by omega)
      have hw1 : IntKind.i64.wrap (q * b) = q * b := IntWalk.i64_in _ (by omega)
      have hw2 : IntKind.i64.wrap (q * b + d) = q * b + d := IntWalk.i64_in _ (by omega)
      have ht : q.tmod 2 = q % 2 := Int.tmod_eq_emod_of_nonneg q0
      by_cases hq : q % 2 = 1
      · have HE : Hid ((orL foI b x n).getD k 0 = b - 1 - d) := Lib.hid (by rw [E1.out, if_pos hq])
        rw [hq] at ht
        go_wp2_with (at_builtin; refine wpList_append_own _ rfl _ _ 43 rfl w2.heap.size 3 i0 (.int .i64 0) 1 8 Try.underlying43 hi hz0 hz1 hz2 rfl (by decide) _ _ _ rfl (HO.out.alloc _) ⟨wr.heap.size, 0, none⟩ 1 1 [.int .i64 (b - 1 - d)] rfl rfl (news_one rfl) (by simp [Value.oneCell']) (by unfold maxLen; omega) (by omega) (by have := hB.size; simp; omega) ?_; intro v' w4 hown' hgrow _; obtain ⟨g', cap', rfl, _, _⟩ := hown'.form (by omega); have HO4 := Lib.hid (show w4.ownsRow w2.heap.size 3 1 (.slice (some ⟨g', 0, none⟩) (k + 1) cap') (k + 1) (iv ((orL foI b x n).take (k + 1))) by rw [HSN.out, HE.out]; exact hown'); have HB4 := Lib.hid ((hB.alloc hB.size (.cells #[.int .i64 (b - 1 - d)] 3)).grown hgrow (by have := hB.size; simp; omega) (fun j hj => (HO.out.lt j hj).1)); have c4 := (HC.out.below HB4.out zg).cell hlt; rw [HDV.out] at c4; have m4 := (HB4.out.cell (p := ⟨w.heap.size, 1, none⟩) hz).trans m2; clear hown' hgrow)
        go_wp2_with fail
        go_quiet (fail)
        go_wp2_with fail
        go_roundw
        case rel => exact ⟨k + 1, by omega, by go_num, by rw [E2.out], HO4.out, bel_drewN HB4.out _⟩
        case measure => simp [intOf]; omega
      · have HE : Hid ((orL foI b x n).getD k 0 = d) := Lib.hid (by rw [E1.out, if_neg hq])
        rw [show q % 2 = 0 by omega] at ht
        go_wp2_with (at_builtin; refine wpList_append_own _ rfl _ _ 43 rfl w2.heap.size 3 i0 (.int .i64 0) 1 8 Try.underlying43 hi hz0 hz1 hz2 rfl (by decide) _ _ _ rfl (HO.out.alloc _) ⟨wr.heap.size, 0, none⟩ 1 1 [.int .i64 d] rfl rfl (news_one rfl) (by simp [Value.oneCell']) (by unfold maxLen; omega) (by omega) (by have := hB.size; simp; omega) ?_; intro v' w4 hown' hgrow _; obtain ⟨g', cap', rfl, _, _⟩ := hown'.form (by omega); have HO4 := Lib.hid (show w4.ownsRow w2.heap.size 3 1 (.slice (some ⟨g', 0, none⟩) (k + 1) cap') (k + 1) (iv ((orL foI b x n).take (k + 1))) by rw [HSN.out, HE.out]; exact hown'); have HB4 := Lib.hid ((hB.alloc hB.size (.cells #[.int .i64 d] 3)).grown hgrow (by have := hB.size; simp; omega) (fun j hj => (HO.out.lt j hj).1)); have c4 := (HC.out.below HB4.out zg).cell hlt; rw [HDV.out] at c4; have m4 := (HB4.out.cell (p := ⟨w.heap.size, 1, none⟩) hz).trans m2; clear hown' hgrow)
        go_wp2_with fail
        go_quiet (fail)
        go_wp2_with fail
        go_roundw
        case rel => exact ⟨k + 1, by omega, by go_num, by rw [E2.out], HO4.out, bel_drewN HB4.out _⟩
        case measure => simp [intOf]; omega
    · obtain rfl : k = n := by omega
      have ho := HO.out
      rw [List.take_of_length_le (by rw [orL_length]; omega)] at ho
      obtain ⟨g2, c2, rfl, hg2, hC2⟩ := own_cells ho (by omega)
      have HC2 := Lib.hid hC2
      clear hC2 ho
      go_wp2_with (go_at_call 98; refine (whText_n _ _ (orL foI b x k) (orL_length _ _ _ _) _ HC2.out (orL_digits h10 (foI_bd h2)) (by omega)).mono ?_; rintro e w3 ⟨rfl, hb3⟩)
      go_ret
      exact ⟨rfl, bel_call (HB2.out.trans (hB.mono (Nat.le_of_lt hz))) hb3⟩

end Go.Proofs.Ytpbnleohbegccaa
