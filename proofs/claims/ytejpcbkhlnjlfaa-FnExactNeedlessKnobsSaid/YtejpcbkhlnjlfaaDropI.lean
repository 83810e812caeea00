/- Gears without a knob, as the program makes them. For at most 1048576 numbers, where the slice's room holds its lists. -/
import Derived.Test.YtejpcbkhlnjlfaaNewG
namespace Go.Proofs.Ytejpcbkhlnjlfaa
set_option maxRecDepth 100000
open Go.ChangeShapes Go.WideShapes Go.ChangeAt Go.RowKit Go.Joins

/-- Values that are lists of numbers. -/
structure Vals (w : World) (vs : List Value) (ks : List (List Int)) : Prop where
  len : vs.length = ks.length
  at_ : ∀ j, j < ks.length → ∃ A c, vs[j]? = some (.slice A (ks.getD j []).length c) ∧ (ks.getD j []).length ≤ maxLen ∧ IntsA w A (ks.getD j []).length (ks.getD j [])

theorem Vals.below {w w' : World} {vs : List Value} {ks : List (List Int)} (h : Vals w vs ks) (hb : Below w.heap.size w w') : Vals w' vs ks :=
  ⟨h.len, fun j hj => by obtain ⟨A, c, h1, h2, h3⟩ := h.at_ j hj; exact ⟨A, c, h1, h2, h3.below hb⟩⟩

theorem Vals.append {w : World} {v0 v1 : List Value} {k0 k1 : List (List Int)} (h0 : Vals w v0 k0) (h1 : Vals w v1 k1) : Vals w (v0 ++ v1) (k0 ++ k1) := by
  refine ⟨by rw [List.length_append, List.length_append, h0.len, h1.len], fun j hj => ?_⟩
  rw [List.length_append] at hj
  by_cases hlt : j < k0.length
  · obtain ⟨A, c, e1, e2, e3⟩ := h0.at_ j hlt
    have g : (k0 ++ k1).getD j [] = k0.getD j [] := by simp only [List.getD, List.getElem?_append_left hlt]
    rw [g]
    exact ⟨A, c, by rw [List.getElem?_append_left (by rw [h0.len]; exact hlt)]; exact e1, e2, e3⟩
  · obtain ⟨A, c, e1, e2, e3⟩ := h1.at_ (j - k0.length) (by omega)
    have g : (k0 ++ k1).getD j [] = k1.getD (j - k0.length) [] := by simp only [List.getD, List.getElem?_append_right (Nat.le_of_not_lt hlt)]
    rw [g]
    exact ⟨A, c, by rw [List.getElem?_append_right (by rw [h0.len]; omega), h0.len]; exact e1, e2, e3⟩

theorem Vals.one {w : World} {vs : List Value} {ks : List (List Int)} (h : Vals w vs ks) : ∀ u ∈ vs, u.oneCell' = true := by
  intro u hu
  obtain ⟨j, hj, rfl⟩ := List.getElem_of_mem hu
  obtain ⟨A, c, e1, _, _⟩ := h.at_ j (by rw [← h.len]; exact hj)
  rw [List.getElem?_eq_getElem hj] at e1
  injection e1 with e1
  rw [e1]
  rfl

/-- A stretch of lists handed in. -/
def segV (w : World) (b off m : Nat) : List Value := (List.range m).map fun k => (w.cell? ⟨b, off + k, none⟩).getD undef

theorem seg_vals {w : World} {b off i m n : Nat} {ks : List (List Int)} (hl : ks.length = n) (hi : i + m ≤ n)
    (hc : ∀ k, k < n → ∃ Ak ck, w.cell? ⟨b, off + k, none⟩ = some (.slice Ak (ks.getD k []).length ck) ∧ (ks.getD k []).length ≤ maxLen ∧ IntsA w Ak (ks.getD k []).length (ks.getD k [])) :
    Vals w (segV w b (off + i) m) ((ks.drop i).take m) := by
  have hlen : ((ks.drop i).take m).length = m := by rw [List.length_take, List.length_drop]; omega
  refine ⟨by rw [hlen]; simp [segV], fun j hj => ?_⟩
  rw [hlen] at hj
  obtain ⟨A, c, e1, e2, e3⟩ := hc (i + j) (by omega)
  have g : ((ks.drop i).take m).getD j [] = ks.getD (i + j) [] := by
    simp only [List.getD, List.getElem?_take, List.getElem?_drop, if_pos hj]
  rw [g]
  refine ⟨A, c, ?_, e2, e3⟩
  rw [← Nat.add_assoc] at e1
  simp [segV, hj, e1]

theorem seg_part {w : World} {b off m : Nat} {vs : List Value} {ks : List (List Int)} (hb : b < w.heap.size) (hv : Vals w (segV w b off m) ks) (he : vs = segV w b off m) : Part w ⟨b, off, none⟩ m vs := by
  subst he
  refine ⟨by simp [segV], hb, fun j u hu => ?_, hv.one⟩
  have hj : j < m := by
    have := (List.getElem?_eq_some_iff.1 hu).1
    simpa [segV] using this
  have ha : (⟨b, off, none⟩ : Addr).add j = ⟨b, off + j, none⟩ := by unfold Addr.add; split <;> simp_all
  rw [ha]
  obtain ⟨A, c, e1, _, _⟩ := hv.at_ j (by rw [← hv.len]; simpa [segV] using hj)
  rw [e1] at hu
  injection hu with hu
  subst hu
  have e2 : (segV w b off m)[j]? = some ((w.cell? ⟨b, off + j, none⟩).getD undef) := by simp [segV, hj]
  rw [e1] at e2
  injection e2 with e2
  cases h : w.cell? ⟨b, off + j, none⟩ with
  | none => rw [h] at e2; cases e2
  | some x => rw [h] at e2; rw [e2]; rfl

/-- What a row of lists is to a function that takes it. -/
theorem row_knobs {w : World} {B n : Nat} {v : Value} {vs : List Value} {ks : List (List Int)} (hO : w.ownsRow B 43 1 v n vs) (h0 : 0 < n) (hv : Vals w vs ks) :
    ∃ g c, v = .slice (some ⟨g, 0, none⟩) n c ∧ KnobsA w (some ⟨g, 0, none⟩) n ks := by
  have hl : vs.length = n := by have := hO.1; omega
  obtain ⟨g, c, rfl, hb, hlt⟩ := hO.form h0
  refine ⟨g, c, rfl, by rw [← hv.len, hl], .inr ⟨g, 0, rfl, hlt, fun k hk => ?_⟩⟩
  obtain ⟨A, c', e1, e2, e3⟩ := hv.at_ k (by rw [← hv.len, hl]; exact hk)
  refine ⟨A, c', ?_, e2, e3⟩
  rw [Nat.zero_add, hO.cellAt k (by omega)]
  exact e1

theorem woAt_split (ks : List (List Int)) {q : Nat} (hq : q < ks.length) : ∀ k, k ≤ ks.length → q < k → woAt ks q k = ks.take q ++ (ks.drop (q + 1)).take (k - (q + 1)) := by
  have hpre : ∀ k, k ≤ q → woAt ks q k = ks.take k := by
    intro k hk
    induction k with
    | zero => rfl
    | succ k ih => rw [woAt, if_neg (by omega), ih (by omega), take_snoc (by omega)]
  intro k hk hqk
  induction k with
  | zero => omega
  | succ k ih =>
    rw [woAt]
    by_cases e : k = q
    · subst e
      rw [if_pos rfl, hpre k (Nat.le_refl _), Nat.sub_self]
      simp
    · rw [if_neg (by omega), ih (by omega) (by omega), List.append_assoc]
      congr 1
      have h1 : k + 1 - (q + 1) = (k - (q + 1)) + 1 := by omega
      rw [h1, take_snoc (by rw [List.length_drop]; omega)]
      congr 2
      simp only [List.getD, List.getElem?_drop]
      rw [show q + 1 + (k - (q + 1)) = k by omega]

theorem ne_sub {ks zs : List (List Int)} (h : ∀ k, k < ks.length → 0 < (ks.getD k []).length) (hs : ∀ x ∈ zs, x ∈ ks) (j : Nat) (hj : j < zs.length) : 0 < (zs.getD j []).length := by
  have e : zs.getD j [] = zs[j] := by simp [List.getD, List.getElem?_eq_getElem hj]
  rw [e]
  obtain ⟨i, hi, e2⟩ := List.getElem_of_mem (hs _ (List.getElem_mem hj))
  have := h i hi
  simp only [List.getD, List.getElem?_eq_getElem hi, Option.getD_some] at this
  rw [← e2]
  exact this

set_option maxHeartbeats 4000000 in
theorem dropKnob_any (a b q : Int) (A : Option Addr) (n c : Nat) (hcap : n ≤ c) (ks : List (List Int)) (w : World) (hm : n + lensAt ks n ≤ 1048576) (hA : KnobsA w A n ks) :
    Calls Try.prog 58 #[.agg #[.int .i64 a, .int .i64 b, .slice A n c], .int .i64 q] w (GearsOut w (dkA a b ks q a) (dkA a b ks q b) (dkZ a b ks q) (dkB a b ks q)) := by
  have HA := Lib.hid hA
  have HN := Lib.hid hA.len
  have HU := Lib.hid (show Cells ((w.alloc (.cells #[.int .i64 a, .int .i64 b, .slice A n c] 31)).alloc (.cells #[.int .i64 0, .int .i64 0, .slice none 0 0] 31)) w.heap.size 3 (gF a b (.slice A n c)) from (Cells.new (W := w) (n := 3) rfl rfl).alloc _)
  have HQ := Lib.hid (show Cells ((w.alloc (.cells #[.int .i64 a, .int .i64 b, .slice A n c] 31)).alloc (.cells #[.int .i64 0, .int .i64 0, .slice none 0 0] 31)) (w.heap.size + 1) 3 (gF 0 0 (.slice none 0 0)) from Cells.new (n := 3) (by simp) rfl)
  have HB0 := Lib.hid (show Below w.heap.size w ((w.alloc (.cells #[.int .i64 a, .int .i64 b, .slice A n c] 31)).alloc (.cells #[.int .i64 0, .int .i64 0, .slice none 0 0] 31)) by (repeat (first | assumption | exact Below.refl _ _ | (refine Below.alloc ?_ (by first | omega | (simp; done) | (simp; omega)) _) | (refine Below.setCell ?_ (by first | omega | (simp; done) | (simp; omega)) _) | refine bel_drewN ?_ _ | refine bel_drew ?_ | (refine bel_call ?_ (by assumption)))))
  clear hA
  obtain ⟨u, HG⟩ : ∃ u, Hid (gkB a b ks q = u) := ⟨_, Lib.hid rfl⟩
  rcases u with _ | _
  · have HD : Hid (dkB a b ks q = false) := Lib.hid (by have := HG.out; unfold gkB at this; unfold dkB; rw [this]; rfl)
    go_enter Try.func58, Try.ntmps58
    go_wp2_with (first
        | (go_at_call 76; refine (haveKnob_any _ _ _ _ _ _ ks _ hm (HA.out.below HB0.out)).mono ?_; rw [HG.out]; rintro e w1 ⟨rfl, hb1⟩
           have D1 := Lib.hid (HU.out.call hb1)
           have E1 := Lib.hid (HQ.out.call hb1)
           have B1 := Lib.hid (bel_call HB0.out hb1)
           have q0 : w1.cell? ⟨w.heap.size + 1, 0, none⟩ = some (.int .i64 0) := E1.out.cell (show 0 < 3 by omega)
           have q1 : w1.cell? ⟨w.heap.size + 1, 1, none⟩ = some (.int .i64 0) := E1.out.cell (show 1 < 3 by omega)
           have q2 : w1.cell? ⟨w.heap.size + 1, 2, none⟩ = some (.slice none 0 0) := E1.out.cell (show 2 < 3 by omega)
           have f0 := E1.out.frozen (show 0 < 3 by omega)
           have f1 := E1.out.frozen (show 1 < 3 by omega)
           have f2 := E1.out.frozen (show 2 < 3 by omega)))
    refine bodyPost_ret (v := .tuple #[.agg #[.int .i64 0, .int .i64 0, .slice none 0 0], .bool false]) (by simp [results, Try.results58, go_sem, q0, q1, q2]) rfl ?_
    unfold dkA dkZ
    rw [HD.out]
    exact gears_none (((B1.out.setCell (p := ⟨w.heap.size + 1, 0, none⟩) (by show w.heap.size ≤ w.heap.size + 1; omega) _).setCell (p := ⟨w.heap.size + 1, 1, none⟩) (by show w.heap.size ≤ w.heap.size + 1; omega) _).setCell (p := ⟨w.heap.size + 1, 2, none⟩) (by show w.heap.size ≤ w.heap.size + 1; omega) _)
  · have hgk := HG.out
    unfold gkB at hgk
    rw [Bool.and_eq_true] at hgk
    have HY := Lib.hid (gearsB_yes hgk.1)
    have hy3 := HY.out.2.2.1
    have hy4 := HY.out.2.2.2.1
    have hq1 := hgk.2
    unfold inB at hq1
    rw [decide_eq_true_eq, HN.out] at hq1
    rw [HN.out] at hy3 hy4
    obtain ⟨k, rfl⟩ : ∃ k : Nat, q = k := ⟨q.toNat, by omega⟩
    have hkn : k < n := by omega
    clear hq1 hgk
    by_cases h1 : n = 1
    · have h1' : ((n : Int) == 1) = true := by simpa using (show (n : Int) = 1 by omega)
      have HD : Hid (dkB a b ks k = false) := Lib.hid (by unfold dkB; rw [HN.out, decide_eq_true h1]; simp)
      clear h1
      go_enter Try.func58, Try.ntmps58
      go_wp2_with (first
        | (go_at_call 76; refine (haveKnob_any _ _ _ _ _ _ ks _ hm (HA.out.below HB0.out)).mono ?_; rw [HG.out]; rintro e w1 ⟨rfl, hb1⟩
           have D1 := Lib.hid (HU.out.call hb1)
           have E1 := Lib.hid (HQ.out.call hb1)
           have B1 := Lib.hid (bel_call HB0.out hb1)
           have l0 : w1.cell? ⟨w.heap.size, 0, none⟩ = some (.int .i64 a) := D1.out.cell (show 0 < 3 by omega)
           have l1 : w1.cell? ⟨w.heap.size, 1, none⟩ = some (.int .i64 b) := D1.out.cell (show 1 < 3 by omega)
           have l2 : w1.cell? ⟨w.heap.size, 2, none⟩ = some (.slice A n c) := D1.out.cell (show 2 < 3 by omega)
           have q0 : w1.cell? ⟨w.heap.size + 1, 0, none⟩ = some (.int .i64 0) := E1.out.cell (show 0 < 3 by omega)
           have q1 : w1.cell? ⟨w.heap.size + 1, 1, none⟩ = some (.int .i64 0) := E1.out.cell (show 1 < 3 by omega)
           have q2 : w1.cell? ⟨w.heap.size + 1, 2, none⟩ = some (.slice none 0 0) := E1.out.cell (show 2 < 3 by omega)
           have f0 := E1.out.frozen (show 0 < 3 by omega)
           have f1 := E1.out.frozen (show 1 < 3 by omega)
           have f2 := E1.out.frozen (show 2 < 3 by omega)))
      refine bodyPost_ret (v := .tuple #[.agg #[.int .i64 0, .int .i64 0, .slice none 0 0], .bool false]) (by simp [results, Try.results58, go_sem, q0, q1, q2]) rfl ?_
      unfold dkA dkZ
      rw [HD.out]
      exact gears_none (((B1.out.setCell (p := ⟨w.heap.size + 1, 0, none⟩) (by show w.heap.size ≤ w.heap.size + 1; omega) _).setCell (p := ⟨w.heap.size + 1, 1, none⟩) (by show w.heap.size ≤ w.heap.size + 1; omega) _).setCell (p := ⟨w.heap.size + 1, 2, none⟩) (by show w.heap.size ≤ w.heap.size + 1; omega) _)
    · have h1' : ((n : Int) == 1) = false := by simpa using (show ¬ (n : Int) = 1 by omega)
      have HD : Hid (dkB a b ks k = true) := Lib.hid (by have := HG.out; unfold gkB at this; unfold dkB; rw [this, HN.out, decide_eq_false h1]; rfl)
      have HZ : Hid (dkZ a b ks k = ks.take k ++ ks.drop (k + 1)) := Lib.hid (by
        unfold dkZ
        rw [HD.out, if_pos rfl, woAt_split ks (by rw [HN.out]; exact hkn) ks.length (Nat.le_refl _) (by rw [HN.out]; exact hkn), (List.take_of_length_le (by rw [List.length_drop]; exact Nat.le_refl _) : (ks.drop (k + 1)).take (ks.length - (k + 1)) = ks.drop (k + 1))])
      have HSZ : Hid ((n - 1) + lensAt (ks.take k ++ ks.drop (k + 1)) (n - 1) ≤ 1048576 ∧ (ks.take k ++ ks.drop (k + 1)).length = n - 1) := Lib.hid (by
        have h2 := dkZ_size a b ks k
        have h3 : (ks.take k ++ ks.drop (k + 1)).length = n - 1 := by rw [List.length_append, List.length_take, List.length_drop, HN.out]; omega
        rw [HZ.out, h3, HN.out] at h2
        exact ⟨by omega, h3⟩)
      obtain ⟨b0, off, rfl, hb0, hc⟩ := HA.out.at_.resolve_left (by omega)
      have HV0 := Lib.hid (seg_vals (i := 0) (m := k) HN.out (by omega) hc)
      have HV1 := Lib.hid (seg_vals (i := k + 1) (m := n - (k + 1)) HN.out (by omega) hc)
      rw [Nat.add_zero, List.drop_zero] at HV0
      rw [List.take_of_length_le (by rw [List.length_drop, HN.out]; exact Nat.le_refl _)] at HV1
      have HP0 := Lib.hid (seg_part hb0 HV0.out rfl)
      have HP1 := Lib.hid (seg_part hb0 HV1.out rfl)
      generalize segV w b0 off k = v0 at HV0 HP0
      generalize segV w b0 (off + (k + 1)) (n - (k + 1)) = v1 at HV1 HP1
      have HNE : Hid (∀ j, j < n - 1 → 0 < ((ks.take k ++ ks.drop (k + 1)).getD j []).length) := Lib.hid (fun j hj => ne_sub (ks := ks) (fun i hi => by have h1 := HY.out.2.2.2.2 i hi; unfold knobB at h1; rw [Bool.and_eq_true, decide_eq_true_eq] at h1; have h2 := good_yes HY.out.1; omega) (fun x hx => by
        rcases List.mem_append.1 hx with h | h
        · exact List.mem_of_mem_take h
        · exact List.mem_of_mem_drop h) j (by rw [HSZ.out.2]; exact hj))
      have hn2 : 2 ≤ n := by omega
      clear h1 hc hb0
      go_enter Try.func58, Try.ntmps58
      go_wp2_with (first
        | (go_at_call 76; refine (haveKnob_any _ _ _ _ _ _ ks _ hm (HA.out.below HB0.out)).mono ?_; rw [HG.out]; rintro e w1 ⟨rfl, hb1⟩
           have D1 := Lib.hid (HU.out.call hb1)
           have E1 := Lib.hid (HQ.out.call hb1)
           have B1 := Lib.hid (bel_call HB0.out hb1)
           have l0 : w1.cell? ⟨w.heap.size, 0, none⟩ = some (.int .i64 a) := D1.out.cell (show 0 < 3 by omega)
           have l1 : w1.cell? ⟨w.heap.size, 1, none⟩ = some (.int .i64 b) := D1.out.cell (show 1 < 3 by omega)
           have l2 : w1.cell? ⟨w.heap.size, 2, none⟩ = some (.slice (some ⟨b0, off, none⟩) n c) := D1.out.cell (show 2 < 3 by omega)
           have q0 : w1.cell? ⟨w.heap.size + 1, 0, none⟩ = some (.int .i64 0) := E1.out.cell (show 0 < 3 by omega)
           have q1 : w1.cell? ⟨w.heap.size + 1, 1, none⟩ = some (.int .i64 0) := E1.out.cell (show 1 < 3 by omega)
           have q2 : w1.cell? ⟨w.heap.size + 1, 2, none⟩ = some (.slice none 0 0) := E1.out.cell (show 2 < 3 by omega)
           have f0 := E1.out.frozen (show 0 < 3 by omega)
           have f1 := E1.out.frozen (show 1 < 3 by omega)
           have f2 := E1.out.frozen (show 2 < 3 by omega)))
      have Q0 := Lib.hid (HP0.out.below B1.out (Nat.le_refl _))
      have Q1 := Lib.hid (HP1.out.below B1.out (Nat.le_refl _))
      have V0 := Lib.hid (HV0.out.below B1.out)
      have V1 := Lib.hid (HV1.out.below B1.out)
      clear HP0 HP1 HV0 HV1 HU HQ HB0 q0 q1 q2 f0 f1 f2
      have hkc : k ≤ c := by omega
      have hk1 : k + 1 ≤ n := by omega
      have hk2 : (0 : Int) ≤ (k : Int) + 1 := by omega
      have hk3 : (k : Int) + 1 ≤ (n : Int) := by omega
      obtain ⟨a1, ha1, hqa⟩ : ∃ a1 : Addr, (if c = k + 1 then some (⟨b0, off, none⟩ : Addr) else some ⟨b0, off + (k + 1), none⟩) = some a1 ∧ Part w1 a1 (n - (k + 1)) v1 := by
        by_cases hck : c = k + 1
        · refine ⟨_, if_pos hck, ?_⟩
          have h0 : v1 = [] := List.eq_nil_of_length_eq_zero (by rw [Q1.out.len]; omega)
          exact ⟨Q1.out.len, Q1.out.lt, fun j u hj => by rw [h0] at hj; simp at hj, Q1.out.one⟩
        · exact ⟨_, if_neg hck, Q1.out⟩
      have R1 := Lib.hid hqa
      clear hqa
      have hwk : IntKind.i64.wrap ((k : Int) + 1) = ((k + 1 : Nat) : Int) := by rw [IntKind.wrap_i64]; omega
      have hn5 : k + (n - (k + 1)) = n - 1 := by omega
      have m0 : (w1.alloc (.cells #[.slice (some ⟨b0, off, none⟩) k c, .slice (some a1) (n - (k + 1)) (c - (k + 1))] 24)).cell? ⟨w.heap.size, 0, none⟩ = some (.int .i64 a) := (D1.out.alloc _).cell (show 0 < 3 by omega)
      have m1 : (w1.alloc (.cells #[.slice (some ⟨b0, off, none⟩) k c, .slice (some a1) (n - (k + 1)) (c - (k + 1))] 24)).cell? ⟨w.heap.size, 1, none⟩ = some (.int .i64 b) := (D1.out.alloc _).cell (show 1 < 3 by omega)
      have m2 : (w1.alloc (.cells #[.slice (some ⟨b0, off, none⟩) k c, .slice (some a1) (n - (k + 1)) (c - (k + 1))] 24)).cell? ⟨w.heap.size, 2, none⟩ = some (.slice (some ⟨b0, off, none⟩) n c) := (D1.out.alloc _).cell (show 2 < 3 by omega)
      go_region_law (first
        | (go_simp; go_at_call 94; refine (concat_any _ _ _ _ _ _ _ _ v0 v1 _ (by omega) (by omega) (Cells.new (by simp) rfl) (Q0.out.below ((bel_drew (Below.refl _ _)).alloc (Nat.le_refl _) _) (Nat.le_refl _)) (R1.out.below ((bel_drew (Below.refl _ _)).alloc (Nat.le_refl _) _) (Nat.le_refl _))).mono ?_; rintro e w5 ⟨v5, rfl, hO5, hb5⟩
           have HB5 := Lib.hid (show Below w1.heap.size w1 w5 from bel_call ((bel_drew (Below.refl _ _)).alloc (Nat.le_refl _) _) hb5)
           have VS := (V0.out.append V1.out).below HB5.out
           rw [hn5] at hO5
           obtain ⟨g5, c5, rfl, hK5⟩ := row_knobs hO5 (by omega) VS
           have K5 := Lib.hid hK5
           have D5 := Lib.hid (D1.out.call HB5.out)
           have l0_w5 : w5.cell? ⟨w.heap.size, 0, none⟩ = some (.int .i64 a) := D5.out.cell (show 0 < 3 by omega)
           have l1_w5 : w5.cell? ⟨w.heap.size, 1, none⟩ = some (.int .i64 b) := D5.out.cell (show 1 < 3 by omega)
           have l2_w5 : w5.cell? ⟨w.heap.size, 2, none⟩ = some (.slice (some ⟨b0, off, none⟩) n c) := D5.out.cell (show 2 < 3 by omega)
           clear hO5 hb5 VS hK5)
        | (go_simp; go_at_call 93; refine (newGears_any _ _ _ _ _ (ks.take k ++ ks.drop (k + 1)) _ HSZ.out.1 HNE.out K5.out).mono ?_; rintro e w6 ⟨v6, G, Cp, rfl, hR6, hz6, hb6⟩
           obtain ⟨A6, c6, hv6⟩ := hR6.slice
           rw [HSZ.out.2] at hv6
           subst hv6
           have HB6 := Lib.hid (bel_call HB5.out hb6)
           have R6 := Lib.hid hR6
           have Z6 := Lib.hid (show w1.heap.size ≤ w5.heap.size from HB5.out.size)
           have D6 := Lib.hid (D5.out.call hb6)
           have E6 := Lib.hid (E1.out.call HB6.out)
           have l0_w6 : w6.cell? ⟨w.heap.size, 0, none⟩ = some (.int .i64 a) := D6.out.cell (show 0 < 3 by omega)
           have l1_w6 : w6.cell? ⟨w.heap.size, 1, none⟩ = some (.int .i64 b) := D6.out.cell (show 1 < 3 by omega)
           have l2_w6 : w6.cell? ⟨w.heap.size, 2, none⟩ = some (.slice (some ⟨b0, off, none⟩) n c) := D6.out.cell (show 2 < 3 by omega)
           have q0 : w6.cell? ⟨w.heap.size + 1, 0, none⟩ = some (.int .i64 0) := E6.out.cell (show 0 < 3 by omega)
           have q1 : w6.cell? ⟨w.heap.size + 1, 1, none⟩ = some (.int .i64 0) := E6.out.cell (show 1 < 3 by omega)
           have q2 : w6.cell? ⟨w.heap.size + 1, 2, none⟩ = some (.slice none 0 0) := E6.out.cell (show 2 < 3 by omega)
           have f0 := E6.out.frozen (show 0 < 3 by omega)
           have f1 := E6.out.frozen (show 1 < 3 by omega)
           have f2 := E6.out.frozen (show 2 < 3 by omega)
           clear hR6 hz6 hb6))
      all_goals
        have ZE := E1.out.lt
        have ZB := B1.out.size
        go_wp2_with fail
        refine bodyPost_ret (v := .tuple #[.agg #[.int .i64 a, .int .i64 b, .slice A6 (n - 1) c6], .bool true]) (by simp [results, Try.results58, go_sem, q0, q1, q2]) rfl ?_
        have Z6' := Z6.out
        rw [HZ.out]
        unfold dkA
        rw [HD.out]
        exact ⟨_, w5.heap.size + 3, _, _, rfl, by omega, ((R6.out.far (by omega) _).far (by omega) _).far (by omega) _, (((bel_call B1.out HB6.out).setCell (p := ⟨w.heap.size + 1, 0, none⟩) (by show w.heap.size ≤ w.heap.size + 1; omega) _).setCell (p := ⟨w.heap.size + 1, 1, none⟩) (by show w.heap.size ≤ w.heap.size + 1; omega) _).setCell (p := ⟨w.heap.size + 1, 2, none⟩) (by show w.heap.size ≤ w.heap.size + 1; omega) _⟩

theorem dropKnobC_any (a b q : Int) (A : Option Addr) (n c : Nat) (hcap : n ≤ c) (ks : List (List Int)) (w : World) (hm : n + lensAt ks n ≤ 1048576) (hA : KnobsC w A n ks) :
    Calls Try.prog 58 #[.agg #[.int .i64 a, .int .i64 b, .slice A n c], .int .i64 q] w (KDOut w (dkA a b ks q a) (dkA a b ks q b) (dkZ a b ks q) (dkB a b ks q)) :=
  (dropKnob_any a b q A n c hcap ks w hm (hA.knobs hm)).mono fun _ _ h => h.kd

end Go.Proofs.Ytejpcbkhlnjlfaa
