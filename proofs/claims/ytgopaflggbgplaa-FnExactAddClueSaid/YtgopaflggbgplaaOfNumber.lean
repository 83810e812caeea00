/- The code with a number, as both programs make it. No conditions. -/
import Derived.Test.YtgopaflggbgplaaAsked
namespace Go.Proofs.Ytgopaflggbgplaa
open Go.ChangeShapes Go.WideShapes Go.ChangeAt Go.RowKit Go.Joins

/-- The digits of a number, so many. -/
def digL (b x : Int) (n : Nat) : List Int := (List.range n).map fun j => (x / pw b (n - 1 - j)) % b

theorem digL_length (b x : Int) (n : Nat) : (digL b x n).length = n := by simp [digL]

theorem digL_at {b x : Int} {n j : Nat} (hj : j < n) : (digL b x n).getD j 0 = (x / pw b (n - 1 - j)) % b := by simp [digL, List.getD, hj]

theorem digL_digits {b x : Int} {n : Nat} (h2 : 2 ≤ b) (h10 : b ≤ 10) : Digits (digL b x n) := fun j hj => by
  rw [digL_length] at hj
  rw [digL_at hj]
  have h1 := Int.emod_nonneg (x / pw b (n - 1 - j)) (show b ≠ 0 by omega)
  have h2 := Int.emod_lt_of_pos (x / pw b (n - 1 - j)) (show 0 < b by omega)
  omega

theorem quot_step {b x : Int} {n p : Nat} (hp : p + 1 ≤ n) (h2 : 2 ≤ b) (h10 : b ≤ 10) (hn : n ≤ 6) : x / pw b (n - (p + 1)) / b = x / pw b (n - p) := by
  have h1 := (pw_bd6 h2 h10 (k := n - (p + 1)) (by omega)).1
  rw [Int.ediv_ediv_of_nonneg (by omega), ← pw_succ, show n - (p + 1) + 1 = n - p by omega]

theorem quot_bd {b x : Int} {k : Nat} (h2 : 2 ≤ b) (h10 : b ≤ 10) (hk : k ≤ 6) (h0 : 0 ≤ x) : 0 ≤ x / pw b k ∧ x / pw b k ≤ x := by
  have h1 := (pw_bd6 h2 h10 (k := k) hk).1
  exact ⟨Int.ediv_nonneg h0 (by omega), Int.ediv_le_self _ h0⟩

theorem cells_up (j p : Nat) (f : Nat → Value) (z : Value) : (if j = p then f p else if p + 1 ≤ j then f j else z) = if p ≤ j then f j else z := by
  by_cases h : j = p
  · subst h; simp
  · rw [if_neg h]
    by_cases h2 : p + 1 ≤ j
    · rw [if_pos h2, if_pos (by omega)]
    · rw [if_neg h2, if_neg (by omega)]

def hasNum (a b x : Int) : Bool := goodB a b && inB x 0 (countZ a b - 1)

def ofZ (a b x : Int) : ByteArray := if hasNum a b x then textOf (digL b x a.toNat) else ⟨#[]⟩

theorem ofZ_yes {n : Nat} {b x : Int} (h : hasNum n b x = true) : ofZ n b x = textOf (digL b x n) := by unfold ofZ; rw [h]; rfl

theorem ofZ_no {a b x : Int} (h : hasNum a b x = false) : ofZ a b x = ⟨#[]⟩ := by unfold ofZ; rw [h]; rfl

theorem whOf_any (n : Nat) (b x : Int) (w : World) (hg : goodB n b = true) (h0 : 0 ≤ x) (hx : x ≤ 1000000) :
    Calls Try.prog 75 #[.agg #[.int .i64 n, .int .i64 b], .int .i64 x] w fun e w' => e = .returned (.string (textOf (digL b x n))) ∧ Below w.heap.size w w' := by
  have hg' := good_yes hg
  obtain ⟨h1, h2, h3, h4⟩ := hg'
  clear hg
  have hmk := make_ints n (by omega)
  have HX := Lib.hid (quot_bd (x := x) (k := 0) h3 h4 (by omega) h0)
  go_enter Try.func75, Try.ntmps75
  go_wp2
  have hN : Cells ((w.alloc (.cells #[.int .i64 (n : Int), .int .i64 b] 30)).alloc (.cells (madeCells #[.int .i64 0] n) 3)) (w.heap.size + 1) n (fun _ => .int .i64 0) := by
    have := Cells.made (w.alloc (.cells #[.int .i64 (n : Int), .int .i64 b] 30)) (.int .i64 0) n 3
    simpa using this
  have HN := Lib.hid hN
  clear hN hmk
  go_loopw [1, 6] (fun q i wr => ∃ m : Nat, m ≤ n ∧ i = .int .i64 ((m : Int) - 1) ∧ q = .int .i64 (x / pw b (n - m)) ∧ Cells wr (w.heap.size + 1) n (fun j => if m ≤ j then digF (digL b x n) j else .int .i64 0) ∧ wr.cell? ⟨w.heap.size, 1, none⟩ = some (.int .i64 b) ∧ Below w.heap.size w wr) (fun _ i _ => (intOf i + 1).toNat)
  case atStart => exact ⟨n, by omega, rfl, by rw [Nat.sub_self, pw_zero, Int.ediv_one], HN.out.congr (fun j hj => by rw [if_neg (by omega)]), by simp, by (repeat (first | assumption | exact Below.refl _ _ | (refine Below.alloc ?_ (by first | omega | (simp; done) | (simp; omega)) _) | (refine Below.setCell ?_ (by first | omega | (simp; done) | (simp; omega)) _) | refine bel_drewN ?_ _ | refine bel_drew ?_ | (refine bel_call ?_ (by assumption))))⟩
  case round =>
    obtain ⟨m, hm, rfl, rfl, hC, hc1, hB⟩ := hrel
    have HC := Lib.hid hC
    clear hC
    rcases m with _ | p
    · go_wp2_with (go_at_call 82; refine (whText_n _ _ (digL b x n) (digL_length _ _ _) _ (HC.out.congr (fun j hj => by rw [if_pos (by omega)])) (digL_digits h3 h4) (by omega)).mono ?_; rintro e w1 ⟨rfl, hb⟩)
      go_ret
      exact ⟨rfl, bel_call hB hb⟩
    · rw [show ((p + 1 : Nat) : Int) - 1 = (p : Int) by omega]
      obtain ⟨q0, q1⟩ := quot_bd (x := x) (k := n - (p + 1)) h3 h4 (by omega) h0
      have ho : wr.cell? ⟨w.heap.size + 1, p, none⟩ = some (.int .i64 0) := by rw [HC.out.cell (by omega), if_neg (by omega)]
      have hf : wr.frozen? ⟨w.heap.size + 1, p, none⟩ = false := HC.out.frozen (by omega)
      have HQ := Lib.hid (quot_step (x := x) hm h3 h4 (by omega))
      have HS := Lib.hid ((HC.out.set_ (show p < n by omega) (.int .i64 ((x / pw b (n - (p + 1))) % b))).congr (f' := fun j => if p ≤ j then digF (digL b x n) j else .int .i64 0) (fun j hj => by
        have hv : Value.int .i64 ((x / pw b (n - (p + 1))) % b) = digF (digL b x n) p := by rw [digF, digL_at (by omega), show n - 1 - p = n - (p + 1) by omega]
        rw [hv]; exact cells_up j p (digF (digL b x n)) _))
      generalize hq : x / pw b (n - (p + 1)) = q at q0 q1 HQ HS
      clear hq
      go_wp2
      go_roundw
      case rel => exact ⟨p, by omega, rfl, by rw [HQ.out], HS.out, by rw [World.cell?_setCell_far _ _ _ _ (by simp)]; exact hc1, hB.setCell (by simp) _⟩
      case measure => simp [intOf]

theorem ofNumber_any (a b x : Int) (w : World) :
    Calls Try.prog 52 #[.agg #[.int .i64 a, .int .i64 b], .int .i64 x] w fun e w' => e = .returned (.tuple #[.string (ofZ a b x), .bool (hasNum a b x)]) ∧ Below w.heap.size w w' := by
  by_cases hg : goodB a b = true
  · have HG := Lib.hid hg
    have hg' := good_yes hg
    obtain ⟨n, rfl⟩ : ∃ n : Nat, a = n := ⟨a.toNat, by omega⟩
    clear hg
    obtain ⟨h1, h2, h3, h4⟩ := hg'
    obtain ⟨p1, p2⟩ := pw_bd6 h3 h4 (k := n) (by omega)
    by_cases hin : 0 ≤ x ∧ x ≤ pw b n - 1
    · have HI : Hid (inB x 0 (pw b n - 1) = true) := Lib.hid (decide_eq_true hin)
      have HY : Hid (hasNum n b x = true) := Lib.hid (by unfold hasNum; rw [HG.out, countZ_yes HG.out, HI.out]; rfl)
      obtain ⟨h0, hx⟩ := hin
      have hmk := make_ints n (by omega)
      go_enter Try.func52, Try.ntmps52
      go_wp2_with (first | (go_at_call 51; refine (count_any _ _ _).mono ?_; rw [HG.out, countZ_yes HG.out]; rintro e w1 ⟨rfl, hb⟩; obtain ⟨hc, hf, hz⟩ := bcell hb; have hz0 : w.heap.size < w1.heap.size := by (try simp at hz); omega))
      have hB : Below w.heap.size w w1 := by (repeat (first | assumption | exact Below.refl _ _ | (refine Below.alloc ?_ (by first | omega | (simp; done) | (simp; omega)) _) | (refine Below.setCell ?_ (by first | omega | (simp; done) | (simp; omega)) _) | refine bel_drewN ?_ _ | refine bel_drew ?_ | (refine bel_call ?_ (by assumption))))
      have hN := Cells.made w1 (.int .i64 0) n 3
      have HN := Lib.hid hN
      have hc1 : (w1.alloc (.cells (madeCells #[.int .i64 0] n) 3)).cell? ⟨w.heap.size, 1, none⟩ = some (.int .i64 b) := by rw [World.cell?_alloc_lt _ _ _ hz0, hc _ _ (by simp)]; simp
      have HB := Lib.hid hB
      have HZ := Lib.hid hz0
      clear hN hmk hc hf hz hb hB hz0
      go_loopw [1, 9] (fun q i wr => ∃ m : Nat, m ≤ n ∧ i = .int .i64 ((m : Int) - 1) ∧ q = .int .i64 (x / pw b (n - m)) ∧ Cells wr w1.heap.size n (fun j => if m ≤ j then digF (digL b x n) j else .int .i64 0) ∧ wr.cell? ⟨w.heap.size, 1, none⟩ = some (.int .i64 b) ∧ Below w.heap.size w wr) (fun _ i _ => (intOf i + 1).toNat)
      case atStart => exact ⟨n, by omega, rfl, by rw [Nat.sub_self, pw_zero, Int.ediv_one], HN.out.congr (fun j hj => by rw [if_neg (by omega)]), hc1, HB.out.alloc HB.out.size _⟩
      case round =>
        clear hc1
        obtain ⟨m, hm, rfl, rfl, hC, hc1, hB⟩ := hrel
        have HC := Lib.hid hC
        clear hC
        rcases m with _ | p
        · go_wp2_with (go_at_call 70; refine (codeOf_n _ _ (digL b x n) (digL_length _ _ _) _ (HC.out.congr (fun j hj => by rw [if_pos (by omega)])) (digL_digits h3 h4) (by omega)).mono ?_; rintro e w2 ⟨rfl, hb⟩)
          go_ret2
          exact ⟨by rw [HY.out, ofZ_yes HY.out]; rfl, bel_call hB hb⟩
        · rw [show ((p + 1 : Nat) : Int) - 1 = (p : Int) by omega]
          obtain ⟨q0, q1⟩ := quot_bd (x := x) (k := n - (p + 1)) h3 h4 (by omega) h0
          have ho : wr.cell? ⟨w1.heap.size, p, none⟩ = some (.int .i64 0) := by rw [HC.out.cell (by omega), if_neg (by omega)]
          have hf : wr.frozen? ⟨w1.heap.size, p, none⟩ = false := HC.out.frozen (by omega)
          have HQ := Lib.hid (quot_step (x := x) hm h3 h4 (by omega))
          have HS := Lib.hid ((HC.out.set_ (show p < n by omega) (.int .i64 ((x / pw b (n - (p + 1))) % b))).congr (f' := fun j => if p ≤ j then digF (digL b x n) j else .int .i64 0) (fun j hj => by
            have hv : Value.int .i64 ((x / pw b (n - (p + 1))) % b) = digF (digL b x n) p := by rw [digF, digL_at (by omega), show n - 1 - p = n - (p + 1) by omega]
            rw [hv]; exact cells_up j p (digF (digL b x n)) _))
          generalize hq : x / pw b (n - (p + 1)) = q at q0 q1 HQ HS
          clear hq
          have hcs : (wr.setCell ⟨w1.heap.size, p, none⟩ (.int .i64 (q % b))).cell? ⟨w.heap.size, 1, none⟩ = some (.int .i64 b) := by rw [World.cell?_setCell_far _ _ _ _ (by have := HZ.out; simp; omega)]; exact hc1
          go_wp2
          go_roundw
          case rel => exact ⟨p, by omega, rfl, by rw [HQ.out], HS.out, hcs, hB.setCell HB.out.size _⟩
          case measure => simp [intOf]
    · have HI : Hid (inB x 0 (pw b n - 1) = false) := Lib.hid (decide_eq_false hin)
      have HY : Hid (hasNum n b x = false) := Lib.hid (by unfold hasNum; rw [HG.out, countZ_yes HG.out, HI.out]; rfl)
      by_cases hx : x < 0
      all_goals
        go_enter Try.func52, Try.ntmps52
        go_wp2_with (first | (go_at_call 51; refine (count_any _ _ _).mono ?_; rw [HG.out, countZ_yes HG.out]; rintro e w1 ⟨rfl, hb⟩; obtain ⟨hc, hf, hz⟩ := bcell hb; have hz0 : w.heap.size < w1.heap.size := by (try simp at hz); omega))
        go_ret2
        refine ⟨by rw [HY.out, ofZ_no HY.out]; rfl, ?_⟩
        (repeat (first | assumption | exact Below.refl _ _ | (refine Below.alloc ?_ (by first | omega | (simp; done) | (simp; omega)) _) | (refine Below.setCell ?_ (by first | omega | (simp; done) | (simp; omega)) _) | refine bel_drewN ?_ _ | refine bel_drew ?_ | (refine bel_call ?_ (by assumption))))
  · have HG := Lib.hid (Bool.eq_false_iff.2 hg)
    have HY : Hid (hasNum a b x = false) := Lib.hid (by unfold hasNum; rw [HG.out]; rfl)
    clear hg
    go_enter Try.func52, Try.ntmps52
    go_wp2_with (first | (go_at_call 51; refine (count_any _ _ _).mono ?_; rw [HG.out]; rintro e w1 ⟨rfl, hb⟩; obtain ⟨hc, hf, hz⟩ := bcell hb; have hz0 : w.heap.size < w1.heap.size := by (try simp at hz); omega))
    go_ret2
    refine ⟨by rw [HY.out, ofZ_no HY.out]; rfl, ?_⟩
    (repeat (first | assumption | exact Below.refl _ _ | (refine Below.alloc ?_ (by first | omega | (simp; done) | (simp; omega)) _) | (refine Below.setCell ?_ (by first | omega | (simp; done) | (simp; omega)) _) | refine bel_drewN ?_ _ | refine bel_drew ?_ | (refine bel_call ?_ (by assumption))))

end Go.Proofs.Ytgopaflggbgplaa
