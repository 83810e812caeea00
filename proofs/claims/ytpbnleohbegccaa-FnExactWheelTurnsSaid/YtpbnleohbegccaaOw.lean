/- How often each wheel is turned in the round order, as both programs tell it. No conditions. -/
import Derived.Test.YtpbnleohbegccaaOc
import Derived.Test.YtpbnleohbegccaaLi
import Derived.Test.YtpbnleohbegccaaOd
namespace Go.Proofs.Ytpbnleohbegccaa
open Go.ChangeShapes Go.WideShapes Go.ChangeAt Go.RowKit Go.Joins

/-- What the wheels ahead have turned. -/
def wbI (b : Int) (k : Nat) : Int := if k = 0 then 0 else pw b k

def wtL (b : Int) (n : Nat) : List Int := (List.range n).map fun j => pw b (j + 1) - wbI b j

theorem wtL_length (b : Int) (n : Nat) : (wtL b n).length = n := by simp [wtL]

theorem wtL_at {b : Int} {n j : Nat} (hj : j < n) : (wtL b n).getD j 0 = pw b (j + 1) - wbI b j := by simp [wtL, List.getD, hj]

def wtZ (a b : Int) : List Int := if goodB a b then wtL b a.toNat else []

theorem wtZ_yes {n : Nat} {b : Int} (h : goodB n b = true) : wtZ n b = wtL b n := by unfold wtZ; rw [h]; rfl

theorem wtZ_no {a b : Int} (h : goodB a b = false) : wtZ a b = [] := by unfold wtZ; rw [h]; rfl

theorem wt_out {w wr : World} {B : Nat} {v : Value} {b : Int} {n : Nat} (hn : n ≤ 1000) (h : wr.ownsRow B 3 1 v n (iv ((wtL b n).take n))) (hw : w.heap.size ≤ B) (hb : Below w.heap.size w wr) :
    IntsL w (wtL b n) true (.returned (.tuple #[v, .bool true])) wr := by
  rw [List.take_of_length_le (by rw [wtL_length]; exact Nat.le_refl _)] at h
  obtain ⟨A, c, rfl, hL⟩ := LI.of_row (xs := wtL b n) (by rw [wtL_length]; exact h) (by rw [wtL_length]; exact hn)
  exact ⟨A, c, rfl, hL.wide hw (Nat.le_refl _), hb⟩

set_option maxRecDepth 100000 in
set_option maxHeartbeats 4000000 in
theorem specWheelTurns_any (a b : Int) (w : World) :
    Calls Try.prog 40 #[.agg #[.int .i64 a, .int .i64 b]] w (IntsL w (wtZ a b) (goodB a b)) := by
  by_cases hg : goodB a b = true
  · have HG := Lib.hid hg
    have hg' := good_yes hg
    obtain ⟨n, rfl⟩ : ∃ n : Nat, a = n := ⟨a.toNat, by omega⟩
    obtain ⟨h1, h6, h2, h10⟩ := hg'
    obtain ⟨i0, hi, hz0, hz1, hz2⟩ := info_parts info_int
    clear hg
    go_enter Try.func40, Try.ntmps40
    go_wp2_with (go_at_call 88; refine (whGood_any _ _ _).mono ?_; rw [HG.out]; rintro e w1 ⟨rfl, hb1⟩; have z1 : w.heap.size < w1.heap.size := (by have := hb1.size; simp at this; omega); have m0 : w1.cell? ⟨w.heap.size, 0, none⟩ = some (.int .i64 n) := (hb1.cell (p := ⟨w.heap.size, 0, none⟩) (by simp)).trans (by simp); have m1 : w1.cell? ⟨w.heap.size, 1, none⟩ = some (.int .i64 b) := (hb1.cell (p := ⟨w.heap.size, 1, none⟩) (by simp)).trans (by simp); have X1 := Lib.hid (show Below w.heap.size w w1 from bel_call ((Below.refl _ _).alloc (Nat.le_refl _) _) hb1); clear hb1)
    go_loopw [4, 5, 6, 7] (fun v u q i wr => ∃ k : Nat, k ≤ n ∧ i = .int .i64 k ∧ u = .int .i64 (wbI b k) ∧ q = .int .i64 (pw b k) ∧ wr.ownsRow w1.heap.size 3 1 v k (iv ((wtL b n).take k)) ∧ Below w1.heap.size w1 wr) (fun _ _ _ i _ => n - (intOf i).toNat)
    case atStart => exact ⟨0, by omega, rfl, rfl, by rw [pw_zero], World.ownsRow_nil _ _ _ _, Below.refl _ _⟩
    case round =>
      obtain ⟨k, hk, rfl, rfl, rfl, hown, hB⟩ := hrel
      have HO := Lib.hid hown
      clear hown
      have l0 := (hB.cell (p := ⟨w.heap.size, 0, none⟩) z1).trans m0
      have l1 := (hB.cell (p := ⟨w.heap.size, 1, none⟩) z1).trans m1
      by_cases hlt : k < n
      · have p1 := pw_bd6 h2 h10 (k := k) (by omega)
        have p2 := pw_bd6 h2 h10 (k := k + 1) (by omega)
        have HU : Hid (wbI b (k + 1) = pw b k * b) := Lib.hid (by unfold wbI; rw [if_neg (by omega), pw_succ])
        have HP := Lib.hid (pw_succ b k)
        have hu : 0 ≤ wbI b k ∧ wbI b k ≤ pw b k := by unfold wbI; split <;> omega
        have HSN := Lib.hid (iv_snoc (ds := wtL b n) (k := k) (by rw [wtL_length]; exact hlt))
        have HW := Lib.hid (wtL_at (b := b) hlt)
        rw [pw_succ] at p2 HW
        generalize pw b k = C at *
        generalize wbI b k = u at *
        obtain ⟨p3, p4⟩ := p2
        have hw1 : IntKind.i64.wrap (C * b) = C * b := IntWalk.i64_in _ (by omega)
        go_wp2_with (at_builtin; refine wpList_append_own _ rfl _ _ 43 rfl w1.heap.size 3 i0 (.int .i64 0) 1 8 Try.underlying43 hi hz0 hz1 hz2 rfl (by decide) _ _ _ rfl (HO.out.alloc _) ⟨wr.heap.size, 0, none⟩ 1 1 [.int .i64 (C * b - u)] rfl rfl (news_one rfl) (by simp [Value.oneCell']) (by unfold maxLen; omega) (by omega) (by have := hB.size; simp; omega) ?_; intro v' w4 hown' hgrow _; have HO4 := Lib.hid (show w4.ownsRow w1.heap.size 3 1 v' (k + 1) (iv ((wtL b n).take (k + 1))) by rw [HSN.out, HW.out]; exact hown'); have HB4 := Lib.hid ((hB.alloc hB.size (.cells #[.int .i64 (C * b - u)] 3)).grown hgrow (by have := hB.size; simp; omega) (fun j hj => (HO.out.lt j hj).1)); clear hown' hgrow)
        go_roundw
        case rel => exact ⟨k + 1, by omega, by go_num, by rw [HU.out], by rw [HP.out], HO4.out, HB4.out⟩
        case measure => simp [intOf]; omega
      · obtain rfl : k = n := by omega
        go_wp2_with fail
        go_ret2
        rw [HG.out, wtZ_yes HG.out]
        exact wt_out (by omega) HO.out (Nat.le_of_lt z1) (X1.out.trans (hB.mono (Nat.le_of_lt z1)))
  · have HG := Lib.hid (Bool.eq_false_iff.2 hg)
    clear hg
    go_enter Try.func40, Try.ntmps40
    go_wp2_with (go_at_call 88; refine (whGood_any _ _ _).mono ?_; rw [HG.out]; rintro e w1 ⟨rfl, hb⟩; obtain ⟨hc, hf, hz⟩ := bcell hb; have hz0 : w.heap.size < w1.heap.size := by (try simp at hz); omega)
    go_ret2
    rw [HG.out, wtZ_no HG.out]
    refine ints_none ?_
    (repeat (first | assumption | exact Below.refl _ _ | (refine Below.alloc ?_ (by first | omega | (simp; done) | (simp; omega)) _) | (refine Below.setCell ?_ (by first | omega | (simp; done) | (simp; omega)) _) | refine bel_drewN ?_ _ | refine bel_drew ?_ | (refine bel_call ?_ (by assumption))))

set_option maxRecDepth 100000 in
set_option maxHeartbeats 4000000 in
theorem wheelTurns_any (a b : Int) (w : World) :
    Calls Try.prog 41 #[.agg #[.int .i64 a, .int .i64 b]] w (IntsL w (wtZ a b) (goodB a b)) := by
  by_cases hg : goodB a b = true
  · have HG := Lib.hid hg
    have hg' := good_yes hg
    obtain ⟨n, rfl⟩ : ∃ n : Nat, a = n := ⟨a.toNat, by omega⟩
    obtain ⟨h1, h6, h2, h10⟩ := hg'
    obtain ⟨i0, hi, hz0, hz1, hz2⟩ := info_parts info_int
    clear hg
    go_enter Try.func41, Try.ntmps41
    go_wp2_with (go_at_call 89; refine (isLock_any _ _ _).mono ?_; rw [HG.out]; rintro e w1 ⟨rfl, hb1⟩; have z1 : w.heap.size < w1.heap.size := (by have := hb1.size; simp at this; omega); have m0 : w1.cell? ⟨w.heap.size, 0, none⟩ = some (.int .i64 n) := (hb1.cell (p := ⟨w.heap.size, 0, none⟩) (by simp)).trans (by simp); have m1 : w1.cell? ⟨w.heap.size, 1, none⟩ = some (.int .i64 b) := (hb1.cell (p := ⟨w.heap.size, 1, none⟩) (by simp)).trans (by simp); have X1 := Lib.hid (show Below w.heap.size w w1 from bel_call ((Below.refl _ _).alloc (Nat.le_refl _) _) hb1); clear hb1)
    go_loopw [4, 5, 6, 12] (fun v q u i wr => ∃ k : Nat, k ≤ n ∧ i = .int .i64 k ∧ u = .int .i64 (wbI b k) ∧ q = .int .i64 (pw b k) ∧ wr.ownsRow w1.heap.size 3 1 v k (iv ((wtL b n).take k)) ∧ Below w1.heap.size w1 wr) (fun _ _ _ i _ => n - (intOf i).toNat)
    case atStart => exact ⟨0, by omega, rfl, rfl, by rw [pw_zero], World.ownsRow_nil _ _ _ _, Below.refl _ _⟩
    case round =>
      obtain ⟨k, hk, rfl, rfl, rfl, hown, hB⟩ := hrel
      have HO := Lib.hid hown
      clear hown
      have l0 := (hB.cell (p := ⟨w.heap.size, 0, none⟩) z1).trans m0
      have l1 := (hB.cell (p := ⟨w.heap.size, 1, none⟩) z1).trans m1
      by_cases hlt : k < n
      · have p1 := pw_bd6 h2 h10 (k := k) (by omega)
        have p2 := pw_bd6 h2 h10 (k := k + 1) (by omega)
        have HU : Hid (wbI b (k + 1) = pw b k * b) := Lib.hid (by unfold wbI; rw [if_neg (by omega), pw_succ])
        have HP := Lib.hid (pw_succ b k)
        have hu : 0 ≤ wbI b k ∧ wbI b k ≤ pw b k := by unfold wbI; split <;> omega
        have HSN := Lib.hid (iv_snoc (ds := wtL b n) (k := k) (by rw [wtL_length]; exact hlt))
        have HW := Lib.hid (wtL_at (b := b) hlt)
        rw [pw_succ] at p2 HW
        generalize pw b k = C at *
        generalize wbI b k = u at *
        obtain ⟨p3, p4⟩ := p2
        have hw1 : IntKind.i64.wrap (C * b) = C * b := IntWalk.i64_in _ (by omega)
        go_wp2_with (at_builtin; refine wpList_append_own _ rfl _ _ 43 rfl w1.heap.size 3 i0 (.int .i64 0) 1 8 Try.underlying43 hi hz0 hz1 hz2 rfl (by decide) _ _ _ rfl (HO.out.alloc _) ⟨wr.heap.size, 0, none⟩ 1 1 [.int .i64 (C * b - u)] rfl rfl (news_one rfl) (by simp [Value.oneCell']) (by unfold maxLen; omega) (by omega) (by have := hB.size; simp; omega) ?_; intro v' w4 hown' hgrow _; have HO4 := Lib.hid (show w4.ownsRow w1.heap.size 3 1 v' (k + 1) (iv ((wtL b n).take (k + 1))) by rw [HSN.out, HW.out]; exact hown'); have HB4 := Lib.hid ((hB.alloc hB.size (.cells #[.int .i64 (C * b - u)] 3)).grown hgrow (by have := hB.size; simp; omega) (fun j hj => (HO.out.lt j hj).1)); clear hown' hgrow)
        go_roundw
        case rel => exact ⟨k + 1, by omega, by go_num, by rw [HU.out], by rw [HP.out], HO4.out, HB4.out⟩
        case measure => simp [intOf]; omega
      · obtain rfl : k = n := by omega
        go_wp2_with fail
        go_ret2
        rw [HG.out, wtZ_yes HG.out]
        exact wt_out (by omega) HO.out (Nat.le_of_lt z1) (X1.out.trans (hB.mono (Nat.le_of_lt z1)))
  · have HG := Lib.hid (Bool.eq_false_iff.2 hg)
    clear hg
    go_enter Try.func41, Try.ntmps41
    go_wp2_with (go_at_call 89; refine (isLock_any _ _ _).mono ?_; rw [HG.out]; rintro e w1 ⟨rfl, hb⟩; obtain ⟨hc, hf, hz⟩ := bcell hb; have hz0 : w.heap.size < w1.heap.size := by (try simp at hz); omega)
    go_ret2
    rw [HG.out, wtZ_no HG.out]
    refine ints_none ?_
    (repeat (first | assumption | exact Below.refl _ _ | (refine Below.alloc ?_ (by first | omega | (simp; done) | (simp; omega)) _) | (refine Below.setCell ?_ (by first | omega | (simp; done) | (simp; omega)) _) | refine bel_drewN ?_ _ | refine bel_drew ?_ | (refine bel_call ?_ (by assumption))))

end Go.Proofs.Ytpbnleohbegccaa
