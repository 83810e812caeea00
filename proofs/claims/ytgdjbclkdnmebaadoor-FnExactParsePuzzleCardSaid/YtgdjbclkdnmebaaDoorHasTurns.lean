/- Lists of turns: which ones a lock has, as both programs ask it. No conditions. -/
import Derived.Test.YtgdjbclkdnmebaaDoorValid
namespace Go.Proofs.YtgdjbclkdnmebaaDoor
open Go.ChangeShapes Go.WideShapes Go.ChangeAt Go.RowKit Go.Joins

/-- Turns, as cells: two for each. -/
def turnF (ts : List (Int × Int)) (j : Nat) : Value := if j % 2 = 0 then .int .i64 (ts.getD (j / 2) (0, 0)).1 else .int .i64 (ts.getD (j / 2) (0, 0)).2

theorem turnF_0 (ts : List (Int × Int)) (k : Nat) : turnF ts (k * 2) = .int .i64 (ts.getD k (0, 0)).1 := by
  unfold turnF
  rw [if_pos (by omega), show k * 2 / 2 = k by omega]

theorem turnF_1 (ts : List (Int × Int)) (k : Nat) : turnF ts (k * 2 + 1) = .int .i64 (ts.getD k (0, 0)).2 := by
  unfold turnF
  rw [if_neg (by omega), show (k * 2 + 1) / 2 = k by omega]

/-- A list of turns of a lock. -/
def turnsB (a : Int) (ts : List (Int × Int)) : Bool := decide (ts.length ≤ 200) && ts.all fun t => turnB a t.1 t.2

theorem tAll_snoc {ts : List (Int × Int)} {k : Nat} {p : Int × Int → Bool} (h : k < ts.length) (ha : (ts.take k).all p = true) (hd : p (ts.getD k (0, 0)) = true) : (ts.take (k + 1)).all p = true := by
  rw [List.take_succ_eq_append_getElem h, List.all_append, ha]
  simpa [List.getD, List.getElem?_eq_getElem h] using hd

theorem tAll_not {ts : List (Int × Int)} {k : Nat} {p : Int × Int → Bool} (h : k < ts.length) (hd : p (ts.getD k (0, 0)) = false) : ts.all p = false := by
  rw [List.all_eq_false]
  refine ⟨ts[k], List.getElem_mem _, ?_⟩
  simpa [List.getD, List.getElem?_eq_getElem h] using hd

end Go.Proofs.YtgdjbclkdnmebaaDoor
