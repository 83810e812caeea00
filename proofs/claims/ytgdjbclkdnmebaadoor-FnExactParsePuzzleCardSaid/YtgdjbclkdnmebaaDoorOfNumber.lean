/- The code with a number, as both programs make it. No conditions. -/
import Derived.Test.YtgdjbclkdnmebaaDoorAsked
namespace Go.Proofs.YtgdjbclkdnmebaaDoor
open Go.ChangeShapes Go.WideShapes Go.ChangeAt Go.RowKit Go.Joins

/-- The digits of a number, so many. -/
def digL (b x : Int) (n : Nat) : List Int := (List.range n).map fun j => (x / pw b (n - 1 - j)) % b

theorem digL_length (b x : Int) (n : Nat) : (digL b x n).length = n := by simp [digL]

theorem digL_at {b x : Int} {n j : Nat} (hj : j < n) : (digL b x n).getD j 0 = (x / pw b (n - 1 - j)) % b := by simp [digL, List.getD, hj]

theorem digL_digits {b x : Int} {n : Nat} (h2 : 2 ≤ b) (h10 : b ≤ 10) : Digits (digL b x n) := fun j hj => by
  rw [digL_length] at hj
  rw [digL_at hj]
  have h1 := Int.emod_nonneg (x / pw b (n - 1 - j)) (show b ≠ 0 by omega)
  have h2 := Int.emod_lt_of_pos (x / pw b (n - 1 - j)) (show 0 < b by omega)
  omega

theorem quot_step {b x : Int} {n p : Nat} (hp : p + 1 ≤ n) (h2 : 2 ≤ b) (h10 : b ≤ 10) (hn : n ≤ 6) : x / pw b (n - (p + 1)) / b = x / pw b (n - p) := by
  have h1 := (pw_bd6 h2 h10 (k := n - (p + 1)) (by omega)).1
  rw [Int.ediv_ediv_of_nonneg (by omega), ← pw_succ, show n - (p + 1) + 1 = n - p by omega]

theorem quot_bd {b x : Int} {k : Nat} (h2 : 2 ≤ b) (h10 : b ≤ 10) (hk : k ≤ 6) (h0 : 0 ≤ x) : 0 ≤ x / pw b k ∧ x / pw b k ≤ x := by
  have h1 := (pw_bd6 h2 h10 (k := k) hk).1
  exact ⟨Int.ediv_nonneg h0 (by omega), Int.ediv_le_self _ h0⟩

theorem cells_up (j p : Nat) (f : Nat → Value) (z : Value) : (if j = p then f p else if p + 1 ≤ j then f j else z) = if p ≤ j then f j else z := by
  by_cases h : j = p
  · subst h; simp
  · rw [if_neg h]
    by_cases h2 : p + 1 ≤ j
    · rw [if_pos h2, if_pos (by omega)]
    · rw [if_neg h2, if_neg (by omega)]

def hasNum (a b x : Int) : Bool := goodB a b && inB x 0 (countZ a b - 1)

def ofZ (a b x : Int) : ByteArray := if hasNum a b x then textOf (digL b x a.toNat) else ⟨#[]⟩

theorem ofZ_yes {n : Nat} {b x : Int} (h : hasNum n b x = true) : ofZ n b x = textOf (digL b x n) := by unfold ofZ; rw [h]; rfl

theorem ofZ_no {a b x : Int} (h : hasNum a b x = false) : ofZ a b x = ⟨#[]⟩ := by unfold ofZ; rw [h]; rfl

end Go.Proofs.YtgdjbclkdnmebaaDoor
