/- A code turned by another one so many times, as the model makes it. For at most a thousand times. -/
import Derived.Test.YtealpmjkmioocaaDoorAdd
namespace Go.Proofs.YtealpmjkmioocaaDoor
open Go.ChangeShapes Go.WideShapes Go.ChangeAt Go.RowKit Go.Joins

def addN (b m x y : Int) : Int := (x + m * y) % b

theorem addN_bd {b : Int} (m : Int) (h : 2 ≤ b) (x y : Int) : 0 ≤ addN b m x y ∧ addN b m x y < b := ⟨Int.emod_nonneg _ (by omega), Int.emod_lt_of_pos _ (by omega)⟩

theorem mul_bd {m y : Int} (h1 : -1000 ≤ m) (h2 : m ≤ 1000) (h3 : 0 ≤ y) (h4 : y ≤ 9) : -9000 ≤ m * y ∧ m * y ≤ 9000 := by
  have : y = 0 ∨ y = 1 ∨ y = 2 ∨ y = 3 ∨ y = 4 ∨ y = 5 ∨ y = 6 ∨ y = 7 ∨ y = 8 ∨ y = 9 := by omega
  rcases this with rfl | rfl | rfl | rfl | rfl | rfl | rfl | rfl | rfl | rfl <;> omega

end Go.Proofs.YtealpmjkmioocaaDoor
