/- Texts of digits: what the two programs make of a list of digits. Digits 0 to 9. -/
import Derived.Test.YtfcljanechlmkaaCells
import Derived.LoopTactic
namespace Go.Proofs.Ytfcljanechlmkaa
open Go.ChangeShapes Go.WideShapes Go.ChangeAt Go.RowKit Go.Joins

theorem cells_step (j k : Nat) (f : Nat → Value) (z : Value) : (if j = k then f k else if j < k then f j else z) = if j < k + 1 then f j else z := by
  by_cases h : j = k
  · subst h; simp
  · rw [if_neg h]
    by_cases h2 : j < k
    · rw [if_pos h2, if_pos (by omega)]
    · rw [if_neg h2, if_neg (by omega)]

end Go.Proofs.Ytfcljanechlmkaa
