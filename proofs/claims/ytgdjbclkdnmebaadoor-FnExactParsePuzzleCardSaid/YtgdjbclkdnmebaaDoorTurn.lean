/- Turns: which ones a lock has, as both programs ask it. No conditions. -/
import Derived.Test.YtgdjbclkdnmebaaDoorAdd
import Derived.Deep.RegionHeld3
namespace Go.Proofs.YtgdjbclkdnmebaaDoor
open Go.ChangeShapes Go.WideShapes Go.ChangeAt Go.RowKit Go.Joins

/-- A turn of a wheel that is there, by 1 or -1. -/
def turnB (a x y : Int) : Bool := inB x 0 (a - 1) && (decide (y = 1) || decide (y = -1))

theorem eqm1 (y : Int) : (y == -1) = (true && (false || decide (y = -1))) := by
  by_cases h : y = -1 <;> simp [h]

end Go.Proofs.YtgdjbclkdnmebaaDoor
