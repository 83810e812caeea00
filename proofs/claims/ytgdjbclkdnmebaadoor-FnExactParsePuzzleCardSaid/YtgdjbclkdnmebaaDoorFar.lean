/- Distances of digits, as both programs reckon them. No conditions. -/
import Derived.Test.YtgdjbclkdnmebaaDoorAdd
import Derived.Deep.RegionHeld3
namespace Go.Proofs.YtgdjbclkdnmebaaDoor
open Go.ChangeShapes Go.WideShapes Go.ChangeAt Go.RowKit Go.Joins

/-- The lesser one. -/
def lstI (x y : Int) : Int := if x < y then x else y

/-- The distance of two digits: the lesser one of the ways forth and back. -/
def farI (b x y : Int) : Int := lstI (subI b y x) (subI b x y)

theorem far_back (b x y : Int) : (b - subI b y x) % b = subI b x y := by
  unfold subI
  rw [Int.sub_emod, Int.emod_emod, ← Int.sub_emod]
  rw [show b - (y - x) = x - y + b by omega, Int.add_emod_right]

theorem farI_bd {b : Int} (h : 2 ≤ b) (x y : Int) : 0 ≤ farI b x y ∧ farI b x y < b := by
  have h1 := subI_bd h x y
  have h2 := subI_bd h y x
  unfold farI lstI
  split <;> omega

end Go.Proofs.YtgdjbclkdnmebaaDoor
