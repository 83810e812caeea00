/- Distances of digits, as both programs reckon them. No conditions. -/
import Derived.Test.YtfgogiafimiibaaAdd
import Derived.Deep.RegionHeld3
namespace Go.Proofs.Ytfgogiafimiibaa
open Go.ChangeShapes Go.WideShapes Go.ChangeAt Go.RowKit Go.Joins

/-- The lesser one. -/
def lstI (x y : Int) : Int := if x < y then x else y

theorem l1Least_any (x y : Int) (w : World) :
    Calls Try.prog 101 #[.int .i64 x, .int .i64 y] w fun e w' => e = .returned (.int .i64 (lstI x y)) ∧ w = w' := by
  by_cases h : x < y
  all_goals
    go_enter Try.func101, Try.ntmps101
    go_wp2
    go_ret
    exact ⟨ret_int (by simp [lstI, h] <;> omega), rfl⟩

/-- The distance of two digits: the lesser one of the ways forth and back. -/
def farI (b x y : Int) : Int := lstI (subI b y x) (subI b x y)

theorem far_back (b x y : Int) : (b - subI b y x) % b = subI b x y := by
  unfold subI
  rw [Int.sub_emod, Int.emod_emod, ← Int.sub_emod]
  rw [show b - (y - x) = x - y + b by omega, Int.add_emod_right]

theorem farI_bd {b : Int} (h : 2 ≤ b) (x y : Int) : 0 ≤ farI b x y ∧ farI b x y < b := by
  have h1 := subI_bd h x y
  have h2 := subI_bd h y x
  unfold farI lstI
  split <;> omega

end Go.Proofs.Ytfgogiafimiibaa
