/- Distances of digits, as both programs reckon them. No conditions. -/
import Derived.Test.YtjghodfdejdjoaaAdd
import Derived.Deep.RegionHeld3
namespace Go.Proofs.Ytjghodfdejdjoaa
open Go.ChangeShapes Go.WideShapes Go.ChangeAt Go.RowKit Go.Joins

/-- The lesser one. -/
def lstI (x y : Int) : Int := if x < y then x else y

theorem l1Least_any (x y : Int) (w : World) :
    Calls Try.prog 37 #[.int .i64 x, .int .i64 y] w fun e w' => e = .returned (.int .i64 (lstI x y)) ∧ w = w' := by
  by_cases h : x < y
  all_goals
    go_enter Try.func37, Try.ntmps37
    go_wp2
    go_ret
    exact ⟨ret_int (by simp [lstI, h] <;> omega), rfl⟩

/-- The distance of two digits: the lesser one of the ways forth and back. -/
def farI (b x y : Int) : Int := lstI (subI b y x) (subI b x y)

theorem far_back (b x y : Int) : (b - subI b y x) % b = subI b x y := by
  unfold subI
  rw [Int.sub_emod, Int.emod_emod, ← Int.sub_emod]
  rw [show b - (y - x) = x - y + b by omega, Int.add_emod_right]

theorem farI_bd {b : Int} (h : 2 ≤ b) (x y : Int) : 0 ≤ farI b x y ∧ farI b x y < b := by
  have h1 := subI_bd h x y
  have h2 := subI_bd h y x
  unfold farI lstI
  split <;> omega

theorem whFar_any (a b x y : Int) (w : World) (h2 : 2 ≤ b) (h10 : b ≤ 10) (hx : 0 ≤ x ∧ x ≤ 10) (hy : 0 ≤ y ∧ y ≤ 10) :
    Calls Try.prog 36 #[.agg #[.int .i64 a, .int .i64 b], .int .i64 x, .int .i64 y] w fun e w' => e = .returned (.tuple #[.int .i64 (subI b y x), .int .i64 (subI b x y)]) ∧ Below w.heap.size w w' := by
  have HF := Lib.hid (far_back b x y)
  have hu := subI_bd h2 y x
  have hm : modI b (y - x) = subI b y x := rfl
  have HM := Lib.hid hm
  clear hm
  generalize subI b y x = u at hu HF HM
  obtain ⟨u0, u1⟩ := hu
  go_enter Try.func36, Try.ntmps36
  go_wp2_with (go_at_call 48; refine (l1Mod_any _ _ _ (by omega) (by omega)).mono ?_; rw [HM.out]; rintro e w1 ⟨rfl, rfl⟩)
  go_quiet (fail)
  go_wp2
  go_ret2
  refine ⟨by rw [← HF.out]; rfl, ?_⟩
  (repeat (first | assumption | exact Below.refl _ _ | (refine Below.alloc ?_ (by first | omega | (simp; done) | (simp; omega)) _) | (refine Below.setCell ?_ (by first | omega | (simp; done) | (simp; omega)) _) | refine bel_drewN ?_ _ | refine bel_drew ?_ | (refine bel_call ?_ (by assumption))))

end Go.Proofs.Ytjghodfdejdjoaa
