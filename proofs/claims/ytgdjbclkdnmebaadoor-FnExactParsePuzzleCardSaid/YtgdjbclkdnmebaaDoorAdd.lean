/- Sums of codes and opposite codes, as both programs make them. No conditions. -/
import Derived.Test.YtgdjbclkdnmebaaDoorPair
namespace Go.Proofs.YtgdjbclkdnmebaaDoor
open Go.ChangeShapes Go.WideShapes Go.ChangeAt Go.RowKit Go.Joins

def twoB (a b : Int) (s t : ByteArray) : Bool := askB a b s && askB a b t

theorem two_yes {a b : Int} {s t : ByteArray} (h : twoB a b s t = true) : askB a b s = true ∧ askB a b t = true := by simpa [twoB] using h

def modI (b x : Int) : Int := x % b

theorem tmod_bd {b : Int} (h2 : 2 ≤ b) (h10 : b ≤ 10) (x : Int) : -10 ≤ x.tmod b ∧ x.tmod b ≤ 10 ∧ 0 ≤ x.tmod b + b ∧ (x.tmod b + b) % b = x % b := by
  have h := Int.emod_add_mul_ediv x b
  have t := Int.tmod_add_mul_tdiv x b
  have l : x.tmod b < b := Int.tmod_lt_of_pos x (by omega)
  have g : -b < x.tmod b := Int.lt_tmod_of_pos x (by omega)
  refine ⟨by omega, by omega, by omega, ?_⟩
  rw [Int.add_emod_right]
  exact ((congrArg (· % b) t).symm.trans (Int.add_mul_emod_self_left _ _ _)).symm

end Go.Proofs.YtgdjbclkdnmebaaDoor
