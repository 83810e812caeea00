/- The law on CountCodes: for every lock both programs answer alike: as many codes as the digits' number to the power of the wheels' number. No conditions. -/
import Derived.Test.YtaajklkldfgppaaIsCode
namespace Go.Proofs.Ytaajklkldfgppaa
open Go.ChangeShapes Go.WideShapes Go.ChangeAt Go.RowKit Go.Joins

def pw (b : Int) (k : Nat) : Int := b ^ k

theorem pw_zero (b : Int) : pw b 0 = 1 := Int.pow_zero b

theorem pw_succ (b : Int) (k : Nat) : pw b (k + 1) = pw b k * b := Int.pow_succ b k

theorem pw_bd {b : Int} (h1 : 2 ≤ b) (h2 : b ≤ 10) (k : Nat) : k ≤ 6 → 1 ≤ pw b k ∧ pw b k ≤ 10 ^ k := by
  induction k with
  | zero => intro _; simp [pw]
  | succ k ih =>
    intro hk
    obtain ⟨i1, i2⟩ := ih (by omega)
    rw [pw_succ]
    refine ⟨?_, ?_⟩
    · have := Int.mul_le_mul i1 (show (1 : Int) ≤ b by omega) (by omega) (by omega)
      omega
    · rw [Int.pow_succ]
      exact Int.mul_le_mul i2 h2 (by omega) (by omega)

theorem ten_pow {k : Nat} (h : k ≤ 6) : (10 : Int) ^ k ≤ 1000000 := by
  have : k = 0 ∨ k = 1 ∨ k = 2 ∨ k = 3 ∨ k = 4 ∨ k = 5 ∨ k = 6 := by omega
  rcases this with rfl | rfl | rfl | rfl | rfl | rfl | rfl <;> decide

theorem pw_bd6 {b : Int} (h1 : 2 ≤ b) (h2 : b ≤ 10) {k : Nat} (hk : k ≤ 6) : 1 ≤ pw b k ∧ pw b k ≤ 1000000 :=
  ⟨(pw_bd h1 h2 k hk).1, Int.le_trans (pw_bd h1 h2 k hk).2 (ten_pow hk)⟩

/-- How many codes there are; 0 where there is no lock. -/
def countZ (a b : Int) : Int := if goodB a b then pw b a.toNat else 0

theorem countZ_yes {n : Nat} {b : Int} (h : goodB n b = true) : countZ n b = pw b n := by unfold countZ; rw [h]; rfl

theorem countZ_no {a b : Int} (h : goodB a b = false) : countZ a b = 0 := by unfold countZ; rw [h]; rfl

end Go.Proofs.Ytaajklkldfgppaa
