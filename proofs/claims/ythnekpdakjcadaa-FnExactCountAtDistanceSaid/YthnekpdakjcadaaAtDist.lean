/- How many codes there are at each distance, as the program counts them. For locks. -/
import Derived.Test.YthnekpdakjcadaaRounds2
import Derived.StillTailTactics
namespace Go.Proofs.Ythnekpdakjcadaa
open Go.ChangeShapes Go.WideShapes Go.ChangeAt Go.RowKit Go.Joins

/-- What the first q digits of one wheel more bring to a distance. -/
def cW (b : Int) (C : List Int) (t : Nat) : Nat → Int
  | 0 => 0
  | q + 1 => cW b C t q + if (farI b 0 q).toNat ≤ t then C.getD (t - (farI b 0 q).toNat) 0 else 0
def cwP (b : Int) (C : List Int) (q : Nat) : List Int := (List.range 101).map fun t => cW b C t q
def pad (R : List Int) : List Int := (List.range 101).map fun t => R.getD t 0
theorem cwP_length (b : Int) (C : List Int) (q : Nat) : (cwP b C q).length = 101 := by simp [cwP]
theorem cwP_at {b : Int} {C : List Int} {q t : Nat} (h : t < 101) : (cwP b C q).getD t 0 = cW b C t q := by simp [cwP, List.getD, h]
theorem pad_length (R : List Int) : (pad R).length = 101 := by simp [pad]
theorem pad_at {R : List Int} {t : Nat} (h : t < 101) : (pad R).getD t 0 = R.getD t 0 := by simp [pad, List.getD, h]
theorem cW_bd {b : Int} {C : List Int} {N : Int} (h : Bnd C N) (t q : Nat) : 0 ≤ cW b C t q ∧ cW b C t q ≤ q * N := by
  have hN : 0 ≤ N := by have := h 0; omega
  induction q with
  | zero => simp [cW]
  | succ q ih =>
    have h1 := h (t - (farI b 0 q).toNat)
    rw [cW, show ((q + 1 : Nat) : Int) * N = q * N + N by rw [Int.natCast_add, Int.add_mul]; simp]
    split <;> omega
theorem pad_bnd {R : List Int} {N : Int} (h : Bnd R N) : Bnd (pad R) N := fun j => by
  by_cases hj : j < 101
  · rw [pad_at hj]; exact h j
  · rw [List.getD, List.getElem?_eq_none (by rw [pad_length]; omega)]
    have := h j
    simp; omega

def okPad (b : Int) (k : Nat) : Bool := cwP b (pad (roundsL b k)) b.toNat == pad (roundsL b (k + 1))
theorem pad_ok : ((List.range 9).all fun i => (List.range 6).all fun k => okPad ((i : Int) + 2) k) = true := by decide +kernel

end Go.Proofs.Ythnekpdakjcadaa
