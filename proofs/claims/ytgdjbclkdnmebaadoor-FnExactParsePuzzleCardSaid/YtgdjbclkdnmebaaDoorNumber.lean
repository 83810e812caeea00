/- The number of a code, as both programs reckon it. No conditions. -/
import Derived.Test.YtgdjbclkdnmebaaDoorAsked
namespace Go.Proofs.YtgdjbclkdnmebaaDoor
open Go.ChangeShapes Go.WideShapes Go.ChangeAt Go.RowKit Go.Joins

/-- The number that the first digits tell. -/
def numAt (b : Int) (ds : List Int) : Nat → Int
  | 0 => 0
  | k + 1 => numAt b ds k * b + ds.getD k 0

theorem numAt_bd {b : Int} {ds : List Int} {n : Nat} (hb : 2 ≤ b) (h : ∀ j, j < n → 0 ≤ ds.getD j 0 ∧ ds.getD j 0 < b) (k : Nat) : k ≤ n → 0 ≤ numAt b ds k ∧ numAt b ds k + 1 ≤ pw b k := by
  induction k with
  | zero => intro _; rw [pw_zero]; exact ⟨Int.le_refl _, by simp [numAt]⟩
  | succ k ih =>
    intro hk
    obtain ⟨i1, i2⟩ := ih (by omega)
    obtain ⟨d1, d2⟩ := h k (by omega)
    rw [pw_succ, numAt]
    refine ⟨?_, ?_⟩
    · have := Int.mul_nonneg i1 (show 0 ≤ b by omega)
      omega
    · have := Int.mul_le_mul_of_nonneg_right i2 (show 0 ≤ b by omega)
      rw [Int.add_mul] at this
      omega

/-- What the walk asks of one step: nothing wraps. -/
theorem numAt_step {a b : Int} {s : ByteArray} (h : Asked a b s) {k : Nat} (hk : k < s.size) :
    0 ≤ numAt b (dg s) k ∧ numAt b (dg s) k ≤ 1000000 ∧ 0 ≤ numAt b (dg s) k * b ∧ numAt b (dg s) k * b ≤ 1000000 := by
  obtain ⟨i1, i2⟩ := numAt_bd h.b2 h.low k (by omega)
  obtain ⟨j1, j2⟩ := numAt_bd h.b2 h.low (k + 1) (by omega)
  have p1 := pw_bd6 h.b2 h.b10 (k := k) (by have := h.n6; omega)
  have p2 := pw_bd6 h.b2 h.b10 (k := k + 1) (by have := h.n6; omega)
  have d := h.low k hk
  have m := Int.mul_nonneg i1 (show 0 ≤ b by have := h.b2; omega)
  rw [numAt] at j1 j2
  omega

def numZ (a b : Int) (s : ByteArray) : Int := if askB a b s then numAt b (dg s) s.size else 0

theorem numZ_yes {a b : Int} {s : ByteArray} (h : askB a b s = true) : numZ a b s = numAt b (dg s) s.size := by unfold numZ; rw [h]; rfl

theorem numZ_no {a b : Int} {s : ByteArray} (h : askB a b s = false) : numZ a b s = 0 := by unfold numZ; rw [h]; rfl

end Go.Proofs.YtgdjbclkdnmebaaDoor
