/- The distance of two codes, as both programs reckon it. No conditions. -/
import Derived.Test.YtgdjbclkdnmebaaDoorFar
namespace Go.Proofs.YtgdjbclkdnmebaaDoor
open Go.ChangeShapes Go.WideShapes Go.ChangeAt Go.RowKit Go.Joins

/-- The sum of the first numbers of a list. -/
def sumAt (ds : List Int) : Nat → Int
  | 0 => 0
  | k + 1 => sumAt ds k + ds.getD k 0

theorem sumAt_bd {ds : List Int} {n : Nat} (h : ∀ j, j < n → 0 ≤ ds.getD j 0 ∧ ds.getD j 0 ≤ 10) (k : Nat) : k ≤ n → 0 ≤ sumAt ds k ∧ sumAt ds k ≤ 10 * k := by
  induction k with
  | zero => intro _; simp [sumAt]
  | succ k ih =>
    intro hk
    have i := ih (by omega)
    have d := h k (by omega)
    rw [sumAt]
    omega

def distL (b : Int) (s t : ByteArray) : List Int := (dg s).zipWith (farI b) (dg t)

theorem distL_at {a b : Int} {s t : ByteArray} (h : Asked a b s) (ht : Asked a b t) {k : Nat} (hk : k < s.size) : (distL b s t).getD k 0 = farI b ((dg s).getD k 0) ((dg t).getD k 0) := by
  have h1 := h.size
  have h2 := ht.size
  exact zip_at _ _ _ (by rw [dg_length]; exact hk) (by rw [dg_length]; omega)

theorem distL_bd {a b : Int} {s t : ByteArray} (h : Asked a b s) (ht : Asked a b t) (k : Nat) (hk : k < s.size) : 0 ≤ (distL b s t).getD k 0 ∧ (distL b s t).getD k 0 ≤ 10 := by
  rw [distL_at h ht hk]
  have := farI_bd h.b2 ((dg s).getD k 0) ((dg t).getD k 0)
  have := h.b10
  omega

def fewZ (a b : Int) (s t : ByteArray) : Int := if twoB a b s t then sumAt (distL b s t) s.size else 0

theorem fewZ_yes {a b : Int} {s t : ByteArray} (h : twoB a b s t = true) : fewZ a b s t = sumAt (distL b s t) s.size := by unfold fewZ; rw [h]; rfl

theorem fewZ_no {a b : Int} {s t : ByteArray} (h : twoB a b s t = false) : fewZ a b s t = 0 := by unfold fewZ; rw [h]; rfl

end Go.Proofs.YtgdjbclkdnmebaaDoor
