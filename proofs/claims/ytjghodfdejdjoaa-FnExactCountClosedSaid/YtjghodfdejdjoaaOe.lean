/- The forth and back order: the code with a rank, as both programs answer. No conditions. -/
import Derived.Test.YtjghodfdejdjoaaOd
namespace Go.Proofs.Ytjghodfdejdjoaa
open Go.ChangeShapes Go.WideShapes Go.ChangeAt Go.RowKit Go.Joins

/-- The code with a rank in an order. -/
def ocT (f : Int → Int → Int) (a b x : Int) : ByteArray := if hasNum a b x then textOf (orL f b x a.toNat) else ⟨#[]⟩

theorem ocT_yes {f : Int → Int → Int} {n : Nat} {b x : Int} (h : hasNum n b x = true) : ocT f n b x = textOf (orL f b x n) := by unfold ocT; rw [h]; rfl

theorem ocT_no {f : Int → Int → Int} {a b x : Int} (h : hasNum a b x = false) : ocT f a b x = ⟨#[]⟩ := by unfold ocT; rw [h]; rfl

theorem has_parts {a b x : Int} (h : hasNum a b x = true) : goodB a b = true ∧ a = (a.toNat : Int) ∧ 0 ≤ x ∧ x < pw b a.toNat := by
  unfold hasNum at h
  rw [Bool.and_eq_true] at h
  obtain ⟨h1, h2⟩ := h
  have h3 := good_yes h1
  have h4 : countZ a b = pw b a.toNat := by unfold countZ; rw [h1]; rfl
  have h5 : 0 ≤ x ∧ x ≤ countZ a b - 1 := of_decide_eq_true h2
  exact ⟨h1, by omega, h5.1, by omega⟩

theorem has_of {n : Nat} {b x : Int} (hg : goodB n b = true) (h0 : 0 ≤ x) (hx : x < pw b n) : hasNum n b x = true := by
  unfold hasNum
  rw [hg, countZ_yes hg]
  exact decide_eq_true ⟨h0, by omega⟩

theorem foR_zero {b x : Int} {n : Nat} (h0 : 0 ≤ x) (hx : x < pw b n) : foR b x n 0 = x := by
  unfold foR
  rw [Nat.sub_zero, Int.ediv_eq_zero_of_lt h0 hx, Int.emod_eq_of_lt h0 hx, if_neg (by omega)]

end Go.Proofs.Ytjghodfdejdjoaa
