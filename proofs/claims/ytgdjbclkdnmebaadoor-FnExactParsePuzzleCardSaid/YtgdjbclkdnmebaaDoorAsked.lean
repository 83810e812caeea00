/- A lock and a code of it: what both programs ask first, and what follows from a yes. No conditions. -/
import Derived.Test.YtgdjbclkdnmebaaDoorDigits
import Derived.Test.YtgdjbclkdnmebaaDoorIsCode
namespace Go.Proofs.YtgdjbclkdnmebaaDoor
open Go.ChangeShapes Go.WideShapes Go.ChangeAt Go.RowKit Go.Joins

/-- There are a lock and a code of it. -/
def askB (a b : Int) (s : ByteArray) : Bool := goodB a b && isCodeB a b s

theorem ask_eq (a b : Int) (s : ByteArray) : (goodB a b && isCodeB a b s) = askB a b s := rfl

structure Asked (a b : Int) (s : ByteArray) : Prop where
  good : goodB a b = true
  code : isCodeB a b s = true
  size : a = (s.size : Int)
  n1 : 1 ≤ s.size
  n6 : s.size ≤ 6
  b2 : 2 ≤ b
  b10 : b ≤ 10
  low : ∀ j, j < s.size → 0 ≤ (dg s).getD j 0 ∧ (dg s).getD j 0 < b
  digits : Digits (dg s)

theorem asked {a b : Int} {s : ByteArray} (h : askB a b s = true) : Asked a b s := by
  unfold askB at h
  rw [Bool.and_eq_true] at h
  obtain ⟨hg, hc⟩ := h
  have hg' := good_yes hg
  have hc' := hc
  unfold isCodeB at hc'
  rw [Bool.and_eq_true, decide_eq_true_eq, List.all_eq_true] at hc'
  obtain ⟨hs, ha⟩ := hc'
  have hlow : ∀ j, j < s.size → 0 ≤ (dg s).getD j 0 ∧ (dg s).getD j 0 < b := fun j hj => by
    have e : s[j] = s.data.toList[j]'(by simpa using hj) := rfl
    have := ha s[j] (by rw [e]; exact List.getElem_mem _)
    unfold digitB at this
    rw [decide_eq_true_eq] at this
    rw [dg_at hj]
    omega
  exact ⟨hg, hc, hs.symm, by omega, by omega, by omega, by omega, hlow, fun j hj => by
    have := hlow j (by rw [dg_length] at hj; exact hj)
    omega⟩

end Go.Proofs.YtgdjbclkdnmebaaDoor
