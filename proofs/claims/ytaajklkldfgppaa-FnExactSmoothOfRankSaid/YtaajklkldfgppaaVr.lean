/- Which texts are keys of pins, as the model and the program ask it. For pins and texts of at most 2^20 signs. -/
import Derived.Test.YtaajklkldfgppaaVq
namespace Go.Proofs.Ytaajklkldfgppaa
open Go.ChangeShapes Go.WideShapes Go.ChangeAt Go.RowKit Go.Joins

/-- A key of pins. -/
def okZ (d : Int) (ks : List (List Int)) (s : ByteArray) : Bool := pinsB d ks && decide (s.size = ks.length) && allK d s

theorem okZ_eq (d : Int) (ks : List (List Int)) (s : ByteArray) : okZ d ks s = (keyB d s && pinsB d ks && kindB d s.size d ks.length) := by
  unfold okZ keyB kindB
  rw [decide_eq_true rfl, Bool.true_and]
  cases h : pinsB d ks with
  | false => simp
  | true =>
    obtain ⟨h1, h2, h3, h4, _⟩ := pinsB_yes h
    by_cases hn : s.size = ks.length
    · rw [decide_eq_true hn]
      unfold inB
      rw [decide_eq_true (show 1 ≤ d ∧ d ≤ 9 from ⟨h1, h2⟩), decide_eq_true (show (1 : Int) ≤ (s.size : Int) ∧ (s.size : Int) ≤ 7 by omega)]
      simp
    · rw [decide_eq_false hn]
      simp

def okD (d : Int) (ks : List (List Int)) (s : ByteArray) : Int := if okZ d ks s then d else 0

def okK (d : Int) (ks : List (List Int)) (s : ByteArray) : List (List Int) := if okZ d ks s then kqL (dg s) s.size else []

end Go.Proofs.Ytaajklkldfgppaa
