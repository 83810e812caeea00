/- Gears with a knob more, as the model tells them. For at most 1048576 numbers. -/
import Derived.Test.YtealpmjkmioocaaDoorDropKnob
namespace Go.Proofs.YtealpmjkmioocaaDoor
open Go.ChangeShapes Go.WideShapes Go.ChangeAt Go.RowKit Go.Joins

theorem woAt_neg (ks : List (List Int)) {q : Int} (hq : q < 0) (k : Nat) (hk : k ≤ ks.length) : woAt ks q k = ks.take k := by
  induction k with
  | zero => rfl
  | succ k ih =>
    rw [woAt, if_neg (by omega), ih (by omega), List.take_succ_eq_append_getElem (by omega)]
    simp [List.getD, List.getElem?_eq_getElem (show k < ks.length by omega)]

theorem RowG.other {w : World} {B : Nat} {v : Value} {ks : List (List Int)} {G Cp : Nat → Nat} (h : RowG w B v ks G Cp) {g k : Nat} (hne : v.ownBlock ≠ some g) (hG : ∀ i, i < ks.length → G i ≠ g) (x : Value) : RowG (w.setCell ⟨g, k, none⟩ x) B v ks G Cp := by
  have hgrow : w.grownBy (w.setCell ⟨g, k, none⟩ x) (some g) := ⟨rfl, rfl, rfl, by rw [size_setCell]; exact Nat.le_refl _, fun j _ hj => Below.heap_setCell _ _ _ j (fun e => hj (by rw [e]))⟩
  refine ⟨h.own.kept hgrow ?_, fun i hi => ⟨(h.row i hi).1, (h.row i hi).2.1, (h.row i hi).2.2.far (fun e => hG i hi e.symm) _⟩, h.apart⟩
  rcases h.own.2 with ⟨rfl, _⟩ | ⟨g', cap, cur, rfl, hb, _⟩
  · exact .inl rfl
  · exact .inr fun e => hne e

def akB (a b : Int) (ks : List (List Int)) (xs : List Int) : Bool := gearsB a b ks && knobB a b xs && !decide (ks.length = 5)

def akA (a b : Int) (ks : List (List Int)) (xs : List Int) (x : Int) : Int := if akB a b ks xs then x else 0

def akZ (a b : Int) (ks : List (List Int)) (xs : List Int) : List (List Int) := if akB a b ks xs then ks ++ [xs] else []

end Go.Proofs.YtealpmjkmioocaaDoor
