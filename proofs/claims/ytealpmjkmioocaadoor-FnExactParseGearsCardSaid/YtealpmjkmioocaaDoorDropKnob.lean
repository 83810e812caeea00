/- Gears without a knob and with one more, as the model tells them. For at most 1048576 numbers. -/
import Derived.Test.YtealpmjkmioocaaDoorWithout2
namespace Go.Proofs.YtealpmjkmioocaaDoor
open Go.ChangeShapes Go.WideShapes Go.ChangeAt Go.RowKit Go.Joins

/-- Gears handed back, and whether there are some. -/
def GearsOut (w : World) (a b : Int) (ks : List (List Int)) (ok : Bool) (e : Ending) (w' : World) : Prop :=
  ∃ v B G Cp, e = .returned (.tuple #[.agg #[.int .i64 a, .int .i64 b, v], .bool ok]) ∧ w.heap.size ≤ B ∧ RowG w' B v ks G Cp ∧ Below w.heap.size w w'

theorem rowG_nil (w : World) (B : Nat) : RowG w B (.slice none 0 0) [] (fun _ => 0) (fun _ => 0) :=
  ⟨World.ownsRow_nil _ _ _ _, fun i hi => by simp at hi, fun i j hi => by simp at hi⟩

theorem gears_none {w w' : World} (hb : Below w.heap.size w w') : GearsOut w 0 0 [] false (.returned (.tuple #[.agg #[.int .i64 0, .int .i64 0, .slice none 0 0], .bool false])) w' :=
  ⟨_, w.heap.size, _, _, rfl, Nat.le_refl _, rowG_nil _ _, hb⟩

theorem RowG.call {w w' : World} {B : Nat} {v : Value} {ks : List (List Int)} {G Cp : Nat → Nat} (h : RowG w B v ks G Cp) (hb : Below w.heap.size w w') : RowG w' B v ks G Cp :=
  ⟨own_kept h.own hb, fun i hi => ⟨(h.row i hi).1, (h.row i hi).2.1, (h.row i hi).2.2.call hb⟩, h.apart⟩

theorem RowG.slice {w : World} {B : Nat} {v : Value} {ks : List (List Int)} {G Cp : Nat → Nat} (h : RowG w B v ks G Cp) : ∃ A c, v = .slice A ks.length c := by
  rcases h.own.2 with ⟨e, h0⟩ | ⟨g, cap, _, e, _⟩
  · exact ⟨none, 0, by rw [e, h0]⟩
  · exact ⟨_, cap, e⟩

def dkB (a b : Int) (ks : List (List Int)) (q : Int) : Bool := gearsB a b ks && inB q 0 ((ks.length : Int) - 1) && !decide (ks.length = 1)

def dkA (a b : Int) (ks : List (List Int)) (q x : Int) : Int := if dkB a b ks q then x else 0

def dkZ (a b : Int) (ks : List (List Int)) (q : Int) : List (List Int) := if dkB a b ks q then woAt ks q ks.length else []

end Go.Proofs.YtealpmjkmioocaaDoor
