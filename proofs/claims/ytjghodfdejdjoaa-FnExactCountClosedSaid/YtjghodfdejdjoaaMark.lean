/- Lists of turns marked and looked at again by the law, and compared. For lists of the call's own. -/
import Derived.Test.YtjghodfdejdjoaaEqTurns
namespace Go.Proofs.Ytjghodfdejdjoaa
open Go.ChangeShapes Go.WideShapes Go.ChangeAt Go.RowKit Go.Joins

/-- A list of turns handed back: empty, or cells of a block that is known. -/
def OwnT (w : World) (B : Nat) (A : Option Addr) (n : Nat) (ts : List (Int × Int)) : Prop :=
  ts.length = n ∧ n ≤ 1000 ∧ (n = 0 ∨ ∃ g, A = some ⟨g, 0, none⟩ ∧ B ≤ g ∧ Cells w g (n * 2) (turnF ts))

theorem OwnT.keep {w w' : World} {B : Nat} {A : Option Addr} {n : Nat} {ts : List (Int × Int)} (h : OwnT w B A n ts) (hb : Below w.heap.size w w') : OwnT w' B A n ts :=
  ⟨h.1, h.2.1, h.2.2.imp id fun ⟨g, e, hg, hC⟩ => ⟨g, e, hg, hC.call hb⟩⟩

/-- Marks: 1, 2, .. -/
def markF (j : Nat) : Value := .int .i64 ((j : Int) + 1)

end Go.Proofs.Ytjghodfdejdjoaa
