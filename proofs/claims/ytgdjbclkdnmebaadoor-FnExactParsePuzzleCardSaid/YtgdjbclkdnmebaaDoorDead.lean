/- The law on AreDead: for every lock and list of texts both programs answer alike: whether they are dead codes of a lock that has few codes. For lists that can be. -/
import Derived.Test.YtgdjbclkdnmebaaDoorSs
import Derived.Laws.Strings
namespace Go.Proofs.YtgdjbclkdnmebaaDoor
open Go.ChangeShapes Go.WideShapes Go.ChangeAt Go.RowKit Go.Joins

/-- A lock of few codes. -/
def searchB (a b : Int) : Bool := goodB a b && decide (countZ a b ≤ 1000)

theorem searchB_good {a b : Int} (h : searchB a b = true) : goodB a b = true ∧ countZ a b ≤ 1000 := by
  unfold searchB at h
  simpa using h

/-- The text at a place is a code, and behind the one ahead of it. -/
def deadAt (a b : Int) (ts : List ByteArray) (i : Nat) : Bool :=
  isCodeB a b (ts.getD i ByteArray.empty) && (decide (i = 0) || Op.bytesLess (ts.getD (i - 1) ByteArray.empty).toList (ts.getD i ByteArray.empty).toList)

/-- Dead codes. -/
def deadB (a b : Int) (ts : List ByteArray) : Bool := decide (ts.length ≤ 60) && (List.range ts.length).all (deadAt a b ts)

def areZ (a b : Int) (ts : List ByteArray) : Bool := searchB a b && deadB a b ts

theorem upto_snoc {p : Nat → Bool} {k : Nat} (h : (List.range k).all p = true) (hk : p k = true) : (List.range (k + 1)).all p = true := by
  rw [List.range_succ, List.all_append, h]; simp [hk]

theorem upto_not {p : Nat → Bool} {k n : Nat} (hk : k < n) (h : p k = false) : (List.range n).all p = false := by
  rw [List.all_eq_false]
  exact ⟨k, List.mem_range.2 hk, by rw [h]; simp⟩

/-- Two numbers boxed. -/
def b2F (a b : Int) (j : Nat) : Value := (#[.int .i64 a, .int .i64 b] : Array Value).toList.getD j undef

theorem box_new {W : World} {a b : Int} {t : TypeId} {g : Nat} (hg : g = W.heap.size) : Cells (W.alloc (.cells #[.int .i64 a, .int .i64 b] t)) g 2 (b2F a b) := by
  subst hg
  refine ⟨by simp, fun j hj => ?_⟩
  rw [World.cell?_alloc_new, World.frozen?_alloc_new]
  refine ⟨?_, rfl⟩
  have : j = 0 ∨ j = 1 := by omega
  rcases this with rfl | rfl <;> rfl

end Go.Proofs.YtgdjbclkdnmebaaDoor
