/- Codes behind turns of all knobs, as the model tells them. For at most 1048576 numbers. -/
import Derived.Test.YtkmgmlgjflnbeaaKnobs
namespace Go.Proofs.Ytkmgmlgjflnbeaa
open Go.ChangeShapes Go.WideShapes Go.ChangeAt Go.RowKit Go.Joins

theorem zip_knob {a b m : Int} {s : ByteArray} {xs : List Int} (hs : askB a b s = true) (hk : knobB a b xs = true) : knobB a b ((dg s).zipWith (addN b m) xs) = true := by
  have h1 := (asked hs).size
  have h2 := (knobB_yes hk).1
  have hb := (asked hs).b2
  have hl : ((dg s).zipWith (addN b m) xs).length = xs.length := by rw [List.length_zipWith, dg_length]; omega
  unfold knobB
  rw [hl, decide_eq_true h2, Bool.true_and, List.all_eq_true]
  intro x hx
  obtain ⟨j, hj, rfl⟩ := List.getElem_of_mem hx
  rw [List.getElem_zipWith]
  have h := addN_bd m hb ((dg s)[j]'(by rw [dg_length]; rw [hl] at hj; omega)) (xs[j]'(by rw [hl] at hj; exact hj))
  unfold inB
  exact decide_eq_true (by omega)

theorem turnK_ask {a b m : Int} {s : ByteArray} {xs : List Int} (hs : askB a b s = true) (hk : knobB a b xs = true) : askB a b (turnK b m s xs) = true :=
  knob_ask (asked hs).good (zip_knob hs hk)

/-- The code behind so many turns of the first knobs. -/
def afterK (b : Int) (ks : List (List Int)) (ts : List Int) (s : ByteArray) : Nat → ByteArray
  | 0 => s
  | k + 1 => turnK b (ts.getD k 0) (afterK b ks ts s k) (ks.getD k [])

theorem afterK_ask {a b : Int} {ks : List (List Int)} {ts : List Int} {s : ByteArray} (hs : askB a b s = true) (k : Nat) (hk : ∀ j, j < k → knobB a b (ks.getD j []) = true) : askB a b (afterK b ks ts s k) = true := by
  induction k with
  | zero => exact hs
  | succ k ih => exact turnK_ask (ih fun j hj => hk j (by omega)) (hk k (by omega))

/-- Whether all knobs can be turned so. -/
def kaB (a b : Int) (ks : List (List Int)) (s : ByteArray) (ts : List Int) : Bool := gcB a b ks s && decide (ts.length = ks.length) && ts.all fun x => inB x (-1000) 1000

def kaZ (a b : Int) (ks : List (List Int)) (s : ByteArray) (ts : List Int) : ByteArray := if kaB a b ks s ts then afterK b ks ts s ks.length else ⟨#[]⟩

theorem kaZ_yes {a b : Int} {ks : List (List Int)} {s : ByteArray} {ts : List Int} (h : kaB a b ks s ts = true) : kaZ a b ks s ts = afterK b ks ts s ks.length := by unfold kaZ; rw [h]; rfl

theorem kaZ_no {a b : Int} {ks : List (List Int)} {s : ByteArray} {ts : List Int} (h : kaB a b ks s ts = false) : kaZ a b ks s ts = ⟨#[]⟩ := by unfold kaZ; rw [h]; rfl

theorem all_in {xs : List Int} {lo hi : Int} (h : (xs.all fun x => inB x lo hi) = true) (j : Nat) (hj : j < xs.length) : lo ≤ xs.getD j 0 ∧ xs.getD j 0 ≤ hi := by
  have := List.all_eq_true.1 h xs[j] (List.getElem_mem _)
  unfold inB at this
  rw [decide_eq_true_eq] at this
  simpa only [List.getD, List.getElem?_eq_getElem hj, Option.getD_some] using this

end Go.Proofs.Ytkmgmlgjflnbeaa
