/- Sums and differences of digits, and two codes taken together digit by digit. No conditions. -/
import Derived.Test.YtgdjbclkdnmebaaDoorAsked
import Derived.Deep.RegionWith
namespace Go.Proofs.YtgdjbclkdnmebaaDoor
open Go.ChangeShapes Go.WideShapes Go.ChangeAt Go.RowKit Go.Joins

/-- Sum, difference and distance of digits, around. -/
def addI (b x y : Int) : Int := (x + y) % b

def subI (b x y : Int) : Int := (x - y) % b

def distI (b x y : Int) : Int := if subI b x y ≤ subI b y x then subI b x y else subI b y x

theorem subI_bd {b : Int} (h : 2 ≤ b) (x y : Int) : 0 ≤ subI b x y ∧ subI b x y < b := ⟨Int.emod_nonneg _ (by omega), Int.emod_lt_of_pos _ (by omega)⟩

theorem addI_bd {b : Int} (h : 2 ≤ b) (x y : Int) : 0 ≤ addI b x y ∧ addI b x y < b := ⟨Int.emod_nonneg _ (by omega), Int.emod_lt_of_pos _ (by omega)⟩

theorem distI_bd {b : Int} (h : 2 ≤ b) (x y : Int) : 0 ≤ distI b x y ∧ distI b x y < b := by
  unfold distI
  split
  · exact subI_bd h x y
  · exact subI_bd h y x

theorem zip_at {f : Int → Int → Int} (xs ys : List Int) (k : Nat) (hx : k < xs.length) (hy : k < ys.length) : (xs.zipWith f ys).getD k 0 = f (xs.getD k 0) (ys.getD k 0) := by
  simp [List.getD, List.getElem?_eq_getElem hx, List.getElem?_eq_getElem hy, List.getElem?_zipWith]

theorem below_undrew {B : Nat} {w w' : World} (h : Below B w.drew w') : Below B w w' := ⟨h.os, h.tape, h.output, h.size, h.block⟩

theorem pair_rel {w wr w3 : World} {g1 g2 k n : Nat} {Z D T : List Int} {x y : Value} {v : Int} (h1 : Cells wr g1 n (fun j => if j < k then digF Z j else digF D j)) (hk : k < n) (hv : Z.getD k 0 = v)
    (h2 : Cells wr g2 n (digF T)) (ne : g1 ≠ g2) (l0 : wr.cell? ⟨w.heap.size, 0, none⟩ = some x) (l1 : wr.cell? ⟨w.heap.size, 1, none⟩ = some y) (z4 : w.heap.size < wr.heap.size) (z1 : w.heap.size < g1)
    (hB : Below w.heap.size w wr) (hb : Below wr.heap.size wr w3) :
    Cells (w3.setCell ⟨g1, k, none⟩ (.int .i64 v)) g1 n (fun j => if j < k + 1 then digF Z j else digF D j) ∧ Cells (w3.setCell ⟨g1, k, none⟩ (.int .i64 v)) g2 n (digF T) ∧
    (w3.setCell ⟨g1, k, none⟩ (.int .i64 v)).cell? ⟨w.heap.size, 0, none⟩ = some x ∧ (w3.setCell ⟨g1, k, none⟩ (.int .i64 v)).cell? ⟨w.heap.size, 1, none⟩ = some y ∧
    w.heap.size < (w3.setCell ⟨g1, k, none⟩ (.int .i64 v)).heap.size ∧ Below w.heap.size w (w3.setCell ⟨g1, k, none⟩ (.int .i64 v)) := by
  subst hv
  refine ⟨((h1.call hb).set_ hk _).congr (fun j hj => ?_), (h2.call hb).far ne _, ?_, ?_, ?_, (bel_call hB hb).setCell (Nat.le_of_lt z1) _⟩
  · by_cases h : j = k
    · subst h; simp [digF]
    · rw [if_neg h]
      by_cases h2 : j < k
      · rw [if_pos h2, if_pos (by omega)]
      · rw [if_neg h2, if_neg (by omega)]
  · rw [World.cell?_setCell_far _ _ _ _ (by simp; omega), hb.cell (p := ⟨w.heap.size, 0, none⟩) z4, l0]
  · rw [World.cell?_setCell_far _ _ _ _ (by simp; omega), hb.cell (p := ⟨w.heap.size, 1, none⟩) z4, l1]
  · rw [size_setCell]; have := hb.size; omega

theorem pair_rel_drew {w wr w3 : World} {g1 g2 k n : Nat} {Z D T : List Int} {x y : Value} {v : Int} (h1 : Cells wr g1 n (fun j => if j < k then digF Z j else digF D j)) (hk : k < n) (hv : Z.getD k 0 = v)
    (h2 : Cells wr g2 n (digF T)) (ne : g1 ≠ g2) (l0 : wr.cell? ⟨w.heap.size, 0, none⟩ = some x) (l1 : wr.cell? ⟨w.heap.size, 1, none⟩ = some y) (z4 : w.heap.size < wr.heap.size) (z1 : w.heap.size < g1)
    (hB : Below w.heap.size w wr) (hb : Below wr.heap.size wr w3) :
    Cells (w3.setCell ⟨g1, k, none⟩ (.int .i64 v)).drew g1 n (fun j => if j < k + 1 then digF Z j else digF D j) ∧ Cells (w3.setCell ⟨g1, k, none⟩ (.int .i64 v)).drew g2 n (digF T) ∧
    (w3.setCell ⟨g1, k, none⟩ (.int .i64 v)).drew.cell? ⟨w.heap.size, 0, none⟩ = some x ∧ (w3.setCell ⟨g1, k, none⟩ (.int .i64 v)).drew.cell? ⟨w.heap.size, 1, none⟩ = some y ∧
    w.heap.size < (w3.setCell ⟨g1, k, none⟩ (.int .i64 v)).drew.heap.size ∧ Below w.heap.size w (w3.setCell ⟨g1, k, none⟩ (.int .i64 v)).drew :=
  have h := pair_rel h1 hk hv h2 ne l0 l1 z4 z1 hB hb
  ⟨h.1.drew, h.2.1.drew, h.2.2.1, h.2.2.2.1, h.2.2.2.2.1, bel_drew h.2.2.2.2.2⟩

end Go.Proofs.YtgdjbclkdnmebaaDoor
