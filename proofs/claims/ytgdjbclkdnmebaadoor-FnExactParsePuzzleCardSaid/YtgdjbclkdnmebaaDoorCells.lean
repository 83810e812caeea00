/- A row of cells at the head of a block, known by a function of the place: how it is kept and written. Plain facts on worlds; no conditions beyond those of each. -/
import Derived.Test.YtgdjbclkdnmebaaDoorCount
import Derived.Laws.BytesArg
import Derived.Deep.OwnRows
import Derived.Deep.Draws
namespace Go.Proofs.YtgdjbclkdnmebaaDoor
open Go.ChangeShapes Go.WideShapes Go.ChangeAt Go.RowKit Go.Joins

structure Cells (w : World) (g n : Nat) (f : Nat → Value) : Prop where
  lt : g < w.heap.size
  at_ : ∀ j, j < n → w.cell? ⟨g, j, none⟩ = some (f j) ∧ w.frozen? ⟨g, j, none⟩ = false

theorem Cells.cell {w : World} {g n : Nat} {f : Nat → Value} (h : Cells w g n f) {j : Nat} (hj : j < n) : w.cell? ⟨g, j, none⟩ = some (f j) := (h.at_ j hj).1

theorem Cells.frozen {w : World} {g n : Nat} {f : Nat → Value} (h : Cells w g n f) {j : Nat} (hj : j < n) : w.frozen? ⟨g, j, none⟩ = false := (h.at_ j hj).2

theorem Cells.congr {w : World} {g n : Nat} {f f' : Nat → Value} (h : Cells w g n f) (e : ∀ j, j < n → f j = f' j) : Cells w g n f' :=
  ⟨h.lt, fun j hj => by rw [← e j hj]; exact h.at_ j hj⟩

theorem Cells.below {w w' : World} {B g n : Nat} {f : Nat → Value} (h : Cells w g n f) (hb : Below B w w') (hg : g < B) : Cells w' g n f :=
  ⟨Nat.lt_of_lt_of_le h.lt hb.size, fun j hj => by rw [hb.cell (p := ⟨g, j, none⟩) hg, hb.frozen (p := ⟨g, j, none⟩) hg]; exact h.at_ j hj⟩

theorem Cells.call {w w' : World} {g n : Nat} {f : Nat → Value} (h : Cells w g n f) (hb : Below w.heap.size w w') : Cells w' g n f := h.below hb h.lt

theorem Cells.alloc {w : World} {g n : Nat} {f : Nat → Value} (h : Cells w g n f) (o : Obj) : Cells (w.alloc o) g n f :=
  h.call ((Below.refl _ _).alloc (Nat.le_refl _) o)

theorem Cells.drew {w : World} {g n : Nat} {f : Nat → Value} (h : Cells w g n f) : Cells w.drew g n f := ⟨h.lt, h.at_⟩

theorem Cells.drewN {w : World} {g n : Nat} {f : Nat → Value} (h : Cells w g n f) (k : Nat) : Cells (w.drewN k) g n f := ⟨h.lt, h.at_⟩

theorem size_setCell (w : World) (p : Addr) (v : Value) : (w.setCell p v).heap.size = w.heap.size := by simp

theorem Cells.far {w : World} {g n : Nat} {f : Nat → Value} (h : Cells w g n f) {p : Addr} (hp : p.block ≠ g) (v : Value) : Cells (w.setCell p v) g n f :=
  ⟨by rw [size_setCell]; exact h.lt, fun j hj => by
    rw [World.cell?_setCell_other w p _ v (fun e => hp (by rw [e])), World.frozen?_setCell]
    exact h.at_ j hj⟩

theorem Cells.set_ {w : World} {g n : Nat} {f : Nat → Value} (h : Cells w g n f) {k : Nat} (hk : k < n) (v : Value) : Cells (w.setCell ⟨g, k, none⟩ v) g n (fun j => if j = k then v else f j) :=
  ⟨by rw [size_setCell]; exact h.lt, fun j hj => by
    rw [World.frozen?_setCell]
    by_cases e : j = k
    · subst e
      rw [if_pos rfl]
      exact ⟨World.cell?_setCell_same w _ v (h.cell hk), h.frozen hj⟩
    · rw [if_neg e, World.cell?_setCell_other w _ _ v (fun e' => e (by injection e' with _ e' _; exact e'.symm))]
      exact h.at_ j hj⟩

theorem Cells.made (w : World) (z : Value) (n : Nat) (t : TypeId) : Cells (w.alloc (.cells (madeCells #[z] n) t)) w.heap.size n (fun _ => z) :=
  ⟨by simp, fun j hj => by
    rw [World.cell?_alloc_new, World.frozen?_alloc_new]
    refine ⟨?_, rfl⟩
    have h1 : j < (madeCells #[z] n).size := by rw [size_madeCells]; exact hj
    rw [Array.getElem?_eq_getElem h1]
    simp [madeCells, Nat.mod_one]⟩

theorem Cells.sub {w : World} {g n m : Nat} {f : Nat → Value} (h : Cells w g n f) (hm : m ≤ n) : Cells w g m f := ⟨h.lt, fun j hj => h.at_ j (by omega)⟩

theorem ret_str {a b : ByteArray} (h : a = b) : Ending.returned (.string a) = .returned (.string b) := by rw [h]

/-- The integers ds, as cells. -/
def digF (ds : List Int) (j : Nat) : Value := .int .i64 (ds.getD j 0)

/-- Each is a digit. -/
def Digits (ds : List Int) : Prop := ∀ j, j < ds.length → 0 ≤ ds.getD j 0 ∧ ds.getD j 0 ≤ 9

/-- The text of digits. -/
def textOf (ds : List Int) : ByteArray := strOfNums (ds.map (48 + ·))

theorem textOf_snoc (ds : List Int) {k : Nat} (hk : k < ds.length) : textOf (ds.take k) ++ strOfNums [48 + ds.getD k 0] = textOf (ds.take (k + 1)) := by
  unfold textOf strOfNums
  rw [List.take_succ_eq_append_getElem hk, ByteArray.mk_append_mk]
  congr 1
  simp [List.getD, List.getElem?_eq_getElem hk]
  rw [List.take_succ_eq_append_getElem (by simpa using hk)]
  simp

theorem textOf_size (ds : List Int) : (textOf ds).size = ds.length := by unfold textOf; rw [strOfNums_size]; simp

theorem strOne_size (n : Int) : (strOfNums [n]).size = 1 := by rw [strOfNums_size]; rfl

theorem textOf_all (ds : List Int) {k : Nat} (hk : k = ds.length) : textOf (ds.take k) = textOf ds := by rw [List.take_of_length_le (by omega)]

end Go.Proofs.YtgdjbclkdnmebaaDoor
