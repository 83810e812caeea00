/- Gears copied by the law, their size told, compared. For at most 1048576 numbers. -/
import Derived.Test.YtgdjbclkdnmebaaDoorGrid
namespace Go.Proofs.YtgdjbclkdnmebaaDoor
open Go.ChangeShapes Go.WideShapes Go.ChangeAt Go.RowKit Go.Joins

theorem GridT.under {w : World} {g n : Nat} {ks : List (List Int)} {G : Nat → Nat} (h : GridT w g n ks G) {p : Addr} (hp : p.block < g) (v : Value) : GridT (w.setCell p v) g n ks G :=
  ⟨h.top.far (by omega) v, fun k hk => ⟨(h.row k hk).1, (h.row k hk).2.far (by have := (h.row k hk).1; omega) v⟩, h.up⟩

/-- A block that has just been made. -/
theorem Cells.new {W : World} {cs : Array Value} {t : TypeId} {g n : Nat} (hg : g = W.heap.size) (hn : n = cs.size) : Cells (W.alloc (.cells cs t)) g n (fun j => cs.toList.getD j undef) := by
  subst hg hn
  refine ⟨by simp, fun j hj => ?_⟩
  rw [World.cell?_alloc_new, World.frozen?_alloc_new]
  refine ⟨?_, rfl⟩
  simp [List.getD, hj]

end Go.Proofs.YtgdjbclkdnmebaaDoor
