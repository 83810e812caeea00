/- Gears in a block that is known, carried over calls. No conditions. -/
import Derived.Test.YtkmgmlgjflnbeaaJoFar
namespace Go.Proofs.Ytkmgmlgjflnbeaa
open Go.ChangeShapes Go.WideShapes Go.ChangeAt Go.RowKit Go.Joins

/-- Gears in a block that is known, and nothing that was there has changed. -/
structure GS (w W : World) (a b : Int) (A : Option Addr) (n c : Nat) : Prop where
  box : Cells W w.heap.size 3 (bxF a b (.slice A n c))
  bel : Below w.heap.size w W

theorem gs_drew {w W : World} {a b : Int} {A : Option Addr} {n c : Nat} (h : Hid (GS w W a b A n c)) : Hid (GS w W.drew a b A n c) := Lib.hid ⟨h.out.box.drew, bel_drew h.out.bel⟩

theorem gs_call {w W w' : World} {a b : Int} {A : Option Addr} {n c : Nat} (h : Hid (GS w W a b A n c)) (hb : Below W.heap.size W w') : Hid (GS w w' a b A n c) := Lib.hid ⟨h.out.box.call hb, bel_call h.out.bel hb⟩

theorem Cells.grownG {w w' : World} {g n : Nat} {f : Nat → Value} {row : Option Nat} (h : Cells w g n f) (hg : w.grownBy w' row) (hne : some g ≠ row) : Cells w' g n f := by
  have e1 := hg.block g h.lt hne
  exact ⟨Nat.lt_of_lt_of_le h.lt hg.size, fun j hj => by
    have := h.at_ j hj
    rw [World.cell?_of_block (a := ⟨g, j, none⟩) e1, World.frozen?_of_block (a := ⟨g, j, none⟩) e1]; exact this⟩

theorem gs_grown {w W w' : World} {a b : Int} {A : Option Addr} {n c : Nat} {row : Option Nat} (h : Hid (GS w W a b A n c)) (hg : W.grownBy w' row) (hne : some w.heap.size ≠ row) (hr : ∀ j, row = some j → w.heap.size ≤ j) : Hid (GS w w' a b A n c) :=
  Lib.hid ⟨h.out.box.grownG hg hne, h.out.bel.grown hg h.out.bel.size hr⟩

theorem gs_alloc {w W : World} {a b : Int} {A : Option Addr} {n c : Nat} (h : Hid (GS w W a b A n c)) (o : Obj) : Hid (GS w (W.alloc o) a b A n c) := gs_call h ((Below.refl _ _).alloc (Nat.le_refl _) o)

theorem hc_call {W w' : World} {g n : Nat} {f : Nat → Value} (h : Hid (Cells W g n f)) (hb : Below W.heap.size W w') : Hid (Cells w' g n f) := Lib.hid (h.out.call hb)

theorem hc_drew {W : World} {g n : Nat} {f : Nat → Value} (h : Hid (Cells W g n f)) : Hid (Cells W.drew g n f) := Lib.hid h.out.drew

theorem gs_0 {w W : World} {a b : Int} {A : Option Addr} {n c : Nat} (h : Hid (GS w W a b A n c)) : W.cell? ⟨w.heap.size, 0, none⟩ = some (.int .i64 a) := h.out.box.cell (show 0 < 3 by omega)

theorem gs_1 {w W : World} {a b : Int} {A : Option Addr} {n c : Nat} (h : Hid (GS w W a b A n c)) : W.cell? ⟨w.heap.size, 1, none⟩ = some (.int .i64 b) := h.out.box.cell (show 1 < 3 by omega)

theorem gs_2 {w W : World} {a b : Int} {A : Option Addr} {n c : Nat} (h : Hid (GS w W a b A n c)) : W.cell? ⟨w.heap.size, 2, none⟩ = some (.slice A n c) := h.out.box.cell (show 2 < 3 by omega)

theorem gs_new (w : World) (a b : Int) (A : Option Addr) (n c : Nat) : Hid (GS w (w.alloc (.cells #[.int .i64 a, .int .i64 b, .slice A n c] 33)) a b A n c) :=
  Lib.hid ⟨show Cells _ _ _ _ from Cells.new (n := 3) rfl rfl, (Below.refl _ _).alloc (Nat.le_refl _) _⟩

end Go.Proofs.Ytkmgmlgjflnbeaa
