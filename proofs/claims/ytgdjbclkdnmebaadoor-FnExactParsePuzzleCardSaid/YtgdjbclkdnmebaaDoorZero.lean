/- The law on ZeroCode: for every lock both programs answer alike. No conditions. -/
import Derived.Test.YtgdjbclkdnmebaaDoorText
namespace Go.Proofs.YtgdjbclkdnmebaaDoor
open Go.ChangeShapes Go.WideShapes Go.ChangeAt Go.RowKit Go.Joins

theorem whText_n {n : Nat} (g c : Nat) (ds : List Int) (hn : ds.length = n) (w : World) (hr : Cells w g n (digF ds)) (hd : Digits ds) (hl : n ≤ 1000) :
    Calls Tryd.prog 60 #[.slice (some ⟨g, 0, none⟩) n c] w fun e w' => e = .returned (.string (textOf ds)) ∧ Below w.heap.size w w' := by
  subst hn; exact whText_any g c ds w hr hd hl

theorem codeOf_n {n : Nat} (g c : Nat) (ds : List Int) (hn : ds.length = n) (w : World) (hr : Cells w g n (digF ds)) (hd : Digits ds) (hl : n ≤ 1000) :
    Calls Tryd.prog 30 #[.slice (some ⟨g, 0, none⟩) n c] w fun e w' => e = .returned (.string (textOf ds)) ∧ Below w.heap.size w w' := by
  subst hn; exact codeOf_any g c ds w hr hd hl

theorem make_ints (n : Nat) (hn : n ≤ 1000) (W : World) : (Instr.makeSlice 58 (.int .i64 (n : Int)) (.int .i64 (n : Int))).run Tryd.prog W = .ok (.slice (some ⟨W.heap.size, 0, none⟩) n n) (W.alloc (.cells (madeCells #[.int .i64 0] n) 3)) :=
  run_make_row' 58 3 (.int .i64 0) 8 Tryd.underlying58 (by kernel_rfl) rfl .i64 .i64 n (by omega) (by omega) W

def zerosT (a b : Int) : ByteArray := if goodB a b then textOf (List.replicate a.toNat 0) else ⟨#[]⟩

theorem zerosT_yes {n : Nat} {b : Int} (h : goodB n b = true) : zerosT n b = textOf (List.replicate n 0) := by unfold zerosT; rw [h]; rfl

theorem zerosT_no {a b : Int} (h : goodB a b = false) : zerosT a b = ⟨#[]⟩ := by unfold zerosT; rw [h]; rfl

theorem digits_zeros (n : Nat) : Digits (List.replicate n 0) := fun j hj => by
  have : (List.replicate n (0 : Int)).getD j 0 = 0 := by
    rw [List.getD, List.getElem?_replicate]
    split <;> rfl
  omega

theorem zeros_cells (n : Nat) (w : World) : Cells (w.alloc (.cells (madeCells #[.int .i64 0] n) 3)) w.heap.size n (digF (List.replicate n 0)) :=
  (Cells.made _ _ _ _).congr fun j hj => by
    unfold digF
    rw [List.getD, List.getElem?_replicate, if_pos hj]
    rfl

end Go.Proofs.YtgdjbclkdnmebaaDoor
