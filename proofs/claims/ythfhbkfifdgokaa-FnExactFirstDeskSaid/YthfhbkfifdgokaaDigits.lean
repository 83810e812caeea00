/- The digits of a code as a list of integers, as both programs make it. For texts whose letters are digits. -/
import Derived.Test.YthfhbkfifdgokaaZero
import Derived.Laws.OwnMore
import Derived.Deep.AppendLies
namespace Go.Proofs.Ythfhbkfifdgokaa
open Go.ChangeShapes Go.WideShapes Go.ChangeAt Go.RowKit Go.Joins

def dg (s : ByteArray) : List Int := s.data.toList.map fun c => (c.toNat : Int) - 48

theorem dg_length (s : ByteArray) : (dg s).length = s.size := by simp [dg]

theorem dg_at {s : ByteArray} {k : Nat} (hk : k < s.size) : (dg s).getD k 0 = (s[k].toNat : Int) - 48 := by
  have h : k < s.data.toList.length := by simpa using hk
  have e : s[k] = s.data.toList[k] := rfl
  rw [e]
  simp [dg, List.getD, List.getElem?_eq_getElem h]

theorem digits_at {s : ByteArray} (hd : Digits (dg s)) {k : Nat} (hk : k < s.size) : 48 ≤ (s[k].toNat : Int) ∧ (s[k].toNat : Int) ≤ 57 := by
  have := hd k (by rw [dg_length]; exact hk)
  rw [dg_at hk] at this
  omega

/-- A new list of integers ds has been handed back; nothing that was there has changed. -/
def IntsOut (w : World) (ds : List Int) (n : Nat) (e : Ending) (w' : World) : Prop :=
  ∃ g c, e = .returned (.slice (some ⟨g, 0, none⟩) n c) ∧ w.heap.size ≤ g ∧ Cells w' g n (digF ds) ∧ Below w.heap.size w w'

/-- Integers as values. -/
def iv (ds : List Int) : List Value := ds.map (.int .i64)

theorem own_cells {w : World} {base : Nat} {t : TypeId} {v : Value} {ds : List Int} {n : Nat} (h : w.ownsRow base t 1 v n (iv ds)) (hn : 0 < n) :
    ∃ g c, v = .slice (some ⟨g, 0, none⟩) n c ∧ base ≤ g ∧ Cells w g n (digF ds) := by
  obtain ⟨g, c, rfl, hb, hlt⟩ := h.form hn
  refine ⟨g, c, rfl, hb, hlt, fun j hj => ⟨?_, h.frozenAt j⟩⟩
  rw [h.cellAt j (by omega)]
  have hl : ds.length = n := by simpa [iv] using h.1
  unfold iv; rw [List.getElem?_map, List.getElem?_eq_getElem (by omega)]
  simp [digF, List.getD, List.getElem?_eq_getElem (show j < ds.length by omega)]

theorem info_int : (Try.prog.info? 3).map (fun i => (i.zero, i.size, i.bytes)) = some (some (.int .i64 0), 1, 8) := by kernel_rfl

end Go.Proofs.Ythfhbkfifdgokaa
