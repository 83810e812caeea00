/- Gears read from a text: which lock a text names, by the library's cut and its conversion of numbers. No conditions. -/
import Derived.Test.YtealpmjkmioocaaDoorGt
import Derived.Lib.AtoiAll
import Derived.Lib.IndexMore
namespace Go.Proofs.YtealpmjkmioocaaDoor
open Go.ChangeShapes Go.WideShapes Go.ChangeAt Go.RowKit Go.Joins

/-- What strconv.Atoi gives beside its error. -/
def atoiV (l : List UInt8) : Int :=
  match Lib.atoiAll l with
  | .ok v => v
  | .syntax => 0
  | .range => Lib.atoiSat l

theorem numB_lit {n : Int} (h0 : 0 ≤ n) (h9 : n ≤ 9) : (numB n).data.toList = [UInt8.ofNat (48 + n.toNat)] := by
  have : n = 0 ∨ n = 1 ∨ n = 2 ∨ n = 3 ∨ n = 4 ∨ n = 5 ∨ n = 6 ∨ n = 7 ∨ n = 8 ∨ n = 9 := by omega
  rcases this with rfl | rfl | rfl | rfl | rfl | rfl | rfl | rfl | rfl | rfl <;> (unfold numB; rw [Lib.decDigits]; rfl)

theorem numB_lit10 : (numB 10).data.toList = [49, 48] := by
  unfold numB
  rw [Lib.decDigits, Lib.decDigits]
  rfl

theorem atoiV_num {n : Int} (h0 : 0 ≤ n) (h10 : n ≤ 10) : atoiV (numB n).data.toList = n := by
  have : n = 0 ∨ n = 1 ∨ n = 2 ∨ n = 3 ∨ n = 4 ∨ n = 5 ∨ n = 6 ∨ n = 7 ∨ n = 8 ∨ n = 9 ∨ n = 10 := by omega
  rcases this with rfl | rfl | rfl | rfl | rfl | rfl | rfl | rfl | rfl | rfl | rfl
  · rw [numB_lit (by omega) (by omega)]; rfl
  · rw [numB_lit (by omega) (by omega)]; rfl
  · rw [numB_lit (by omega) (by omega)]; rfl
  · rw [numB_lit (by omega) (by omega)]; rfl
  · rw [numB_lit (by omega) (by omega)]; rfl
  · rw [numB_lit (by omega) (by omega)]; rfl
  · rw [numB_lit (by omega) (by omega)]; rfl
  · rw [numB_lit (by omega) (by omega)]; rfl
  · rw [numB_lit (by omega) (by omega)]; rfl
  · rw [numB_lit (by omega) (by omega)]; rfl
  · rw [numB_lit10]; rfl

theorem lkB_list (a b : Int) : (lkB a b).data.toList = (numB a).data.toList ++ 120 :: (numB b).data.toList := by
  unfold lkB
  rw [ByteArray.data_append, ByteArray.data_append, Array.toList_append, Array.toList_append, List.append_assoc]
  rfl

theorem lkB_cut {a b : Int} (h : goodB a b = true) : Lib.cut (lkB a b).data.toList [120] = ((numB a).data.toList, (numB b).data.toList, true) := by
  have hg := good_yes h
  rw [lkB_list, numB_lit (n := a) (by omega) (by omega)]
  have ha : a = 1 ∨ a = 2 ∨ a = 3 ∨ a = 4 ∨ a = 5 ∨ a = 6 := by omega
  have hb : b = 10 ∨ (2 ≤ b ∧ b ≤ 9) := by omega
  rcases hb with rfl | hb
  · rw [numB_lit10]
    rcases ha with rfl | rfl | rfl | rfl | rfl | rfl <;> rfl
  · rw [numB_lit (n := b) (by omega) (by omega)]
    have : b = 2 ∨ b = 3 ∨ b = 4 ∨ b = 5 ∨ b = 6 ∨ b = 7 ∨ b = 8 ∨ b = 9 := by omega
    rcases ha with rfl | rfl | rfl | rfl | rfl | rfl <;> rcases this with rfl | rfl | rfl | rfl | rfl | rfl | rfl | rfl <;> rfl

/-- The two numbers that the program reads out of a text. -/
def lkW (s : ByteArray) : Int := atoiV (Lib.cut s.data.toList [120]).1
def lkD (s : ByteArray) : Int := atoiV (Lib.cut s.data.toList [120]).2.1

/-- Whether the text is a lock's. -/
def lkS (s : ByteArray) : Bool := goodB (lkW s) (lkD s) && decide (lkB (lkW s) (lkD s) = s)

theorem lkS_yes {s : ByteArray} (h : lkS s = true) : goodB (lkW s) (lkD s) = true ∧ lkB (lkW s) (lkD s) = s := by
  unfold lkS at h
  rw [Bool.and_eq_true] at h
  exact ⟨h.1, of_decide_eq_true h.2⟩

theorem lk_of {a b : Int} (h : goodB a b = true) : lkW (lkB a b) = a ∧ lkD (lkB a b) = b := by
  have hg := good_yes h
  unfold lkW lkD
  rw [lkB_cut h]
  exact ⟨atoiV_num (by omega) (by omega), atoiV_num (by omega) (by omega)⟩

theorem lkS_of {a b : Int} (h : goodB a b = true) : lkS (lkB a b) = true := by
  unfold lkS
  rw [(lk_of h).1, (lk_of h).2, h]
  simp

/-- A lock has one text, and it names the lock. -/
theorem lkS_iff {s : ByteArray} {a b : Int} : (lkS s = true ∧ lkW s = a ∧ lkD s = b) ↔ (goodB a b = true ∧ s = lkB a b) := by
  constructor
  · rintro ⟨h, rfl, rfl⟩
    exact ⟨(lkS_yes h).1, (lkS_yes h).2.symm⟩
  · rintro ⟨h, rfl⟩
    exact ⟨lkS_of h, (lk_of h).1, (lk_of h).2⟩

end Go.Proofs.YtealpmjkmioocaaDoor
