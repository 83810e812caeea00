/- Turns read from a text, as the program reads them. No conditions. -/
import Derived.Test.YthnekpdakjcadaaParse
namespace Go.Proofs.Ythnekpdakjcadaa
open Go.ChangeShapes Go.WideShapes Go.ChangeAt Go.RowKit Go.Joins

def sgOk (s : ByteArray) (k : Nat) : Bool := decide (ch s (2 * k + 1) = 43) || decide (ch s (2 * k + 1) = 45)
def AllSg (s : ByteArray) (k : Nat) : Prop := ∀ j, j < k → sgOk s j = true
theorem allSg_succ {s : ByteArray} {k : Nat} (h : AllSg s k) (hk : sgOk s k = true) : AllSg s (k + 1) := fun j hj => by
  by_cases e : j = k
  · subst e; exact hk
  · exact h j (by omega)
theorem pB_sg {s : ByteArray} {k : Nat} (hk : k < s.size / 2) (h : sgOk s k = false) : pB s = false := pB_no hk (by unfold pOk; unfold sgOk at h; rw [h, Bool.and_false])
theorem turns_parse {s : ByteArray} (h1 : s.size % 2 = 0) (h2 : s.size ≤ 400) (h : AllSg s (s.size / 2)) : turnsB 6 (parsT s) = pB s := by
  have ht : ∀ k, k < s.size / 2 → turnB 6 (pT s k).1 (pT s k).2 = pOk s k := fun k hk => by
    have hsg := h k hk
    unfold sgOk at hsg
    unfold turnB pOk pT
    rw [hsg]
    congr 1
    show (decide ((if ch s (2 * k + 1) = 45 then (-1 : Int) else 1) = 1) || decide ((if ch s (2 * k + 1) = 45 then (-1 : Int) else 1) = -1)) = true
    split <;> simp
  unfold turnsB pB
  rw [parsT_length, decide_eq_true h1, decide_eq_true h2, decide_eq_true (by omega), Bool.true_and, Bool.true_and, Bool.true_and]
  rw [Bool.eq_iff_iff, List.all_eq_true, List.all_eq_true]
  unfold parsT
  constructor
  · intro H k hk
    rw [← ht k (by simpa using hk)]
    exact H _ (List.mem_map_of_mem hk)
  · intro H t hmem
    obtain ⟨k, hk, rfl⟩ := List.mem_map.1 hmem
    rw [ht k (by simpa using hk)]
    exact H k hk

theorem make_some (m : Nat) (hm : m ≤ 1000) (W : World) : (Instr.makeSlice 44 (.int .i64 0) (.int .i64 (m : Int))).run Try.prog W = .ok (.slice (some ⟨W.heap.size, 0, none⟩) 0 m) (W.alloc (.cells (madeCells #[.int .i64 0, .int .i64 0] (m * 2)) 38)) := by
  obtain ⟨i0, hi, hz0, hz1, hz2⟩ := info_parts info_turn
  have := run_make_rowN (P := Try.prog) 44 38 i0 _ Try.underlying44 hi hz0 .i64 .i64 0 m (Nat.zero_le _) (by rw [hz2]; omega) (by omega) W
  rw [hz1] at this
  exact this

end Go.Proofs.Ythnekpdakjcadaa
