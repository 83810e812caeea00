/- Puzzles read from a text, as the model reads them. For texts of at most 2^20 bytes. -/
import Derived.Test.YtgdjbclkdnmebaaDoorJv
import Derived.Deep.RegionWith
import Derived.Deep.RegionHeld3
namespace Go.Proofs.YtgdjbclkdnmebaaDoor
set_option maxRecDepth 100000
open Go.ChangeShapes Go.WideShapes Go.ChangeAt Go.RowKit Go.Joins

/-- What reading hands back. -/
def KzP (w : World) (s : ByteArray) (e : Ending) (w' : World) : Prop :=
  ∃ a b n A c, e = .returned (.tuple #[.agg #[.int .i64 a, .int .i64 b, .slice A n c], .bool (zzB s)]) ∧ (zzB s = true → a = zzA s ∧ b = zzD s ∧ n = (zzK s).length ∧ KC w' w.heap.size w'.heap.size A n (cluF (zzK s))) ∧ Below w.heap.size w w'

theorem kz_none {w w' : World} {s : ByteArray} (h : zzB s = false) (hb : Below w.heap.size w w') : KzP w s (.returned (.tuple #[.agg #[.int .i64 0, .int .i64 0, .slice none 0 0], .bool false])) w' :=
  ⟨0, 0, 0, none, 0, by rw [h], ⟨fun e => (Bool.noConfusion (h.symm.trans e)), hb⟩⟩

theorem not_zz {s : ByteArray} (h : ZzH s → False) : zzB s = false := by
  cases hz : zzB s with
  | false => rfl
  | true => exact absurd (zzHas hz) h

set_option maxHeartbeats 4000000 in
theorem pzParseN_any (s : ByteArray) (hs : s.size ≤ 1048576) (w : World) (hno : 100 < s.size ∨ (spA 58 s).length ≠ 2) :
    Calls Tryd.prog 51 #[.string s] w (KzP w s) := by
  have HD : Hid (zzB s = false) := Lib.hid (not_zz fun h => by
    have h1 := h.size
    have h2 := h.two
    rcases hno with h3 | h3
    · omega
    · rw [h2] at h3; exact h3 rfl)
  have HQ := Lib.hid (show Cells (w.alloc (.cells #[.int .i64 0, .int .i64 0, .slice none 0 0] 46)) w.heap.size 3 (g3F 0 0 (.slice none 0 0)) from Cells.new (n := 3) rfl rfl)
  have HB0 := Lib.hid (show Below w.heap.size w (w.alloc (.cells #[.int .i64 0, .int .i64 0, .slice none 0 0] 46)) from (Below.refl _ _).alloc (Nat.le_refl _) _)
  obtain ⟨M, hM⟩ : ∃ M, (spA 58 s).length = M := ⟨_, rfl⟩
  have HM := Lib.hid hM
  rw [hM] at hno
  clear hM
  by_cases h100 : 100 < s.size
  · clear hno
    go_enter Tryd.func51, Tryd.ntmps51
    go_wp2_with (first
    | (go_at_call 70; refine (l1SplitC_any s 58 58 (by decide) hs _).mono ?_; rw [HM.out]; rintro e w1 ⟨g1, c1, rfl, hg1, hC1, hc1, hb1⟩
       have E1 := Lib.hid (HQ.out.call hb1)
       have B1 := Lib.hid (bel_call HB0.out hb1)
       have q0 := E1.out.cell (show 0 < 3 by omega)
       have q1 := E1.out.cell (show 1 < 3 by omega)
       have q2 := E1.out.cell (show 2 < 3 by omega)
       have f0 := E1.out.frozen (show 0 < 3 by omega)
       have f1 := E1.out.frozen (show 1 < 3 by omega)
       have f2 := E1.out.frozen (show 2 < 3 by omega)
       clear hC1 hb1))
    refine bodyPost_ret (v := .tuple #[.agg #[.int .i64 0, .int .i64 0, .slice none 0 0], .bool false]) (by simp [results, Tryd.results51, go_sem, q0, q1, q2]) rfl ?_
    exact kz_none HD.out (((B1.out.setCell (p := ⟨w.heap.size, 0, none⟩) (Nat.le_refl _) _).setCell (p := ⟨w.heap.size, 1, none⟩) (Nat.le_refl _) _).setCell (p := ⟨w.heap.size, 2, none⟩) (Nat.le_refl _) _)
  · have hM2 : M ≠ 2 := hno.resolve_left h100
    have hM2' : ((M : Int) != 2) = true := by simpa using (show ¬ (M : Int) = 2 by omega)
    clear hno
    go_enter Tryd.func51, Tryd.ntmps51
    go_wp2_with (first
    | (go_at_call 70; refine (l1SplitC_any s 58 58 (by decide) hs _).mono ?_; rw [HM.out]; rintro e w1 ⟨g1, c1, rfl, hg1, hC1, hc1, hb1⟩
       have E1 := Lib.hid (HQ.out.call hb1)
       have B1 := Lib.hid (bel_call HB0.out hb1)
       have q0 := E1.out.cell (show 0 < 3 by omega)
       have q1 := E1.out.cell (show 1 < 3 by omega)
       have q2 := E1.out.cell (show 2 < 3 by omega)
       have f0 := E1.out.frozen (show 0 < 3 by omega)
       have f1 := E1.out.frozen (show 1 < 3 by omega)
       have f2 := E1.out.frozen (show 2 < 3 by omega)
       clear hC1 hb1))
    refine bodyPost_ret (v := .tuple #[.agg #[.int .i64 0, .int .i64 0, .slice none 0 0], .bool false]) (by simp [results, Tryd.results51, go_sem, q0, q1, q2]) rfl ?_
    exact kz_none HD.out (((B1.out.setCell (p := ⟨w.heap.size, 0, none⟩) (Nat.le_refl _) _).setCell (p := ⟨w.heap.size, 1, none⟩) (Nat.le_refl _) _).setCell (p := ⟨w.heap.size, 2, none⟩) (Nat.le_refl _) _)

set_option maxHeartbeats 4000000 in
theorem pzParseM_any (s : ByteArray) (hs : s.size ≤ 100) (h t : ByteArray) (hht : spA 58 s = [h, t]) (hno : (spA 120 h).length ≠ 2) (w : World) :
    Calls Tryd.prog 51 #[.string s] w (KzP w s) := by
  have HD : Hid (zzB s = false) := Lib.hid (not_zz fun hh => by
    have h2 := hh.two
    rw [hht] at h2
    have h3 := hh.lock
    injection h2 with h4 h5
    rw [← h4] at h3
    rw [h3] at hno
    exact hno rfl)
  have HQ := Lib.hid (show Cells (w.alloc (.cells #[.int .i64 0, .int .i64 0, .slice none 0 0] 46)) w.heap.size 3 (g3F 0 0 (.slice none 0 0)) from Cells.new (n := 3) rfl rfl)
  have HB0 := Lib.hid (show Below w.heap.size w (w.alloc (.cells #[.int .i64 0, .int .i64 0, .slice none 0 0] 46)) from (Below.refl _ _).alloc (Nat.le_refl _) _)
  obtain ⟨M, hM⟩ : ∃ M, (spA 120 h).length = M := ⟨_, rfl⟩
  have HM := Lib.hid hM
  rw [hM] at hno
  have hM2' : ((M : Int) != 2) = true := by simpa using (show ¬ (M : Int) = 2 by omega)
  have HXY : Hid ((spA 58 s).length = 2 ∧ strF (spA 58 s) = strF [h, t]) := Lib.hid (by rw [hht]; exact ⟨rfl, rfl⟩)
  have hh1 : h.size ≤ 1048576 := by have := spA_part 58 s h (by rw [hht]; simp); omega
  have h100 : ¬ 100 < s.size := by omega
  have hs' : s.size ≤ 1048576 := by omega
  clear hM hno hht
  go_enter Tryd.func51, Tryd.ntmps51
  go_wp2_with (first
    | ((fail_if_success (have := o0)); go_at_call 70; refine (l1SplitC_any s 58 58 (by decide) hs' _).mono ?_; rw [HXY.out.1, HXY.out.2]; rintro e w1 ⟨g1, c1, rfl, hg1, hC1, hc1, hb1⟩
       have E1 := Lib.hid (HQ.out.call hb1)
       have B1 := Lib.hid (bel_call HB0.out hb1)
       have o0 : w1.cell? ⟨g1, 0, none⟩ = some (.string h) := hC1.cell (show 0 < 2 by omega)
       clear hC1 hb1 hg1)
    | (go_at_call 70; refine (l1SplitC_any h 120 120 (by decide) hh1 _).mono ?_; rw [HM.out]; rintro e w2 ⟨g2, c2, rfl, hg2, hC2, hc2, hb2⟩
       have E2 := Lib.hid (E1.out.call hb2)
       have B2 := Lib.hid (bel_call B1.out hb2)
       have q0 := E2.out.cell (show 0 < 3 by omega)
       have q1 := E2.out.cell (show 1 < 3 by omega)
       have q2 := E2.out.cell (show 2 < 3 by omega)
       have f0 := E2.out.frozen (show 0 < 3 by omega)
       have f1 := E2.out.frozen (show 1 < 3 by omega)
       have f2 := E2.out.frozen (show 2 < 3 by omega)
       clear hC2 hb2 hg2))
  refine bodyPost_ret (v := .tuple #[.agg #[.int .i64 0, .int .i64 0, .slice none 0 0], .bool false]) (by simp [results, Tryd.results51, go_sem, q0, q1, q2]) rfl ?_
  exact kz_none HD.out (((B2.out.setCell (p := ⟨w.heap.size, 0, none⟩) (Nat.le_refl _) _).setCell (p := ⟨w.heap.size, 1, none⟩) (Nat.le_refl _) _).setCell (p := ⟨w.heap.size, 2, none⟩) (Nat.le_refl _) _)

end Go.Proofs.YtgdjbclkdnmebaaDoor
