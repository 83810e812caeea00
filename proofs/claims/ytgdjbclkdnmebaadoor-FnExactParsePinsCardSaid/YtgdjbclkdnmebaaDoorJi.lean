/- Pins read from a text, as the model's function hands them back. For texts of at most 2^20 bytes. -/
import Derived.Test.YtgdjbclkdnmebaaDoorJh
namespace Go.Proofs.YtgdjbclkdnmebaaDoor
set_option maxRecDepth 100000
open Go.ChangeShapes Go.WideShapes Go.ChangeAt Go.RowKit Go.Joins

set_option maxHeartbeats 2000000 in
theorem specParsePins_any (s : ByteArray) (hs : s.size ≤ 1048576) (w : World) :
    Calls Tryd.prog 12 #[.string s] w (PinsOut w (ppDz s) (ppKz s) (ppB s)) := by
  have HQ := Lib.hid (show Cells (w.alloc (.cells #[.int .i64 0, .slice none 0 0] 28)) w.heap.size 2 (pF 0 (.slice none 0 0)) from Cells.new (n := 2) rfl rfl)
  have HB0 := Lib.hid (show Below w.heap.size w (w.alloc (.cells #[.int .i64 0, .slice none 0 0] 28)) from (Below.refl _ _).alloc (Nat.le_refl _) _)
  obtain ⟨v, HV⟩ : ∃ v, Hid (ppB s = v) := ⟨_, Lib.hid rfl⟩
  rcases v with _ | _
  · have HE : Hid (ppDz s = 0 ∧ ppKz s = []) := Lib.hid (by unfold ppDz ppKz; rw [HV.out]; exact ⟨rfl, rfl⟩)
    go_enter Tryd.func12, Tryd.ntmps12
    go_wp2_with (first
      | (go_at_call 34; refine (keParse_any s hs _).mono ?_; rintro e w2 ⟨a, A, m, c, rfl, h2, hb2⟩
         rw [HV.out] at h2 ⊢
         have B2 := Lib.hid (bel_call HB0.out hb2)
         have E2 := Lib.hid ((HQ.out.call hb2).alloc (.cells #[.int .i64 a, .slice A m c] 28))
         have q0 := E2.out.cell (show 0 < 2 by omega)
         have q1 := E2.out.cell (show 1 < 2 by omega)
         have f0 := E2.out.frozen (show 0 < 2 by omega)
         have f1 := E2.out.frozen (show 1 < 2 by omega)
         clear hb2 h2))
    refine bodyPost_ret (v := .tuple #[.agg #[.int .i64 0, .slice none 0 0], .bool false]) (by simp [results, Tryd.results12, go_sem, q0, q1]) rfl ?_
    rw [HE.out.1, HE.out.2, HV.out]
    exact pinsOut_no rfl (((B2.out.alloc B2.out.size _).setCell (p := ⟨w.heap.size, 0, none⟩) (Nat.le_refl _) _).setCell (p := ⟨w.heap.size, 1, none⟩) (Nat.le_refl _) _)
  · have HE : Hid (ppDz s = ppD s ∧ ppKz s = ppK s) := Lib.hid (by unfold ppDz ppKz; rw [HV.out]; exact ⟨rfl, rfl⟩)
    go_enter Tryd.func12, Tryd.ntmps12
    go_wp2_with (first
      | (go_at_call 34; refine (keParse_any s hs _).mono ?_; rintro e w2 ⟨a, A, m, c, rfl, h2, hb2⟩
         obtain ⟨rfl, hm, hR⟩ := h2 HV.out
         rw [HV.out]
         have HR := Lib.hid hR
         have hz2 : w.heap.size + 1 ≤ w2.heap.size := by have := hb2.size; rw [World.size_alloc] at this; exact this
         have B2 := Lib.hid (bel_call HB0.out hb2)
         have E2 := Lib.hid ((HQ.out.call hb2).alloc (.cells #[.int .i64 (ppD s), .slice A m c] 28))
         have q0 := E2.out.cell (show 0 < 2 by omega)
         have q1 := E2.out.cell (show 1 < 2 by omega)
         have f0 := E2.out.frozen (show 0 < 2 by omega)
         have f1 := E2.out.frozen (show 1 < 2 by omega)
         clear hb2 h2 hR hm))
    refine bodyPost_ret (v := .tuple #[.agg #[.int .i64 (ppD s), .slice A m c], .bool true]) (by simp [results, Tryd.results12, go_sem, q0, q1]) rfl ⟨_, by rw [HE.out.1, HV.out], ?_, ?_⟩
    rotate_left
    · exact ((B2.out.alloc B2.out.size _).setCell (p := ⟨w.heap.size, 0, none⟩) (Nat.le_refl _) _).setCell (p := ⟨w.heap.size, 1, none⟩) (Nat.le_refl _) _
    rw [HE.out.2]
    have h := HR.out.alloc (.cells #[.int .i64 (ppD s), .slice A m c] 28)
    rw [World.size_alloc] at h
    exact (((h.under (p := ⟨w.heap.size, 0, none⟩) (by show w.heap.size < w.heap.size + 1; omega) _).under (p := ⟨w.heap.size, 1, none⟩) (by show w.heap.size < w.heap.size + 1; omega) _)).weak (by omega)

theorem ppKz_size (s : ByteArray) (hs : s.size ≤ 1048576) : (ppKz s).length + lensAt (ppKz s) (ppKz s).length ≤ 1048576 := by
  unfold ppKz
  split
  · exact ppK_size s hs
  · show 0 + 0 ≤ _; omega

end Go.Proofs.YtgdjbclkdnmebaaDoor
