/- Gears read from a text, as the model's function hands them back. For texts of at most 2^20 bytes. -/
import Derived.Test.YtealpmjkmioocaaDoorPgJ
namespace Go.Proofs.YtealpmjkmioocaaDoor
set_option maxRecDepth 100000
open Go.ChangeShapes Go.WideShapes Go.ChangeAt Go.RowKit Go.Joins

theorem joParse_any (s : ByteArray) (hs : s.size ≤ 1048576) (w : World) :
    Calls Tryd.prog 9 #[.string s] w (JoP w s) := by
  by_cases h1 : 60 < s.size
  · exact joParseN_any s hs w (.inl h1)
  · by_cases h2 : (spA 120 (pgH s)).length = 2
    · obtain ⟨x, y, h3⟩ : ∃ x y, spA 120 (pgH s) = [x, y] := by
        revert h2
        generalize spA 120 (pgH s) = l
        intro h2
        match l, h2 with
        | [x, y], _ => exact ⟨x, y, rfl⟩
      exact joParseY_any s (by omega) x y h3 w
    · exact joParseN_any s hs w (.inr h2)

theorem pgW_none {s : ByteArray} (h : pgB s = false) : pgW s = 0 ∧ pgD s = 0 ∧ pgZ s = [] := by
  unfold pgW pgD pgZ
  rw [h]
  exact ⟨rfl, rfl, rfl⟩

theorem pgW_some {s : ByteArray} (h : pgB s = true) : pgW s = lkW (pgH s) ∧ pgD s = lkD (pgH s) ∧ pgZ s = pgK s := by
  unfold pgW pgD pgZ
  rw [h]
  exact ⟨rfl, rfl, rfl⟩

set_option maxHeartbeats 2000000 in
theorem specParseGears_any (s : ByteArray) (hs : s.size ≤ 1048576) (w : World) :
    Calls Tryd.prog 4 #[.string s] w (GearsOut w (pgW s) (pgD s) (pgZ s) (pgB s)) := by
  have HQ := Lib.hid (show Cells (w.alloc (.cells #[.int .i64 0, .int .i64 0, .slice none 0 0] 26)) w.heap.size 3 (gF 0 0 (.slice none 0 0)) from Cells.new (n := 3) rfl rfl)
  have HB0 := Lib.hid (show Below w.heap.size w (w.alloc (.cells #[.int .i64 0, .int .i64 0, .slice none 0 0] 26)) from (Below.refl _ _).alloc (Nat.le_refl _) _)
  have HZ0 : Hid ((w.alloc (.cells #[.int .i64 0, .int .i64 0, .slice none 0 0] 26)).heap.size = w.heap.size + 1) := Lib.hid (by simp)
  obtain ⟨V, HV⟩ : ∃ V, Hid (pgB s = V) := ⟨_, Lib.hid rfl⟩
  rcases V with _ | _
  · have HW := Lib.hid (pgW_none HV.out)
    rw [HW.out.1, HW.out.2.1, HW.out.2.2, HV.out]
    go_enter Tryd.func4, Tryd.ntmps4
    go_wp2_with (go_at_call 9; refine (joParse_any s hs _).mono ?_; rintro e w1 ⟨a, b, A, m, c, rfl, hyes, hb1⟩; rw [HV.out]
                 have E1 := Lib.hid ((HQ.out.call hb1).alloc (.cells #[.int .i64 a, .int .i64 b, .slice A m c] 26))
                 have B1 := Lib.hid (bel_call HB0.out hb1)
                 have q0 := E1.out.cell (show 0 < 3 by omega)
                 have q1 := E1.out.cell (show 1 < 3 by omega)
                 have q2 := E1.out.cell (show 2 < 3 by omega)
                 have f0 := E1.out.frozen (show 0 < 3 by omega)
                 have f1 := E1.out.frozen (show 1 < 3 by omega)
                 have f2 := E1.out.frozen (show 2 < 3 by omega)
                 clear hyes hb1)
    refine bodyPost_ret (v := .tuple #[.agg #[.int .i64 0, .int .i64 0, .slice none 0 0], .bool false]) (by simp [results, Tryd.results4, go_sem, q0, q1, q2]) rfl ?_
    exact gears_none (bel3 (B1.out.alloc B1.out.size _) (Nat.le_refl _) _ _ _)
  · have HW := Lib.hid (pgW_some HV.out)
    rw [HW.out.1, HW.out.2.1, HW.out.2.2]
    obtain ⟨a0, ha0⟩ : ∃ a, lkW (pgH s) = a := ⟨_, rfl⟩
    obtain ⟨b0, hb0⟩ : ∃ b, lkD (pgH s) = b := ⟨_, rfl⟩
    obtain ⟨K, hK⟩ : ∃ K, pgK s = K := ⟨_, rfl⟩
    have HAB := Lib.hid (And.intro ha0 (And.intro hb0 hK))
    rw [ha0, hb0, hK, HV.out]
    clear ha0 hb0 hK
    go_enter Tryd.func4, Tryd.ntmps4
    go_wp2_with (go_at_call 9; refine (joParse_any s hs _).mono ?_; rintro e w1 ⟨a, b, A, m, c, rfl, hyes, hb1⟩; rw [HV.out]
                 have HY := Lib.hid (hyes HV.out)
                 have hbx : Below w1.heap.size w1 (w1.alloc (.cells #[.int .i64 a, .int .i64 b, .slice A m c] 26)) := (Below.refl _ _).alloc (Nat.le_refl _) _
                 have E1 := Lib.hid ((HQ.out.call hb1).alloc (.cells #[.int .i64 a, .int .i64 b, .slice A m c] 26))
                 have B1 := Lib.hid (bel_call HB0.out hb1)
                 have HBX := Lib.hid hbx
                 have q0 := E1.out.cell (show 0 < 3 by omega)
                 have q1 := E1.out.cell (show 1 < 3 by omega)
                 have q2 := E1.out.cell (show 2 < 3 by omega)
                 have f0 := E1.out.frozen (show 0 < 3 by omega)
                 have f1 := E1.out.frozen (show 1 < 3 by omega)
                 have f2 := E1.out.frozen (show 2 < 3 by omega)
                 clear hyes hb1 hbx)
    refine bodyPost_ret (v := .tuple #[.agg #[.int .i64 a, .int .i64 b, .slice A m c], .bool true]) (by simp [results, Tryd.results4, go_sem, q0, q1, q2]) rfl ?_
    obtain ⟨e1, e2, B, G, Cp, hB, hR⟩ := HY.out
    rw [HAB.out.1] at e1
    rw [HAB.out.2.1] at e2
    rw [HAB.out.2.2] at hR
    rw [HZ0.out] at hB
    subst e1 e2
    exact ⟨_, B, G, Cp, rfl, by omega, (((hR.call HBX.out).far (by omega) _).far (by omega) _).far (by omega) _, bel3 (bel_call B1.out HBX.out) (Nat.le_refl _) _ _ _⟩

theorem pgZ_size (s : ByteArray) (hs : s.size ≤ 1048576) : (pgZ s).length + lensAt (pgZ s) (pgZ s).length ≤ 1048576 := by
  unfold pgZ
  split
  · have := pgK_size s; omega
  · simp [lensAt]

end Go.Proofs.YtealpmjkmioocaaDoor
