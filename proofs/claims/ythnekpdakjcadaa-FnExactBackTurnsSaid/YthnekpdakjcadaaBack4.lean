/- A list of turns marked by the law, with what it leaves. For at most 1048576 turns. -/
import Derived.Test.YthnekpdakjcadaaBack3
namespace Go.Proofs.Ythnekpdakjcadaa
open Go.ChangeShapes Go.WideShapes Go.ChangeAt Go.RowKit Go.Joins

theorem markTurnS_big (g n c : Nat) (f : Nat → Value) (w : World) (hn : n ≤ 1048576) (hC : Cells w g (n * 2) f) :
    Calls Try.prog 34 #[.slice (some ⟨g, 0, none⟩) n c, .int .i64 1] w fun e w' => e = .returned (.int .i64 (1 + 2 * (n : Int))) ∧ Cells w' g (n * 2) markF ∧ w.heap.size ≤ w'.heap.size ∧ (∀ B, B ≤ g → Below B w w') ∧ ∀ g' m f', g' ≠ g → Cells w g' m f' → Cells w' g' m f' := by
  have HC := Lib.hid hC
  clear hC
  go_enter Try.func34, Try.ntmps34
  go_wp2_with fail
  go_loopw [1, 5] (fun m i wr => ∃ k : Nat, k ≤ n ∧ i = .int .i64 k ∧ m = .int .i64 (1 + 2 * (k : Int)) ∧ Cells wr g (n * 2) (fun j => if j < k * 2 then markF j else f j) ∧ w.heap.size ≤ wr.heap.size ∧ (∀ B, B ≤ g → Below B w wr) ∧ ∀ g' m f', g' ≠ g → Cells w g' m f' → Cells wr g' m f') (fun _ i _ => n - (intOf i).toNat)
  case atStart => exact ⟨0, by omega, rfl, rfl, HC.out.congr (fun j _ => by simp), Nat.le_refl _, fun B _ => Below.refl _ _, fun _ _ _ _ h => h⟩
  case round =>
    obtain ⟨k, hk, rfl, rfl, hCr, hz, hB, hO⟩ := hrel
    have HR := Lib.hid hCr
    have HB := Lib.hid hB
    have HO := Lib.hid hO
    clear hCr hB hO
    by_cases hlt : k < n
    · have p1 := HR.out.cell (show k * 2 < n * 2 by omega)
      have p2 := HR.out.frozen (show k * 2 < n * 2 by omega)
      have H3 := Lib.hid (HR.out.set_ (show k * 2 < n * 2 by omega) (.int .i64 (1 + 2 * (k : Int))))
      have p3 := H3.out.cell (show k * 2 + 1 < n * 2 by omega)
      have p4 := HR.out.frozen (show k * 2 + 1 < n * 2 by omega)
      have HW : Hid (Cells ((wr.setCell ⟨g, k * 2, none⟩ (.int .i64 (1 + 2 * (k : Int)))).setCell ⟨g, k * 2 + 1, none⟩ (.int .i64 (1 + 2 * (k : Int) + 1))) g (n * 2) (fun j => if j < (k + 1) * 2 then markF j else f j)) := Lib.hid (by
        refine (H3.out.set_ (show k * 2 + 1 < n * 2 by omega) (.int .i64 (1 + 2 * (k : Int) + 1))).congr (fun j hj => ?_)
        by_cases e1 : j = k * 2 + 1
        · subst e1; rw [if_pos rfl, if_pos (by omega)]; exact congrArg (Value.int .i64) (by omega)
        · rw [if_neg e1]
          by_cases e0 : j = k * 2
          · subst e0; rw [if_pos rfl, if_pos (by omega)]; exact congrArg (Value.int .i64) (by omega)
          · rw [if_neg e0]
            by_cases e2 : j < k * 2
            · rw [if_pos e2, if_pos (by omega)]
            · rw [if_neg e2, if_neg (by omega)])
      simp at p1 p3
      go_wp2_with fail
      go_roundw
      case rel => exact ⟨k + 1, by omega, by go_num, congrArg (Value.int .i64) (by omega), HW.out, by rw [size_setCell, size_setCell]; exact hz, fun B h => ((HB.out B h).setCell h _).setCell h _, fun g' m f' hne h => ((HO.out g' m f' hne h).far (fun e => hne e.symm) _).far (fun e => hne e.symm) _⟩
      case measure => simp [intOf]; omega
    · go_wp2_with fail
      go_ret
      exact ⟨ret_int (by omega), HR.out.congr (fun j hj => by rw [if_pos (by omega)]), hz, HB.out, HO.out⟩

end Go.Proofs.Ythnekpdakjcadaa
