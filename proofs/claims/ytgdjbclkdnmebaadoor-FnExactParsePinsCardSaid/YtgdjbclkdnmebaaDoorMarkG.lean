/- Lists of lists of numbers marked and looked at again by the law. For lists that lie each in a block of its own, with at most 1048576 numbers. -/
import Derived.Test.YtgdjbclkdnmebaaDoorGears2
namespace Go.Proofs.YtgdjbclkdnmebaaDoor
open Go.ChangeShapes Go.WideShapes Go.ChangeAt Go.RowKit Go.Joins

/-- Marks: k, k + 1, .. -/
def upF (k : Nat) (j : Nat) : Value := .int .i64 ((k + j : Nat) : Int)

theorem markIntS_any (g n c k0 : Nat) (f : Nat → Value) (w : World) (hn : k0 + n ≤ 4000000) (hC : Cells w g n f) :
    Calls Tryd.prog 77 #[.slice (some ⟨g, 0, none⟩) n c, .int .i64 (k0 : Int)] w fun e w' => e = .returned (.int .i64 ((k0 + n : Nat) : Int)) ∧ Cells w' g n (upF k0) ∧ w.heap.size ≤ w'.heap.size ∧ (∀ B, B ≤ g → Below B w w') ∧ ∀ g' m f', g' ≠ g → Cells w g' m f' → Cells w' g' m f' := by
  have HC := Lib.hid hC
  clear hC
  go_enter Tryd.func77, Tryd.ntmps77
  go_wp2_with fail
  go_loopw [1, 5] (fun m i wr => ∃ k : Nat, k ≤ n ∧ i = .int .i64 k ∧ m = .int .i64 ((k0 : Int) + (k : Int)) ∧ Cells wr g n (fun j => if j < k then upF k0 j else f j) ∧ w.heap.size ≤ wr.heap.size ∧ (∀ B, B ≤ g → Below B w wr) ∧ ∀ g' m f', g' ≠ g → Cells w g' m f' → Cells wr g' m f') (fun _ i _ => n - (intOf i).toNat)
  case atStart => exact ⟨0, by omega, rfl, by simp, HC.out.congr (fun j _ => by simp), Nat.le_refl _, fun B _ => Below.refl _ _, fun _ _ _ _ h => h⟩
  case round =>
    obtain ⟨k, hk, rfl, rfl, hCr, hz, hB, hO⟩ := hrel
    have HR := Lib.hid hCr
    have HB := Lib.hid hB
    have HO := Lib.hid hO
    clear hCr hB hO
    by_cases hlt : k < n
    · have p1 := HR.out.cell hlt
      have p2 := HR.out.frozen hlt
      have HW : Hid (Cells (wr.setCell ⟨g, k, none⟩ (.int .i64 ((k0 : Int) + (k : Int)))) g n (fun j => if j < k + 1 then upF k0 j else f j)) := Lib.hid ((HR.out.set_ hlt _).congr (fun j hj => by
        by_cases e : j = k
        · subst e; rw [if_pos rfl, if_pos (by omega)]; exact congrArg (Value.int .i64) (by omega)
        · rw [if_neg e]
          by_cases e2 : j < k
          · rw [if_pos e2, if_pos (by omega)]
          · rw [if_neg e2, if_neg (by omega)]))
      simp at p1
      go_wp2_with fail
      go_roundw
      case rel => exact ⟨k + 1, by omega, by go_num, congrArg (Value.int .i64) (by omega), HW.out, by rw [size_setCell]; exact hz, fun B h => (HB.out B h).setCell h _, fun g' m f' hne h => (HO.out g' m f' hne h).far (fun e => hne e.symm) _⟩
      case measure => simp [intOf]; omega
    · obtain rfl : k = n := by omega
      go_wp2_with fail
      go_ret
      exact ⟨ret_int (by omega), HR.out.congr (fun j hj => by rw [if_pos hj]), hz, HB.out, HO.out⟩

theorem heldIntS_any (g n c k0 : Nat) (w : World) (hn : k0 + n ≤ 4000000) (hC : Cells w g n (upF k0)) :
    Calls Tryd.prog 78 #[.slice (some ⟨g, 0, none⟩) n c, .int .i64 (k0 : Int)] w fun e w' => e = .returned (.int .i64 ((k0 + n : Nat) : Int)) ∧ w = w' := by
  have HC := Lib.hid hC
  clear hC
  go_enter Tryd.func78, Tryd.ntmps78
  go_wp2_with fail
  go_loop [1, 5] (fun m i => ∃ k : Nat, k ≤ n ∧ i = .int .i64 k ∧ m = .int .i64 ((k0 : Int) + (k : Int))) (fun _ i => n - (intOf i).toNat)
  case atStart => exact ⟨0, by omega, rfl, by simp⟩
  case round =>
    obtain ⟨k, hk, rfl, rfl⟩ := hrel
    by_cases hlt : k < n
    · have p1 : w.cell? ⟨g, k, none⟩ = some (.int .i64 ((k0 : Int) + (k : Int))) := by rw [HC.out.cell hlt]; exact congrArg (fun x => some (Value.int .i64 x)) (by omega)
      go_wp2_with fail
      go_round
      case rel => exact ⟨k + 1, by omega, by go_num, congrArg (Value.int .i64) (by omega)⟩
      case measure => simp [intOf]; omega
    · obtain rfl : k = n := by omega
      go_wp2_with fail
      go_ret
      exact ⟨ret_int (by omega), rfl⟩

/-- Lists of lists, each list in a block of its own. -/
structure KnobsD (w : World) (g n : Nat) (L Cp G : Nat → Nat) (f : Nat → Nat → Value) : Prop where
  top : Cells w g n (fun k => .slice (some ⟨G k, 0, none⟩) (L k) (Cp k))
  row : ∀ k, k < n → g ≠ G k ∧ Cells w (G k) (L k) (f k)
  apart : ∀ i k, i < n → k < n → i ≠ k → G i ≠ G k

def sumL (L : Nat → Nat) : Nat → Nat
  | 0 => 0
  | k + 1 => sumL L k + L k

theorem sumL_le {L : Nat → Nat} {i n : Nat} (h : i ≤ n) : sumL L i ≤ sumL L n := by
  induction n with
  | zero => obtain rfl : i = 0 := by omega
            exact Nat.le_refl _
  | succ n ih =>
    rcases Nat.lt_or_ge i (n + 1) with h1 | h1
    · rw [sumL]; have := ih (by omega); omega
    · obtain rfl : i = n + 1 := by omega
      exact Nat.le_refl _

set_option maxHeartbeats 1000000 in
theorem markIntSS_any (g n c : Nat) (L Cp G : Nat → Nat) (f : Nat → Nat → Value) (w : World) (hn : n + sumL L n ≤ 1048576) (hD : KnobsD w g n L Cp G f) :
    Calls Tryd.prog 39 #[.slice (some ⟨g, 0, none⟩) n c, .int .i64 1] w fun e w' => e = .returned (.int .i64 ((1 + sumL L n : Nat) : Int)) ∧ KnobsD w' g n L Cp G (fun k => upF (1 + sumL L k)) ∧ w.heap.size ≤ w'.heap.size ∧ (∀ B, (∀ k, k < n → B ≤ G k) → Below B w w') ∧ ∀ g' m f', (∀ k, k < n → g' ≠ G k) → Cells w g' m f' → Cells w' g' m f' := by
  have HD := Lib.hid hD
  have hn2 : n ≤ 1048576 := by omega
  have HS := Lib.hid (show sumL L n ≤ 1048576 by omega)
  clear hD hn
  go_enter Tryd.func39, Tryd.ntmps39
  go_wp2_with fail
  go_loopw [1, 5] (fun m i wr => ∃ k : Nat, k ≤ n ∧ i = .int .i64 k ∧ m = .int .i64 ((1 + sumL L k : Nat) : Int) ∧ KnobsD wr g n L Cp G (fun j => if j < k then upF (1 + sumL L j) else f j) ∧ w.heap.size ≤ wr.heap.size ∧ (∀ B, (∀ k, k < n → B ≤ G k) → Below B w wr) ∧ ∀ g' m f', (∀ k, k < n → g' ≠ G k) → Cells w g' m f' → Cells wr g' m f') (fun _ i _ => n - (intOf i).toNat)
  case atStart => exact ⟨0, by omega, rfl, by simp [sumL], ⟨HD.out.top, fun k hk => ⟨(HD.out.row k hk).1, (HD.out.row k hk).2.congr (fun j _ => by simp)⟩, HD.out.apart⟩, Nat.le_refl _, fun B _ => Below.refl _ _, fun _ _ _ _ h => h⟩
  case round =>
    obtain ⟨k, hk, rfl, rfl, hDr, hz, hB, hO⟩ := hrel
    have HR := Lib.hid hDr
    have HB := Lib.hid hB
    have HO := Lib.hid hO
    clear hDr hB hO
    by_cases hlt : k < n
    · have p1 := HR.out.top.cell hlt
      have HRK := Lib.hid (HR.out.row k hlt)
      have HSK : Hid (sumL L (k + 1) = sumL L k + L k ∧ sumL L (k + 1) ≤ 1048576) := Lib.hid ⟨rfl, Nat.le_trans (sumL_le (show k + 1 ≤ n from hlt)) HS.out⟩
      have hbd : 1 + sumL L k + L k ≤ 4000000 := by have := HSK.out; omega
      go_wp2_with (go_at_call 77; refine (markIntS_any _ _ _ (1 + sumL L k) _ _ hbd HRK.out.2).mono ?_; rintro e w2 ⟨rfl, hC2, hz2, hB2, hO2⟩)
      have HW : Hid (KnobsD w2 g n L Cp G (fun j => if j < k + 1 then upF (1 + sumL L j) else f j)) := Lib.hid ⟨hO2 _ _ _ HRK.out.1 HR.out.top, fun j hj => ⟨(HR.out.row j hj).1, by
        by_cases e : j = k
        · subst e; rw [if_pos (by omega)]; exact hC2
        · have h := hO2 _ _ _ (HR.out.apart j k hj hlt e) (HR.out.row j hj).2
          by_cases e2 : j < k
          · rw [if_pos e2] at h; rw [if_pos (by omega)]; exact h
          · rw [if_neg e2] at h; rw [if_neg (by omega)]; exact h⟩, HR.out.apart⟩
      have HBW : Hid (∀ B, (∀ k, k < n → B ≤ G k) → Below B w w2) := Lib.hid (fun B h => (HB.out B h).trans (hB2 B (h k hlt)))
      have HOW : Hid (∀ g' m f', (∀ k, k < n → g' ≠ G k) → Cells w g' m f' → Cells w2 g' m f') := Lib.hid (fun g' m f' h hC => hO2 _ _ _ (h k hlt) (HO.out g' m f' h hC))
      have hz3 : w.heap.size ≤ w2.heap.size := Nat.le_trans hz hz2
      clear hC2 hB2 hO2
      go_wp2_with fail
      go_roundw
      case rel => exact ⟨k + 1, by omega, by go_num, congrArg (Value.int .i64) (by have := HSK.out.1; omega), HW.out, hz3, HBW.out, HOW.out⟩
      case measure => simp [intOf]; omega
    · obtain rfl : k = n := by omega
      go_wp2_with fail
      go_ret
      exact ⟨rfl, ⟨HR.out.top, fun j hj => ⟨(HR.out.row j hj).1, by have h := (HR.out.row j hj).2; rw [if_pos hj] at h; exact h⟩, HR.out.apart⟩, hz, HB.out, HO.out⟩

theorem KnobsD.call {w w' : World} {g n : Nat} {L Cp G : Nat → Nat} {f : Nat → Nat → Value} (h : KnobsD w g n L Cp G f) (hb : Below w.heap.size w w') : KnobsD w' g n L Cp G f :=
  ⟨h.top.call hb, fun k hk => ⟨(h.row k hk).1, (h.row k hk).2.call hb⟩, h.apart⟩

theorem heldIntSS_any (g n c : Nat) (L Cp G : Nat → Nat) (w : World) (hn : n + sumL L n ≤ 1048576) (hD : KnobsD w g n L Cp G (fun k => upF (1 + sumL L k))) :
    Calls Tryd.prog 40 #[.slice (some ⟨g, 0, none⟩) n c, .int .i64 1] w fun e w' => e = .returned (.int .i64 ((1 + sumL L n : Nat) : Int)) ∧ w = w' := by
  have HD := Lib.hid hD
  have hn2 : n ≤ 1048576 := by omega
  have HS := Lib.hid (show sumL L n ≤ 1048576 by omega)
  clear hD hn
  go_enter Tryd.func40, Tryd.ntmps40
  go_wp2_with fail
  go_loop [1, 5] (fun m i => ∃ k : Nat, k ≤ n ∧ i = .int .i64 k ∧ m = .int .i64 ((1 + sumL L k : Nat) : Int)) (fun _ i => n - (intOf i).toNat)
  case atStart => exact ⟨0, by omega, rfl, by simp [sumL]⟩
  case round =>
    obtain ⟨k, hk, rfl, rfl⟩ := hrel
    by_cases hlt : k < n
    · have p1 := HD.out.top.cell hlt
      have HRK := Lib.hid (HD.out.row k hlt)
      have HSK : Hid (sumL L (k + 1) = sumL L k + L k ∧ sumL L (k + 1) ≤ 1048576) := Lib.hid ⟨rfl, Nat.le_trans (sumL_le (show k + 1 ≤ n from hlt)) HS.out⟩
      have hbd : 1 + sumL L k + L k ≤ 4000000 := by have := HSK.out; omega
      go_wp2_with (go_at_call 78; refine (heldIntS_any _ _ _ (1 + sumL L k) _ hbd HRK.out.2).mono ?_; rintro e w2 ⟨rfl, rfl⟩)
      all_goals (try (exfalso; omega))
      go_round
      case rel => exact ⟨k + 1, by omega, by go_num, congrArg (Value.int .i64) (by have := HSK.out.1; omega)⟩
      case measure => simp [intOf]; omega
    · obtain rfl : k = n := by omega
      go_wp2_with fail
      go_ret
      exact ⟨rfl, rfl⟩

end Go.Proofs.YtgdjbclkdnmebaaDoor
