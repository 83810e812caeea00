/- Lists of lists of numbers marked and looked at again by the law. For lists that lie each in a block of its own, with at most 1048576 numbers. -/
import Derived.Test.YtkfddobdffgmiaaGears2
namespace Go.Proofs.Ytkfddobdffgmiaa
open Go.ChangeShapes Go.WideShapes Go.ChangeAt Go.RowKit Go.Joins

/-- Marks: k, k + 1, .. -/
def upF (k : Nat) (j : Nat) : Value := .int .i64 ((k + j : Nat) : Int)

theorem markIntS_any (g n c k0 : Nat) (f : Nat → Value) (w : World) (hn : k0 + n ≤ 4000000) (hC : Cells w g n f) :
    Calls Try.prog 46 #[.slice (some ⟨g, 0, none⟩) n c, .int .i64 (k0 : Int)] w fun e w' => e = .returned (.int .i64 ((k0 + n : Nat) : Int)) ∧ Cells w' g n (upF k0) ∧ w.heap.size ≤ w'.heap.size ∧ (∀ B, B ≤ g → Below B w w') ∧ ∀ g' m f', g' ≠ g → Cells w g' m f' → Cells w' g' m f' := by
  have HC := Lib.hid hC
  clear hC
  go_enter Try.func46, Try.ntmps46
  go_wp2_with fail
  go_loopw [1, 5] (fun m i wr => ∃ k : Nat, k ≤ n ∧ i = .int .i64 k ∧ m = .int .i64 ((k0 : Int) + (k : Int)) ∧ Cells wr g n (fun j => if j < k then upF k0 j else f j) ∧ w.heap.size ≤ wr.heap.size ∧ (∀ B, B ≤ g → Below B w wr) ∧ ∀ g' m f', g' ≠ g → Cells w g' m f' → Cells wr g' m f') (fun _ i _ => n - (intOf i).toNat)
  case atStart => exact ⟨0, by omega, rfl, by simp, HC.out.congr (fun j _ => by simp), Nat.le_refl _, fun B _ => Below.refl _ _, fun _ _ _ _ h => h⟩
  case round =>
    obtain ⟨k, hk, rfl, rfl, hCr, hz, hB, hO⟩ := hrel
    have HR := Lib.hid hCr
    have HB := Lib.hid hB
    have HO := Lib.hid hO
    clear hCr hB hO
    by_cases hlt : k < n
    · have p1 := HR.out.cell hlt
      have p2 := HR.out.frozen hlt
      have HW : Hid (Cells (wr.setCell ⟨g, k, none⟩ (.int .i64 ((k0 : Int) + (k : Int)))) g n (fun j => if j < k + 1 then upF k0 j else f j)) := Lib.hid ((HR.out.set_ hlt _).congr (fun j hj => by
        by_cases e : j = k
        · subst e; rw [if_pos rfl, if_pos (by omega)]; exact congrArg (Value.int .i64) (by omega)
        · rw [if_neg e]
          by_cases e2 : j < k
          · rw [if_pos e2, if_pos (by omega)]
          · rw [if_neg e2, if_neg (by omega)]))
      simp at p1
      go_wp2_with fail
      go_roundw
      case rel => exact ⟨k + 1, by omega, by go_num, congrArg (Value.int .i64) (by omega), HW.out, by rw [size_setCell]; exact hz, fun B h => (HB.out B h).setCell h _, fun g' m f' hne h => (HO.out g' m f' hne h).far (fun e => hne e.symm) _⟩
      case measure => simp [intOf]; omega
    · obtain rfl : k = n := by omega
      go_wp2_with fail
      go_ret
      exact ⟨ret_int (by omega), HR.out.congr (fun j hj => by rw [if_pos hj]), hz, HB.out, HO.out⟩

theorem heldIntS_any (g n c k0 : Nat) (w : World) (hn : k0 + n ≤ 4000000) (hC : Cells w g n (upF k0)) :
    Calls Try.prog 47 #[.slice (some ⟨g, 0, none⟩) n c, .int .i64 (k0 : Int)] w fun e w' => e = .returned (.int .i64 ((k0 + n : Nat) : Int)) ∧ w = w' := by
  have HC := Lib.hid hC
  clear hC
  go_enter Try.func47, Try.ntmps47
  go_wp2_with fail
  go_loop [1, 5] (fun m i => ∃ k : Nat, k ≤ n ∧ i = .int .i64 k ∧ m = .int .i64 ((k0 : Int) + (k : Int))) (fun _ i => n - (intOf i).toNat)
  case atStart => exact ⟨0, by omega, rfl, by simp⟩
  case round =>
    obtain ⟨k, hk, rfl, rfl⟩ := hrel
    by_cases hlt : k < n
    · have p1 : w.cell? ⟨g, k, none⟩ = some (.int .i64 ((k0 : Int) + (k : Int))) := by rw [HC.out.cell hlt]; exact congrArg (fun x => some (Value.int .i64 x)) (by omega)
      go_wp2_with fail
      go_round
      case rel => exact ⟨k + 1, by omega, by go_num, congrArg (Value.int .i64) (by omega)⟩
      case measure => simp [intOf]; omega
    · obtain rfl : k = n := by omega
      go_wp2_with fail
      go_ret
      exact ⟨ret_int (by omega), rfl⟩

/-- Lists of lists, each list in a block of its own. -/
structure KnobsD (w : World) (g n : Nat) (L Cp G : Nat → Nat) (f : Nat → Nat → Value) : Prop where
  top : Cells w g n (fun k => .slice (some ⟨G k, 0, none⟩) (L k) (Cp k))
  row : ∀ k, k < n → g ≠ G k ∧ Cells w (G k) (L k) (f k)
  apart : ∀ i k, i < n → k < n → i ≠ k → G i ≠ G k

def sumL (L : Nat → Nat) : Nat → Nat
  | 0 => 0
  | k + 1 => sumL L k + L k

theorem sumL_le {L : Nat → Nat} {i n : Nat} (h : i ≤ n) : sumL L i ≤ sumL L n := by
  induction n with
  | zero => obtain rfl : i = 0 := by omega
            exact Nat.le_refl _
  | succ n ih =>
    rcases Nat.lt_or_ge i (n + 1) with h1 | h1
    · rw [sumL]; have := ih (by omega); omega
    · obtain rfl : i = n + 1 := by omega
      exact Nat.le_refl _

theorem KnobsD.call {w w' : World} {g n : Nat} {L Cp G : Nat → Nat} {f : Nat → Nat → Value} (h : KnobsD w g n L Cp G f) (hb : Below w.heap.size w w') : KnobsD w' g n L Cp G f :=
  ⟨h.top.call hb, fun k hk => ⟨(h.row k hk).1, (h.row k hk).2.call hb⟩, h.apart⟩

end Go.Proofs.Ytkfddobdffgmiaa
