/- Lists of turns marked and looked at again by the law, and compared. For lists of the call's own. -/
import Derived.Test.YtpbnleohbegccaaEqTurns
namespace Go.Proofs.Ytpbnleohbegccaa
open Go.ChangeShapes Go.WideShapes Go.ChangeAt Go.RowKit Go.Joins

/-- A list of turns handed back: empty, or cells of a block that is known. -/
def OwnT (w : World) (B : Nat) (A : Option Addr) (n : Nat) (ts : List (Int × Int)) : Prop :=
  ts.length = n ∧ n ≤ 1000 ∧ (n = 0 ∨ ∃ g, A = some ⟨g, 0, none⟩ ∧ B ≤ g ∧ Cells w g (n * 2) (turnF ts))

theorem OwnT.keep {w w' : World} {B : Nat} {A : Option Addr} {n : Nat} {ts : List (Int × Int)} (h : OwnT w B A n ts) (hb : Below w.heap.size w w') : OwnT w' B A n ts :=
  ⟨h.1, h.2.1, h.2.2.imp id fun ⟨g, e, hg, hC⟩ => ⟨g, e, hg, hC.call hb⟩⟩

/-- Marks: 1, 2, .. -/
def markF (j : Nat) : Value := .int .i64 ((j : Int) + 1)

theorem eqTurnS_gen (A1 A2 : Option Addr) (n c1 c2 B1 B2 : Nat) (ts : List (Int × Int)) (w : World) (h1 : OwnT w B1 A1 n ts) (h2 : OwnT w B2 A2 n ts) :
    Calls Try.prog 55 #[.slice A1 n c1, .slice A2 n c2] w fun e w' => e = .returned (.bool true) ∧ Below w.heap.size w w' := by
  have hm := h1.2.1
  rcases h1.2.2 with h0 | ⟨g1, rfl, _, hC1⟩
  · subst h0
    clear h1 h2 hm
    go_enter Try.func55, Try.ntmps55
    go_wp2_with fail
    go_loop [5] (fun i => i = .int .i64 0) (fun _ => 0)
    case atStart => rfl
    case round =>
      obtain rfl := hrel
      go_wp2_with fail
      go_ret
      exact ⟨rfl, Below.refl _ _⟩
  · rcases h2.2.2 with h0 | ⟨g2, rfl, _, hC2⟩
    · subst h0
      clear h1 h2 hm hC1
      go_enter Try.func55, Try.ntmps55
      go_wp2_with fail
      go_loop [5] (fun i => i = .int .i64 0) (fun _ => 0)
      case atStart => rfl
      case round =>
        obtain rfl := hrel
        go_wp2_with fail
        go_ret
        exact ⟨rfl, Below.refl _ _⟩
    · exact eqTurnS_same g1 g2 n c1 c2 ts w (by omega) hC1 hC2

theorem markTurnS_any (g n c : Nat) (f : Nat → Value) (w : World) (hn : n ≤ 1000) (hC : Cells w g (n * 2) f) :
    Calls Try.prog 56 #[.slice (some ⟨g, 0, none⟩) n c, .int .i64 1] w fun e w' => e = .returned (.int .i64 (1 + 2 * (n : Int))) ∧ Cells w' g (n * 2) markF ∧ w.heap.size ≤ w'.heap.size ∧ ∀ B, B ≤ g → Below B w w' := by
  have HC := Lib.hid hC
  clear hC
  go_enter Try.func56, Try.ntmps56
  go_wp2_with fail
  go_loopw [1, 5] (fun m i wr => ∃ k : Nat, k ≤ n ∧ i = .int .i64 k ∧ m = .int .i64 (1 + 2 * (k : Int)) ∧ Cells wr g (n * 2) (fun j => if j < k * 2 then markF j else f j) ∧ w.heap.size ≤ wr.heap.size ∧ ∀ B, B ≤ g → Below B w wr) (fun _ i _ => n - (intOf i).toNat)
  case atStart => exact ⟨0, by omega, rfl, rfl, HC.out.congr (fun j _ => by simp), Nat.le_refl _, fun B _ => Below.refl _ _⟩
  case round =>
    obtain ⟨k, hk, rfl, rfl, hCr, hz, hB⟩ := hrel
    have HR := Lib.hid hCr
    have HB := Lib.hid hB
    clear hCr hB
    by_cases hlt : k < n
    · have p1 := HR.out.cell (show k * 2 < n * 2 by omega)
      have p2 := HR.out.frozen (show k * 2 < n * 2 by omega)
      have H3 := Lib.hid (HR.out.set_ (show k * 2 < n * 2 by omega) (.int .i64 (1 + 2 * (k : Int))))
      have p3 := H3.out.cell (show k * 2 + 1 < n * 2 by omega)
      have p4 := HR.out.frozen (show k * 2 + 1 < n * 2 by omega)
      have HW : Hid (Cells ((wr.setCell ⟨g, k * 2, none⟩ (.int .i64 (1 + 2 * (k : Int)))).setCell ⟨g, k * 2 + 1, none⟩ (.int .i64 (1 + 2 * (k : Int) + 1))) g (n * 2) (fun j => if j < (k + 1) * 2 then markF j else f j)) := Lib.hid (by
        refine (H3.out.set_ (show k * 2 + 1 < n * 2 by omega) (.int .i64 (1 + 2 * (k : Int) + 1))).congr (fun j hj => ?_)
        by_cases e1 : j = k * 2 + 1
        · subst e1; rw [if_pos rfl, if_pos (by omega)]; exact congrArg (Value.int .i64) (by omega)
        · rw [if_neg e1]
          by_cases e0 : j = k * 2
          · subst e0; rw [if_pos rfl, if_pos (by omega)]; exact congrArg (Value.int .i64) (by omega)
          · rw [if_neg e0]
            by_cases e2 : j < k * 2
            · rw [if_pos e2, if_pos (by omega)]
            · rw [if_neg e2, if_neg (by omega)])
      simp at p1 p3
      go_wp2_with fail
      go_roundw
      case rel => exact ⟨k + 1, by omega, by go_num, congrArg (Value.int .i64) (by omega), HW.out, by rw [size_setCell, size_setCell]; exact hz, fun B h => ((HB.out B h).setCell h _).setCell h _⟩
      case measure => simp [intOf]; omega
    · go_wp2_with fail
      go_ret
      exact ⟨ret_int (by omega), HR.out.congr (fun j hj => by rw [if_pos (by omega)]), hz, HB.out⟩

theorem heldTurnS_any (g n c : Nat) (w : World) (hn : n ≤ 1000) (hC : Cells w g (n * 2) markF) :
    Calls Try.prog 57 #[.slice (some ⟨g, 0, none⟩) n c, .int .i64 1] w fun e w' => e = .returned (.int .i64 (1 + 2 * (n : Int))) ∧ w = w' := by
  have HC := Lib.hid hC
  clear hC
  go_enter Try.func57, Try.ntmps57
  go_wp2_with fail
  go_loop [1, 5] (fun m i => ∃ k : Nat, k ≤ n ∧ i = .int .i64 k ∧ m = .int .i64 (1 + 2 * (k : Int))) (fun _ i => n - (intOf i).toNat)
  case atStart => exact ⟨0, by omega, rfl, rfl⟩
  case round =>
    obtain ⟨k, hk, rfl, rfl⟩ := hrel
    by_cases hlt : k < n
    · have p1 : w.cell? ⟨g, k * 2, none⟩ = some (.int .i64 (1 + 2 * (k : Int))) := by rw [HC.out.cell (show k * 2 < n * 2 by omega)]; exact congrArg (fun x => some (Value.int .i64 x)) (by omega)
      have p2 : w.cell? ⟨g, k * 2 + 1, none⟩ = some (.int .i64 (1 + 2 * (k : Int) + 1)) := by rw [HC.out.cell (show k * 2 + 1 < n * 2 by omega)]; exact congrArg (fun x => some (Value.int .i64 x)) (by omega)
      go_wp2_with fail
      go_round
      case rel => exact ⟨k + 1, by omega, by go_num, congrArg (Value.int .i64) (by omega)⟩
      case measure => simp [intOf]; omega
    · go_wp2_with fail
      go_ret
      exact ⟨ret_int (by omega), rfl⟩

end Go.Proofs.Ytpbnleohbegccaa
