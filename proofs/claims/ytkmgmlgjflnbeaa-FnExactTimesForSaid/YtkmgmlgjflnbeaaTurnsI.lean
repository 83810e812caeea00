/- All turns of some knobs in their order, as the program lists them. For at most a thousand knobs. -/
import Derived.Test.YtkmgmlgjflnbeaaTurnK
import Derived.Test.YtkmgmlgjflnbeaaReach
namespace Go.Proofs.Ytkmgmlgjflnbeaa
open Go.ChangeShapes Go.WideShapes Go.ChangeAt Go.RowKit Go.Joins

/-- The turns of n knobs. -/
def turnsL (n : Nat) : List (Int × Int) := (List.range (2 * n)).map fun j => (((j / 2 : Nat) : Int), byJ j)

theorem turnsL_length (n : Nat) : (turnsL n).length = 2 * n := by simp [turnsL]

theorem turnsL_at {n j : Nat} (hj : j < 2 * n) : (turnsL n).getD j (0, 0) = (((j / 2 : Nat) : Int), byJ j) := by simp [turnsL, List.getD, hj]

theorem turnsL_succ (n : Nat) : turnsL (n + 1) = turnsL n ++ [((n : Int), 1), ((n : Int), -1)] := by
  unfold turnsL
  rw [show 2 * (n + 1) = 2 * n + 1 + 1 by omega, List.range_succ, List.range_succ, List.map_append, List.map_append, List.append_assoc]
  congr 1
  simp only [List.map_singleton, List.singleton_append]
  have e1 : byJ (2 * n) = 1 := by unfold byJ; rw [if_pos (by omega)]
  have e2 : byJ (2 * n + 1) = -1 := by unfold byJ; rw [if_neg (by omega)]
  rw [e1, e2, show 2 * n / 2 = n by omega, show (2 * n + 1) / 2 = n by omega]

/-- The list handed back. -/
def TurnsAll (w : World) (n : Nat) (e : Ending) (w' : World) : Prop :=
  ∃ A c, e = .returned (.slice A (2 * n) c) ∧ (n = 0 ∨ ∃ g, A = some ⟨g, 0, none⟩ ∧ w.heap.size ≤ g ∧ Cells w' g (2 * n * 2) (turnF (turnsL n))) ∧ Below w.heap.size w w'

theorem own_any {w : World} {base : Nat} {e : TypeId} {size : Nat} {v : Value} {n : Nat} {xs : List Value} (h : w.ownsRow base e size v n xs) : ∃ A c, v = .slice A n c := by
  rcases h.2 with ⟨e, h0⟩ | ⟨g, cap, _, e, _⟩
  · exact ⟨none, 0, by rw [e, h0]⟩
  · exact ⟨_, cap, e⟩

set_option maxHeartbeats 1000000 in
theorem turnsInOrder_any (n : Nat) (w : World) (hn : n ≤ 1000) :
    Calls Try.prog 46 #[.int .i64 (n : Int)] w (TurnsAll w n) := by
  obtain ⟨i0, hi, hz0, hz1, hz2⟩ := info_parts info_turn
  go_enter Try.func46, Try.ntmps46
  go_wp2_with fail
  go_loopw [3, 6] (fun v i wr => ∃ k : Nat, k ≤ n ∧ i = .int .i64 k ∧ wr.ownsRow w.heap.size 51 2 v (2 * k) (tv (turnsL k)) ∧ Below w.heap.size w wr) (fun _ i _ => n - (intOf i).toNat)
  case atStart => exact ⟨0, by omega, rfl, World.ownsRow_nil _ _ _ _, Below.refl _ _⟩
  case round =>
    obtain ⟨k, hk, rfl, hO, hB⟩ := hrel
    have HOW := Lib.hid hO
    clear hO
    by_cases hlt : k < n
    · have HSn : Hid (tv (turnsL (k + 1)) = tv (turnsL k) ++ [.int .i64 (k : Int), .int .i64 1, .int .i64 (k : Int), .int .i64 (-1)]) := Lib.hid (by rw [turnsL_succ, tv_app]; rfl)
      go_wp2_with (first
        | (go_at_call 54; refine (forth_any _ _).mono ?_; rintro e w2 ⟨rfl, hb2⟩)
        | (go_at_call 55; refine (back_any _ _).mono ?_; rintro e w3 ⟨rfl, hb3⟩; have hown3 := own_below (own_below HOW.out hb2) hb3)
        | (at_builtin; refine wpList_append_own _ rfl _ _ 45 rfl w.heap.size 51 i0 (.agg #[.int .i64 0, .int .i64 0]) 2 16 Try.underlying45 hi hz0 hz1 hz2 rfl (by decide) _ _ _ rfl (hown3.alloc _) ⟨w3.heap.size, 0, none⟩ 2 2 [.int .i64 (k : Int), .int .i64 1, .int .i64 (k : Int), .int .i64 (-1)] rfl rfl (news_at rfl) (by simp [Value.oneCell']) (by unfold maxLen; omega) (by omega) (by have h1 := hB.size; have h2 := hb2.size; have h3 := hb3.size; simp; omega) ?_; intro v' w4 hown' hgrow hiff; clear hiff))
      have HB4 := Lib.hid (((bel_call (bel_call hB hb2) hb3).alloc (Nat.le_trans (Nat.le_trans hB.size hb2.size) hb3.size) _).grown hgrow (by have h1 := hB.size; have h2 := hb2.size; have h3 := hb3.size; simp; omega) (fun j hj => (hown3.lt j hj).1))
      have HO4 : Hid (w4.ownsRow w.heap.size 51 2 v' (2 * (k + 1)) (tv (turnsL (k + 1)))) := Lib.hid (by rw [HSn.out]; exact hown')
      clear hgrow hown' hown3 hb3 hb2
      go_wp2_with fail
      go_roundw
      case rel => exact ⟨k + 1, by omega, by go_num, HO4.out, HB4.out⟩
      case measure => simp [intOf]; omega
    · obtain rfl : k = n := by omega
      go_wp2_with fail
      go_ret
      obtain ⟨A, c, rfl⟩ := own_any HOW.out
      refine ⟨A, c, rfl, ?_, hB⟩
      by_cases h0 : k = 0
      · exact .inl h0
      · obtain ⟨g, c', e, hg, hC⟩ := own_turns HOW.out (by omega)
        cases e
        exact .inr ⟨g, rfl, hg, hC⟩

end Go.Proofs.Ytkmgmlgjflnbeaa
