/- Equal lists of turns, as the law compares them. For lists that hold the same turns. -/
import Derived.Test.YtpbnleohbegccaaOpenTurns
namespace Go.Proofs.Ytpbnleohbegccaa
open Go.ChangeShapes Go.WideShapes Go.ChangeAt Go.RowKit Go.Joins

theorem eqTurn_same (x y : Int) (w : World) :
    Calls Try.prog 30 #[.agg #[.int .i64 x, .int .i64 y], .agg #[.int .i64 x, .int .i64 y]] w fun e w' => e = .returned (.bool true) ∧ Below w.heap.size w w' := by
  go_enter Try.func30, Try.ntmps30
  go_wp2_with fail
  go_ret
  refine ⟨rfl, ?_⟩
  (repeat (first | assumption | exact Below.refl _ _ | (refine Below.alloc ?_ (by first | omega | (simp; done) | (simp; omega)) _) | (refine Below.setCell ?_ (by first | omega | (simp; done) | (simp; omega)) _) | refine bel_drewN ?_ _ | refine bel_drew ?_ | (refine bel_call ?_ (by assumption))))

set_option maxHeartbeats 1000000 in
theorem eqTurnS_same (g1 g2 n c1 c2 : Nat) (ts : List (Int × Int)) (w : World) (hm : n ≤ 1048576) (hC1 : Cells w g1 (n * 2) (turnF ts)) (hC2 : Cells w g2 (n * 2) (turnF ts)) :
    Calls Try.prog 55 #[.slice (some ⟨g1, 0, none⟩) n c1, .slice (some ⟨g2, 0, none⟩) n c2] w fun e w' => e = .returned (.bool true) ∧ Below w.heap.size w w' := by
  have H1 := Lib.hid hC1
  have H2 := Lib.hid hC2
  clear hC1 hC2
  go_enter Try.func55, Try.ntmps55
  go_wp2_with fail
  go_loopw [5] (fun i wr => ∃ k : Nat, k ≤ n ∧ i = .int .i64 k ∧ Below w.heap.size w wr) (fun i _ => n - (intOf i).toNat)
  case atStart => exact ⟨0, by omega, rfl, Below.refl _ _⟩
  case round =>
    obtain ⟨k, hk, rfl, hB⟩ := hrel
    by_cases hlt : k < n
    · have o0 : wr.cell? ⟨g1, k * 2, none⟩ = some (.int .i64 (ts.getD k (0, 0)).1) := by rw [← turnF_0]; exact (H1.out.below hB H1.out.lt).cell (by omega)
      have o1 : wr.cell? ⟨g1, k * 2 + 1, none⟩ = some (.int .i64 (ts.getD k (0, 0)).2) := by rw [← turnF_1]; exact (H1.out.below hB H1.out.lt).cell (by omega)
      have p0 : wr.cell? ⟨g2, k * 2, none⟩ = some (.int .i64 (ts.getD k (0, 0)).1) := by rw [← turnF_0]; exact (H2.out.below hB H2.out.lt).cell (by omega)
      have p1 : wr.cell? ⟨g2, k * 2 + 1, none⟩ = some (.int .i64 (ts.getD k (0, 0)).2) := by rw [← turnF_1]; exact (H2.out.below hB H2.out.lt).cell (by omega)
      generalize (ts.getD k (0, 0)).1 = x at o0 p0
      generalize (ts.getD k (0, 0)).2 = y at o1 p1
      go_wp2_with fail
      go_region_with (go_at_call 30; refine (eqTurn_same _ _ _).mono ?_; rintro e w3 ⟨rfl, hb3⟩)
      all_goals
        have HW := Lib.hid (below_undrew hb3)
        clear hb3
        go_wp2_with fail
        go_roundw
        case rel => exact ⟨k + 1, by omega, by go_num, bel_call hB HW.out⟩
        case measure => simp [intOf]; omega
    · go_wp2_with fail
      go_ret
      exact ⟨rfl, hB⟩

end Go.Proofs.Ytpbnleohbegccaa
