/- Gears compared by the law. For gears that hold the same. -/
import Derived.Test.YtgopaflggbgplaaGears2
import Derived.Test.YtgopaflggbgplaaPair
import Derived.Deep.RegionWith
namespace Go.Proofs.Ytgopaflggbgplaa
open Go.ChangeShapes Go.WideShapes Go.ChangeAt Go.RowKit Go.Joins

theorem IntsA.of_cells {w : World} {g n : Nat} {xs : List Int} (hn : xs.length = n) (h : Cells w g n (digF xs)) : IntsA w (some ⟨g, 0, none⟩) n xs :=
  ⟨hn, .inr ⟨g, 0, rfl, h.lt, fun k hk => by rw [Nat.zero_add, h.cell hk]; rfl⟩⟩

theorem GridT.knobs {w : World} {g n : Nat} {ks : List (List Int)} {G : Nat → Nat} (hn : ks.length = n) (hm : n + lensAt ks n ≤ 1048576) (h : GridT w g n ks G) : KnobsA w (some ⟨g, 0, none⟩) n ks :=
  ⟨hn, .inr ⟨g, 0, rfl, h.top.lt, fun k hk => ⟨_, _, by rw [Nat.zero_add]; exact h.top.cell hk, by have := lensAt_one (ks := ks) hk; unfold maxLen; omega, IntsA.of_cells rfl (h.row k hk).2⟩⟩⟩

theorem eqLock_same (a b : Int) (w : World) :
    Calls Try.prog 26 #[.agg #[.int .i64 a, .int .i64 b], .agg #[.int .i64 a, .int .i64 b]] w fun e w' => e = .returned (.bool true) ∧ Below w.heap.size w w' := by
  go_enter Try.func26, Try.ntmps26
  go_wp2_with fail
  go_ret
  refine ⟨rfl, ?_⟩
  (repeat (first | assumption | exact Below.refl _ _ | (refine Below.alloc ?_ (by first | omega | (simp; done) | (simp; omega)) _) | (refine Below.setCell ?_ (by first | omega | (simp; done) | (simp; omega)) _) | refine bel_drewN ?_ _ | refine bel_drew ?_ | (refine bel_call ?_ (by assumption))))

end Go.Proofs.Ytgopaflggbgplaa
