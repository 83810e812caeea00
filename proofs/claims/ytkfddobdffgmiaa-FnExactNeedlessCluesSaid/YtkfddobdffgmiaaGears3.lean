/- Gears compared by the law. For gears that hold the same. -/
import Derived.Test.YtkfddobdffgmiaaGears2
import Derived.Test.YtkfddobdffgmiaaPair
import Derived.Deep.RegionWith
namespace Go.Proofs.Ytkfddobdffgmiaa
open Go.ChangeShapes Go.WideShapes Go.ChangeAt Go.RowKit Go.Joins

theorem IntsA.of_cells {w : World} {g n : Nat} {xs : List Int} (hn : xs.length = n) (h : Cells w g n (digF xs)) : IntsA w (some ⟨g, 0, none⟩) n xs :=
  ⟨hn, .inr ⟨g, 0, rfl, h.lt, fun k hk => by rw [Nat.zero_add, h.cell hk]; rfl⟩⟩

theorem GridT.knobs {w : World} {g n : Nat} {ks : List (List Int)} {G : Nat → Nat} (hn : ks.length = n) (hm : n + lensAt ks n ≤ 1048576) (h : GridT w g n ks G) : KnobsA w (some ⟨g, 0, none⟩) n ks :=
  ⟨hn, .inr ⟨g, 0, rfl, h.top.lt, fun k hk => ⟨_, _, by rw [Nat.zero_add]; exact h.top.cell hk, by have := lensAt_one (ks := ks) hk; unfold maxLen; omega, IntsA.of_cells rfl (h.row k hk).2⟩⟩⟩

theorem eqIntS_any (A1 A2 : Option Addr) (n c1 c2 : Nat) (xs : List Int) (w : World) (hm : n ≤ 1048576) (h1 : IntsA w A1 n xs) (h2 : IntsA w A2 n xs) :
    Calls Try.prog 45 #[.slice A1 n c1, .slice A2 n c2] w fun e w' => e = .returned (.bool true) ∧ Below w.heap.size w w' := by
  rcases h1.at_ with h0 | ⟨b1, o1, rfl, hb1, hc1⟩
  · subst h0
    clear h1 h2 hm
    go_enter Try.func45, Try.ntmps45
    go_wp2_with fail
    go_loop [5] (fun i => i = .int .i64 0) (fun _ => 0)
    case atStart => rfl
    case round =>
      obtain rfl := hrel
      go_wp2_with fail
      go_ret
      exact ⟨rfl, Below.refl _ _⟩
  · rcases h2.at_ with h0 | ⟨b2, o2, rfl, hb2, hc2⟩
    · subst h0
      clear h1 h2 hm hc1
      go_enter Try.func45, Try.ntmps45
      go_wp2_with fail
      go_loop [5] (fun i => i = .int .i64 0) (fun _ => 0)
      case atStart => rfl
      case round =>
        obtain rfl := hrel
        go_wp2_with fail
        go_ret
        exact ⟨rfl, Below.refl _ _⟩
    · have H1 := Lib.hid hc1
      have H2 := Lib.hid hc2
      clear hc1 hc2 h1 h2
      go_enter Try.func45, Try.ntmps45
      go_wp2_with fail
      go_loopw [5] (fun i wr => ∃ k : Nat, k ≤ n ∧ i = .int .i64 k ∧ Below w.heap.size w wr) (fun i _ => n - (intOf i).toNat)
      case atStart => exact ⟨0, by omega, rfl, Below.refl _ _⟩
      case round =>
        obtain ⟨k, hk, rfl, hB⟩ := hrel
        by_cases hlt : k < n
        · have p0 : wr.cell? ⟨b1, o1 + k, none⟩ = some (.int .i64 (xs.getD k 0)) := by rw [hB.cell (p := ⟨b1, o1 + k, none⟩) hb1]; exact H1.out k hlt
          have p1 : wr.cell? ⟨b2, o2 + k, none⟩ = some (.int .i64 (xs.getD k 0)) := by rw [hB.cell (p := ⟨b2, o2 + k, none⟩) hb2]; exact H2.out k hlt
          generalize xs.getD k 0 = x at p0 p1
          go_wp2_with fail
          go_region
          all_goals
            go_wp2_with fail
            go_roundw
            case rel => exact ⟨k + 1, by omega, by go_num, bel_drew hB⟩
            case measure => simp [intOf]; omega
        · go_wp2_with fail
          go_ret
          exact ⟨rfl, hB⟩

theorem eqLock_same (a b : Int) (w : World) :
    Calls Try.prog 68 #[.agg #[.int .i64 a, .int .i64 b], .agg #[.int .i64 a, .int .i64 b]] w fun e w' => e = .returned (.bool true) ∧ Below w.heap.size w w' := by
  go_enter Try.func68, Try.ntmps68
  go_wp2_with fail
  go_ret
  refine ⟨rfl, ?_⟩
  (repeat (first | assumption | exact Below.refl _ _ | (refine Below.alloc ?_ (by first | omega | (simp; done) | (simp; omega)) _) | (refine Below.setCell ?_ (by first | omega | (simp; done) | (simp; omega)) _) | refine bel_drewN ?_ _ | refine bel_drew ?_ | (refine bel_call ?_ (by assumption))))

end Go.Proofs.Ytkfddobdffgmiaa
