/- Gears compared by the law. For gears that hold the same. -/
import Derived.Test.YtealpmjkmioocaaDoorGears2
import Derived.Test.YtealpmjkmioocaaDoorPair
import Derived.Deep.RegionWith
namespace Go.Proofs.YtealpmjkmioocaaDoor
open Go.ChangeShapes Go.WideShapes Go.ChangeAt Go.RowKit Go.Joins

theorem IntsA.of_cells {w : World} {g n : Nat} {xs : List Int} (hn : xs.length = n) (h : Cells w g n (digF xs)) : IntsA w (some ⟨g, 0, none⟩) n xs :=
  ⟨hn, .inr ⟨g, 0, rfl, h.lt, fun k hk => by rw [Nat.zero_add, h.cell hk]; rfl⟩⟩

theorem GridT.knobs {w : World} {g n : Nat} {ks : List (List Int)} {G : Nat → Nat} (hn : ks.length = n) (hm : n + lensAt ks n ≤ 1048576) (h : GridT w g n ks G) : KnobsA w (some ⟨g, 0, none⟩) n ks :=
  ⟨hn, .inr ⟨g, 0, rfl, h.top.lt, fun k hk => ⟨_, _, by rw [Nat.zero_add]; exact h.top.cell hk, by have := lensAt_one (ks := ks) hk; unfold maxLen; omega, IntsA.of_cells rfl (h.row k hk).2⟩⟩⟩

theorem eqIntS_any (A1 A2 : Option Addr) (n c1 c2 : Nat) (xs : List Int) (w : World) (hm : n ≤ 1048576) (h1 : IntsA w A1 n xs) (h2 : IntsA w A2 n xs) :
    Calls Tryd.prog 30 #[.slice A1 n c1, .slice A2 n c2] w fun e w' => e = .returned (.bool true) ∧ Below w.heap.size w w' := by
  rcases h1.at_ with h0 | ⟨b1, o1, rfl, hb1, hc1⟩
  · subst h0
    clear h1 h2 hm
    go_enter Tryd.func30, Tryd.ntmps30
    go_wp2_with fail
    go_loop [5] (fun i => i = .int .i64 0) (fun _ => 0)
    case atStart => rfl
    case round =>
      obtain rfl := hrel
      go_wp2_with fail
      go_ret
      exact ⟨rfl, Below.refl _ _⟩
  · rcases h2.at_ with h0 | ⟨b2, o2, rfl, hb2, hc2⟩
    · subst h0
      clear h1 h2 hm hc1
      go_enter Tryd.func30, Tryd.ntmps30
      go_wp2_with fail
      go_loop [5] (fun i => i = .int .i64 0) (fun _ => 0)
      case atStart => rfl
      case round =>
        obtain rfl := hrel
        go_wp2_with fail
        go_ret
        exact ⟨rfl, Below.refl _ _⟩
    · have H1 := Lib.hid hc1
      have H2 := Lib.hid hc2
      clear hc1 hc2 h1 h2
      go_enter Tryd.func30, Tryd.ntmps30
      go_wp2_with fail
      go_loopw [5] (fun i wr => ∃ k : Nat, k ≤ n ∧ i = .int .i64 k ∧ Below w.heap.size w wr) (fun i _ => n - (intOf i).toNat)
      case atStart => exact ⟨0, by omega, rfl, Below.refl _ _⟩
      case round =>
        obtain ⟨k, hk, rfl, hB⟩ := hrel
        by_cases hlt : k < n
        · have p0 : wr.cell? ⟨b1, o1 + k, none⟩ = some (.int .i64 (xs.getD k 0)) := by rw [hB.cell (p := ⟨b1, o1 + k, none⟩) hb1]; exact H1.out k hlt
          have p1 : wr.cell? ⟨b2, o2 + k, none⟩ = some (.int .i64 (xs.getD k 0)) := by rw [hB.cell (p := ⟨b2, o2 + k, none⟩) hb2]; exact H2.out k hlt
          generalize xs.getD k 0 = x at p0 p1
          go_wp2_with fail
          go_region
          all_goals
            go_wp2_with fail
            go_roundw
            case rel => exact ⟨k + 1, by omega, by go_num, bel_drew hB⟩
            case measure => simp [intOf]; omega
        · go_wp2_with fail
          go_ret
          exact ⟨rfl, hB⟩

theorem eqIntSS_any (A1 A2 : Option Addr) (n c1 c2 : Nat) (ks : List (List Int)) (w : World) (hm : n + lensAt ks n ≤ 1048576) (h1 : KnobsA w A1 n ks) (h2 : KnobsA w A2 n ks) :
    Calls Tryd.prog 15 #[.slice A1 n c1, .slice A2 n c2] w fun e w' => e = .returned (.bool true) ∧ Below w.heap.size w w' := by
  have HL := Lib.hid (show ∀ k, k < n → (ks.getD k []).length ≤ 1048576 from fun k hk => by have := lensAt_one (ks := ks) hk; omega)
  have hm2 : n ≤ 1048576 := by omega
  clear hm
  rcases h1.at_ with h0 | ⟨b1, o1, rfl, hb1, hc1⟩
  · subst h0
    clear h1 h2
    go_enter Tryd.func15, Tryd.ntmps15
    go_wp2_with fail
    go_loop [5] (fun i => i = .int .i64 0) (fun _ => 0)
    case atStart => rfl
    case round =>
      obtain rfl := hrel
      go_wp2_with fail
      go_ret
      exact ⟨rfl, Below.refl _ _⟩
  · rcases h2.at_ with h0 | ⟨b2, o2, rfl, hb2, hc2⟩
    · subst h0
      clear h1 h2 hc1
      go_enter Tryd.func15, Tryd.ntmps15
      go_wp2_with fail
      go_loop [5] (fun i => i = .int .i64 0) (fun _ => 0)
      case atStart => rfl
      case round =>
        obtain rfl := hrel
        go_wp2_with fail
        go_ret
        exact ⟨rfl, Below.refl _ _⟩
    · have H1 := Lib.hid hc1
      have H2 := Lib.hid hc2
      clear hc1 hc2 h1 h2
      go_enter Tryd.func15, Tryd.ntmps15
      go_wp2_with fail
      go_loopw [5] (fun i wr => ∃ k : Nat, k ≤ n ∧ i = .int .i64 k ∧ Below w.heap.size w wr) (fun i _ => n - (intOf i).toNat)
      case atStart => exact ⟨0, by omega, rfl, Below.refl _ _⟩
      case round =>
        obtain ⟨k, hk, rfl, hB⟩ := hrel
        by_cases hlt : k < n
        · obtain ⟨Ak1, ck1, q1, _, I1⟩ := H1.out k hlt
          obtain ⟨Ak2, ck2, q2, _, I2⟩ := H2.out k hlt
          have p0 : wr.cell? ⟨b1, o1 + k, none⟩ = some (.slice Ak1 (ks.getD k []).length ck1) := by rw [hB.cell (p := ⟨b1, o1 + k, none⟩) hb1]; exact q1
          have p1 : wr.cell? ⟨b2, o2 + k, none⟩ = some (.slice Ak2 (ks.getD k []).length ck2) := by rw [hB.cell (p := ⟨b2, o2 + k, none⟩) hb2]; exact q2
          have J1 := Lib.hid (I1.below hB)
          have J2 := Lib.hid (I2.below hB)
          have hl := HL.out k hlt
          obtain ⟨xs, hxs⟩ : ∃ xs, ks.getD k [] = xs := ⟨_, rfl⟩
          rw [hxs] at p0 p1 J1 J2 hl
          obtain ⟨m, hmm⟩ : ∃ m, xs.length = m := ⟨_, rfl⟩
          rw [hmm] at p0 p1 J1 J2 hl
          clear q1 q2 I1 I2 hxs hmm
          go_wp2_with fail
          go_region_with (go_at_call 30; refine (eqIntS_any _ _ _ _ _ xs _ hl (J1.out.below (bel_drew (Below.refl _ _))) (J2.out.below (bel_drew (Below.refl _ _)))).mono ?_; rintro e w3 ⟨rfl, hb3⟩)
          all_goals
            have HW := Lib.hid (below_undrew hb3)
            clear hb3
            go_wp2_with fail
            go_roundw
            case rel => exact ⟨k + 1, by omega, by go_num, bel_call hB HW.out⟩
            case measure => simp [intOf]; omega
        · go_wp2_with fail
          go_ret
          exact ⟨rfl, hB⟩

theorem eqLock_same (a b : Int) (w : World) :
    Calls Tryd.prog 14 #[.agg #[.int .i64 a, .int .i64 b], .agg #[.int .i64 a, .int .i64 b]] w fun e w' => e = .returned (.bool true) ∧ Below w.heap.size w w' := by
  go_enter Tryd.func14, Tryd.ntmps14
  go_wp2_with fail
  go_ret
  refine ⟨rfl, ?_⟩
  (repeat (first | assumption | exact Below.refl _ _ | (refine Below.alloc ?_ (by first | omega | (simp; done) | (simp; omega)) _) | (refine Below.setCell ?_ (by first | omega | (simp; done) | (simp; omega)) _) | refine bel_drewN ?_ _ | refine bel_drew ?_ | (refine bel_call ?_ (by assumption))))

theorem eqGears_any (a b : Int) (A1 A2 : Option Addr) (n c1 c2 : Nat) (ks : List (List Int)) (w : World) (hm : n + lensAt ks n ≤ 1048576) (h1 : KnobsA w A1 n ks) (h2 : KnobsA w A2 n ks) :
    Calls Tryd.prog 6 #[.agg #[.int .i64 a, .int .i64 b, .slice A1 n c1], .agg #[.int .i64 a, .int .i64 b, .slice A2 n c2]] w fun e w' => e = .returned (.bool true) ∧ Below w.heap.size w w' := by
  have H1 := Lib.hid h1
  have H2 := Lib.hid h2
  clear h1 h2
  go_enter Tryd.func6, Tryd.ntmps6
  go_wp2_with fail
  have CU := Lib.hid ((Cells.new (W := w) (cs := #[.int .i64 a, .int .i64 b, .slice A1 n c1]) (t := 26) (g := w.heap.size) (n := 3) rfl rfl).alloc (.cells #[.int .i64 a, .int .i64 b, .slice A2 n c2] 26))
  have CQ := Lib.hid (Cells.new (W := w.alloc (.cells #[.int .i64 a, .int .i64 b, .slice A1 n c1] 26)) (cs := #[.int .i64 a, .int .i64 b, .slice A2 n c2]) (t := 26) (g := w.heap.size + 1) (n := 3) (by simp) rfl)
  have hB0 : Below w.heap.size w ((w.alloc (.cells #[.int .i64 a, .int .i64 b, .slice A1 n c1] 26)).alloc (.cells #[.int .i64 a, .int .i64 b, .slice A2 n c2] 26)) := by (repeat (first | assumption | exact Below.refl _ _ | (refine Below.alloc ?_ (by first | omega | (simp; done) | (simp; omega)) _) | (refine Below.setCell ?_ (by first | omega | (simp; done) | (simp; omega)) _) | refine bel_drewN ?_ _ | refine bel_drew ?_ | (refine bel_call ?_ (by assumption))))
  refine (eqLock_same _ _ _).mono ?_
  rintro e w1 ⟨rfl, hb1⟩
  have DU := Lib.hid (CU.out.call hb1)
  have DQ := Lib.hid (CQ.out.call hb1)
  have HB1 := Lib.hid (bel_call hB0 hb1)
  have s2 : w1.cell? ⟨w.heap.size, 2, none⟩ = some (.slice A1 n c1) := DU.out.cell (show 2 < 3 by omega)
  have s3 : w1.cell? ⟨w.heap.size + 1, 2, none⟩ = some (.slice A2 n c2) := DQ.out.cell (show 2 < 3 by omega)
  clear hb1
  go_wp2_with fail
  refine (eqIntSS_any _ _ _ _ _ ks _ hm (H1.out.below HB1.out) (H2.out.below HB1.out)).mono ?_
  rintro e w2 ⟨rfl, hb2⟩
  go_wp2_with fail
  go_ret
  exact ⟨rfl, bel_call HB1.out hb2⟩

end Go.Proofs.YtealpmjkmioocaaDoor
