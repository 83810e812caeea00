/- Pins among the arguments: opened, their size told, copied, compared, marked and looked at again by the law. For at most 1048576 numbers. -/
import Derived.Test.YtgdjbclkdnmebaaDoorMarkG
import Derived.Deep.RegionWith
import Derived.Test.YtgdjbclkdnmebaaDoorOpenGears
namespace Go.Proofs.YtgdjbclkdnmebaaDoor
open Go.ChangeShapes Go.WideShapes Go.Deep Go.ChangeAt Go.RowKit Go.Joins

theorem below_undrew {B : Nat} {w w' : World} (h : Below B w.drew w') : Below B w w' := ⟨h.os, h.tape, h.output, h.size, h.block⟩

theorem IntsA.of_cells {w : World} {g n : Nat} {xs : List Int} (hn : xs.length = n) (h : Cells w g n (digF xs)) : IntsA w (some ⟨g, 0, none⟩) n xs :=
  ⟨hn, .inr ⟨g, 0, rfl, h.lt, fun k hk => by rw [Nat.zero_add, h.cell hk]; rfl⟩⟩

theorem GridT.knobs {w : World} {g n : Nat} {ks : List (List Int)} {G : Nat → Nat} (hn : ks.length = n) (hm : n + lensAt ks n ≤ 1048576) (h : GridT w g n ks G) : KnobsA w (some ⟨g, 0, none⟩) n ks :=
  ⟨hn, .inr ⟨g, 0, rfl, h.top.lt, fun k hk => ⟨_, _, by rw [Nat.zero_add]; exact h.top.cell hk, by have := lensAt_one (ks := ks) hk; unfold maxLen; omega, IntsA.of_cells rfl (h.row k hk).2⟩⟩⟩

theorem eqIntS_any (A1 A2 : Option Addr) (n c1 c2 : Nat) (xs : List Int) (w : World) (hm : n ≤ 1048576) (h1 : IntsA w A1 n xs) (h2 : IntsA w A2 n xs) :
    Calls Tryd.prog 69 #[.slice A1 n c1, .slice A2 n c2] w fun e w' => e = .returned (.bool true) ∧ Below w.heap.size w w' := by
  rcases h1.at_ with h0 | ⟨b1, o1, rfl, hb1, hc1⟩
  · subst h0
    clear h1 h2 hm
    go_enter Tryd.func69, Tryd.ntmps69
    go_wp2_with fail
    go_loop [5] (fun i => i = .int .i64 0) (fun _ => 0)
    case atStart => rfl
    case round =>
      obtain rfl := hrel
      go_wp2_with fail
      go_ret
      exact ⟨rfl, Below.refl _ _⟩
  · rcases h2.at_ with h0 | ⟨b2, o2, rfl, hb2, hc2⟩
    · subst h0
      clear h1 h2 hm hc1
      go_enter Tryd.func69, Tryd.ntmps69
      go_wp2_with fail
      go_loop [5] (fun i => i = .int .i64 0) (fun _ => 0)
      case atStart => rfl
      case round =>
        obtain rfl := hrel
        go_wp2_with fail
        go_ret
        exact ⟨rfl, Below.refl _ _⟩
    · have H1 := Lib.hid hc1
      have H2 := Lib.hid hc2
      clear hc1 hc2 h1 h2
      go_enter Tryd.func69, Tryd.ntmps69
      go_wp2_with fail
      go_loopw [5] (fun i wr => ∃ k : Nat, k ≤ n ∧ i = .int .i64 k ∧ Below w.heap.size w wr) (fun i _ => n - (intOf i).toNat)
      case atStart => exact ⟨0, by omega, rfl, Below.refl _ _⟩
      case round =>
        obtain ⟨k, hk, rfl, hB⟩ := hrel
        by_cases hlt : k < n
        · have p0 : wr.cell? ⟨b1, o1 + k, none⟩ = some (.int .i64 (xs.getD k 0)) := by rw [hB.cell (p := ⟨b1, o1 + k, none⟩) hb1]; exact H1.out k hlt
          have p1 : wr.cell? ⟨b2, o2 + k, none⟩ = some (.int .i64 (xs.getD k 0)) := by rw [hB.cell (p := ⟨b2, o2 + k, none⟩) hb2]; exact H2.out k hlt
          generalize xs.getD k 0 = x at p0 p1
          go_wp2_with fail
          go_region
          all_goals
            go_wp2_with fail
            go_roundw
            case rel => exact ⟨k + 1, by omega, by go_num, bel_drew hB⟩
            case measure => simp [intOf]; omega
        · go_wp2_with fail
          go_ret
          exact ⟨rfl, hB⟩

theorem eqIntSS_any (A1 A2 : Option Addr) (n c1 c2 : Nat) (ks : List (List Int)) (w : World) (hm : n + lensAt ks n ≤ 1048576) (h1 : KnobsA w A1 n ks) (h2 : KnobsA w A2 n ks) :
    Calls Tryd.prog 33 #[.slice A1 n c1, .slice A2 n c2] w fun e w' => e = .returned (.bool true) ∧ Below w.heap.size w w' := by
  have HL := Lib.hid (show ∀ k, k < n → (ks.getD k []).length ≤ 1048576 from fun k hk => by have := lensAt_one (ks := ks) hk; omega)
  have hm2 : n ≤ 1048576 := by omega
  clear hm
  rcases h1.at_ with h0 | ⟨b1, o1, rfl, hb1, hc1⟩
  · subst h0
    clear h1 h2
    go_enter Tryd.func33, Tryd.ntmps33
    go_wp2_with fail
    go_loop [5] (fun i => i = .int .i64 0) (fun _ => 0)
    case atStart => rfl
    case round =>
      obtain rfl := hrel
      go_wp2_with fail
      go_ret
      exact ⟨rfl, Below.refl _ _⟩
  · rcases h2.at_ with h0 | ⟨b2, o2, rfl, hb2, hc2⟩
    · subst h0
      clear h1 h2 hc1
      go_enter Tryd.func33, Tryd.ntmps33
      go_wp2_with fail
      go_loop [5] (fun i => i = .int .i64 0) (fun _ => 0)
      case atStart => rfl
      case round =>
        obtain rfl := hrel
        go_wp2_with fail
        go_ret
        exact ⟨rfl, Below.refl _ _⟩
    · have H1 := Lib.hid hc1
      have H2 := Lib.hid hc2
      clear hc1 hc2 h1 h2
      go_enter Tryd.func33, Tryd.ntmps33
      go_wp2_with fail
      go_loopw [5] (fun i wr => ∃ k : Nat, k ≤ n ∧ i = .int .i64 k ∧ Below w.heap.size w wr) (fun i _ => n - (intOf i).toNat)
      case atStart => exact ⟨0, by omega, rfl, Below.refl _ _⟩
      case round =>
        obtain ⟨k, hk, rfl, hB⟩ := hrel
        by_cases hlt : k < n
        · obtain ⟨Ak1, ck1, q1, _, I1⟩ := H1.out k hlt
          obtain ⟨Ak2, ck2, q2, _, I2⟩ := H2.out k hlt
          have p0 : wr.cell? ⟨b1, o1 + k, none⟩ = some (.slice Ak1 (ks.getD k []).length ck1) := by rw [hB.cell (p := ⟨b1, o1 + k, none⟩) hb1]; exact q1
          have p1 : wr.cell? ⟨b2, o2 + k, none⟩ = some (.slice Ak2 (ks.getD k []).length ck2) := by rw [hB.cell (p := ⟨b2, o2 + k, none⟩) hb2]; exact q2
          have J1 := Lib.hid (I1.below hB)
          have J2 := Lib.hid (I2.below hB)
          have hl := HL.out k hlt
          obtain ⟨xs, hxs⟩ : ∃ xs, ks.getD k [] = xs := ⟨_, rfl⟩
          rw [hxs] at p0 p1 J1 J2 hl
          obtain ⟨m, hmm⟩ : ∃ m, xs.length = m := ⟨_, rfl⟩
          rw [hmm] at p0 p1 J1 J2 hl
          clear q1 q2 I1 I2 hxs hmm
          go_wp2_with fail
          go_region_with (go_at_call 69; refine (eqIntS_any _ _ _ _ _ xs _ hl (J1.out.below (bel_drew (Below.refl _ _))) (J2.out.below (bel_drew (Below.refl _ _)))).mono ?_; rintro e w3 ⟨rfl, hb3⟩)
          all_goals
            have HW := Lib.hid (below_undrew hb3)
            clear hb3
            go_wp2_with fail
            go_roundw
            case rel => exact ⟨k + 1, by omega, by go_num, bel_call hB HW.out⟩
            case measure => simp [intOf]; omega
        · go_wp2_with fail
          go_ret
          exact ⟨rfl, hB⟩

/-- The two cells of pins. -/
def pF (d : Int) (v : Value) (j : Nat) : Value := (#[.int .i64 d, v] : Array Value).toList.getD j undef

theorem cellsLawPins : Tryd.prog.cellsOf 24 = 2 := by kernel_rfl

set_option maxRecDepth 100000 in
theorem open_pins {H : Type} {enc : TypeId × Value → H} {W : World} {b0 : Nat} {held : Bool} {v : Value} {d : DataW H} {p : List MemPlace}
    (hv : Value.okWide Tryd.prog W .any b0 24 v) (h : DataW.Trod enc Tryd.prog W 0 (fun _ => true) held 24 v d p) :
    ∃ (a : Int) (A : Option Addr) (n c : Nat) (ks : List (List Int)), v = .agg #[.int .i64 a, .slice A n c] ∧ (Lit.int .i64 a).wf = true ∧ KnobsA W A n ks ∧ n ≤ maxLen := by
  obtain ⟨cs, rfl, hsz⟩ := okWide_struct Tryd.underlying24 hv
  obtain ⟨c0, c1, rfl⟩ := array2 (hsz.trans cellsLawPins)
  obtain ⟨fuel, hf⟩ := h
  obtain ⟨xs, m, _, hx, hcl, hxl, hfs⟩ := DataW.trod_struct Tryd.underlying24 hf
  obtain ⟨x0, x1, rfl⟩ : ∃ x0 x1, xs = [x0, x1] := by
    match xs, hxl with
    | [x0, x1], _ => exact ⟨x0, x1, rfl⟩
  have e0 : DataW.trod enc Tryd.prog W 0 (fun _ => true) held m 3 [c0] = some x0 := by simpa [cellsInt, Value.cells] using hfs 0 _ rfl
  have e1 : DataW.trod enc Tryd.prog W 0 (fun _ => true) held m 22 [c1] = some x1 := by simpa [cellsInt, cellsLists, Value.cells] using hfs 1 _ rfl
  obtain ⟨a, ea, _, wa⟩ := DataW.trod_int Tryd.underlying3 e0
  simp at ea
  subst ea
  rcases open_int_rows Tryd.underlying22 Tryd.underlying58 Tryd.underlying3 cellsList cellsInt e1 with ⟨hc, _⟩ | ⟨ad, n, cap, A, L, C, Z, hc, _, hn, hm, _, hr⟩
  · simp at hc
    subst hc
    exact ⟨a, none, 0, 0, [], rfl, wa, ⟨rfl, .inl rfl⟩, by unfold maxLen; omega⟩
  · simp at hc
    subst hc
    exact ⟨a, some ad, n, cap, _, rfl, wa, knobsA_of hn hr, by omega⟩

/-- szIntSS from any size on. -/
theorem szIntSS_from (A : Option Addr) (n c : Nat) (ks : List (List Int)) (z : Int) (w : World) (hn : n ≤ 9223372036854775807) (hz0 : 0 ≤ z) (hz1 : z ≤ 1048576) (hA : KnobsA w A n ks) :
    Calls Tryd.prog 25 #[.slice A n c, .int .i64 z] w fun e w' => (∃ r : Int, e = .returned (.int .i64 r) ∧ r ≤ 1048576 ∧ (0 ≤ r → r = z - (n : Int) - (lensAt ks n : Int))) ∧ w = w' := by
  have HA := Lib.hid hA
  clear hA
  by_cases h : (n : Int) ≤ z
  · go_enter Tryd.func25, Tryd.ntmps25
    go_wp2_with fail
    go_loop [1, 5] (fun r i => ∃ (k : Nat) (x : Int), k ≤ n ∧ i = .int .i64 k ∧ r = .int .i64 x ∧ 0 ≤ x ∧ x = z - (n : Int) - (lensAt ks k : Int)) (fun _ i => n - (intOf i).toNat)
    case atStart => exact ⟨0, _, by omega, rfl, rfl, by omega, by simp [lensAt]⟩
    case round =>
      obtain ⟨k, x, hk, rfl, rfl, hx0, hx⟩ := hrel
      have HX := Lib.hid hx
      have hx1 : x ≤ 1048576 := by omega
      clear hx
      by_cases hlt : k < n
      · obtain ⟨b, off, rfl, hb, hc⟩ := HA.out.at_.resolve_left (by omega)
        obtain ⟨Ak, ck, o1, hm, _⟩ := hc k hlt
        have HL : Hid (lensAt ks (k + 1) = lensAt ks k + (ks.getD k []).length) := Lib.hid rfl
        generalize (ks.getD k []).length = m at o1 hm HL
        unfold maxLen at hm
        clear hc
        by_cases hmx : (m : Int) ≤ x
        · go_wp2_with (go_at_call 56; refine (szIntS_any _ _ _ _ _ (by omega) hx0 hx1).mono ?_; rw [if_pos hmx]; rintro e w1 ⟨rfl, rfl⟩)
          go_round
          case rel => exact ⟨k + 1, _, by omega, by go_num, rfl, by omega, by have h1 := HX.out; have h2 := HL.out; omega⟩
          case measure => simp [intOf]; omega
        · go_wp2_with (go_at_call 56; refine (szIntS_any _ _ _ _ _ (by omega) hx0 hx1).mono ?_; rw [if_neg hmx]; rintro e w1 ⟨rfl, rfl⟩)
          go_ret
          exact ⟨⟨-1, rfl, by omega, fun h => by omega⟩, rfl⟩
      · obtain rfl : k = n := by omega
        go_wp2_with fail
        go_ret
        exact ⟨⟨x, rfl, hx1, fun h => HX.out⟩, rfl⟩
  · go_enter Tryd.func25, Tryd.ntmps25
    go_wp2_with fail
    go_ret
    exact ⟨⟨-1, rfl, by omega, fun h => by omega⟩, rfl⟩

theorem szPins_from (a : Int) (A : Option Addr) (n c : Nat) (ks : List (List Int)) (z : Int) (w : World) (hn : n ≤ 9223372036854775807) (hz0 : 0 ≤ z) (hz1 : z ≤ 1048576) (hA : KnobsA w A n ks) :
    Calls Tryd.prog 7 #[.agg #[.int .i64 a, .slice A n c], .int .i64 z] w fun e w' => (∃ r : Int, e = .returned (.int .i64 r) ∧ r ≤ 1048576 ∧ (0 ≤ r → r = z - (n : Int) - (lensAt ks n : Int))) ∧ Below w.heap.size w w' := by
  have HA := Lib.hid hA
  clear hA
  go_enter Tryd.func7, Tryd.ntmps7
  go_wp2_with (go_at_call 25; refine (szIntSS_from _ _ _ ks _ _ hn hz0 hz1 (HA.out.below ((Below.refl _ _).alloc (Nat.le_refl _) _))).mono ?_; rintro e w1 ⟨⟨r, rfl, hr1, hr2⟩, rfl⟩)
  · go_ret
    refine ⟨⟨-1, rfl, by omega, fun h => by omega⟩, ?_⟩
    (repeat (first | assumption | exact Below.refl _ _ | (refine Below.alloc ?_ (by first | omega | (simp; done) | (simp; omega)) _) | (refine Below.setCell ?_ (by first | omega | (simp; done) | (simp; omega)) _) | refine bel_drewN ?_ _ | refine bel_drew ?_ | (refine bel_call ?_ (by assumption))))
  · go_ret
    refine ⟨⟨r, rfl, hr1, hr2⟩, ?_⟩
    (repeat (first | assumption | exact Below.refl _ _ | (refine Below.alloc ?_ (by first | omega | (simp; done) | (simp; omega)) _) | (refine Below.setCell ?_ (by first | omega | (simp; done) | (simp; omega)) _) | refine bel_drewN ?_ _ | refine bel_drew ?_ | (refine bel_call ?_ (by assumption))))

theorem szPins_any (a : Int) (A : Option Addr) (n c : Nat) (ks : List (List Int)) (w : World) (hn : n ≤ 9223372036854775807) (hA : KnobsA w A n ks) :
    Calls Tryd.prog 7 #[.agg #[.int .i64 a, .slice A n c], .int .i64 1048576] w fun e w' => (∃ r : Int, e = .returned (.int .i64 r) ∧ (0 ≤ r → n + lensAt ks n ≤ 1048576)) ∧ Below w.heap.size w w' :=
  (szPins_from a A n c ks 1048576 w hn (by omega) (by omega) hA).mono fun e w' ⟨⟨r, h1, _, h3⟩, hb⟩ => ⟨⟨r, h1, fun h => by have := h3 h; omega⟩, hb⟩

set_option maxHeartbeats 1000000 in
theorem toPins_any (a : Int) (A : Option Addr) (n c : Nat) (ks : List (List Int)) (w : World) (hn : n + lensAt ks n ≤ 1048576) (hA : KnobsA w A n ks) :
    Calls Tryd.prog 9 #[.agg #[.int .i64 a, .slice A n c]] w fun e w' => ∃ g, e = .returned (.agg #[.int .i64 a, .slice (some ⟨g, 0, none⟩) n n]) ∧ w.heap.size ≤ g ∧ (∃ G, GridT w' g n ks G) ∧ Below w.heap.size w w' := by
  have HA := Lib.hid hA
  clear hA
  go_enter Tryd.func9, Tryd.ntmps9
  go_wp2_with fail
  have CQ : Cells (((w.alloc (.cells #[.int .i64 a, .slice A n c] 24)).alloc (.cells #[.int .i64 0, .slice none 0 0] 28)).alloc (.cells #[.int .i64 a, .slice none 0 0] 28)) (w.heap.size + 1) 2 (pF 0 (.slice none 0 0)) := (Cells.new (n := 2) (by simp) rfl).alloc _
  have CT : Cells (((w.alloc (.cells #[.int .i64 a, .slice A n c] 24)).alloc (.cells #[.int .i64 0, .slice none 0 0] 28)).alloc (.cells #[.int .i64 a, .slice none 0 0] 28)) (w.heap.size + 1 + 1) 2 (pF a (.slice none 0 0)) := Cells.new (n := 2) (by simp) rfl
  have HB1 := Lib.hid (show Below w.heap.size w (((w.alloc (.cells #[.int .i64 a, .slice A n c] 24)).alloc (.cells #[.int .i64 0, .slice none 0 0] 28)).alloc (.cells #[.int .i64 a, .slice none 0 0] 28)) from by (repeat (first | assumption | exact Below.refl _ _ | (refine Below.alloc ?_ (by first | omega | (simp; done) | (simp; omega)) _) | (refine Below.setCell ?_ (by first | omega | (simp; done) | (simp; omega)) _) | refine bel_drewN ?_ _ | refine bel_drew ?_ | (refine bel_call ?_ (by assumption)))))
  refine (toIntSS_any _ _ _ ks _ hn (HA.out.below HB1.out)).mono ?_
  rintro e w2 ⟨rfl, hG2, hb2⟩
  have FQ := Lib.hid (CQ.call hb2)
  have FT := Lib.hid (CT.call hb2)
  have HB2 := Lib.hid (bel_call HB1.out hb2)
  have HG2 := Lib.hid hG2
  have HZT := Lib.hid CT.lt
  have HZ := Lib.hid HB1.out.size
  clear hb2 hG2 CQ CT
  have T0 : w2.cell? ⟨w.heap.size + 1 + 1, 0, none⟩ = some (.int .i64 a) := FT.out.cell (show 0 < 2 by omega)
  have T1 : w2.cell? ⟨w.heap.size + 1 + 1, 1, none⟩ = some (.slice none 0 0) := FT.out.cell (show 1 < 2 by omega)
  have F1 := FT.out.frozen (show 1 < 2 by omega)
  have Q0 : w2.cell? ⟨w.heap.size + 1, 0, none⟩ = some (.int .i64 0) := FQ.out.cell (show 0 < 2 by omega)
  have Q1 : w2.cell? ⟨w.heap.size + 1, 1, none⟩ = some (.slice none 0 0) := FQ.out.cell (show 1 < 2 by omega)
  have G0 := FQ.out.frozen (show 0 < 2 by omega)
  have G1 := FQ.out.frozen (show 1 < 2 by omega)
  generalize (((w.alloc (.cells #[.int .i64 a, .slice A n c] 24)).alloc (.cells #[.int .i64 0, .slice none 0 0] 28)).alloc (.cells #[.int .i64 a, .slice none 0 0] 28)).heap.size = g at *
  go_wp2_with fail
  refine bodyPost_ret (v := .agg #[.int .i64 a, .slice (some ⟨g, 0, none⟩) n n]) (by simp [results, Tryd.results9, go_sem, Q0, Q1]) rfl ⟨g, rfl, HZ.out, ?_, ?_⟩
  · obtain ⟨G, hG⟩ := HG2.out
    have hz := HZT.out
    exact ⟨G, ((hG.under (by show w.heap.size + 1 + 1 < g; omega) _).under (by show w.heap.size + 1 < g; omega) _).under (by show w.heap.size + 1 < g; omega) _⟩
  · have h := HB2.out
    (repeat (first | assumption | exact Below.refl _ _ | (refine Below.alloc ?_ (by first | omega | (simp; done) | (simp; omega)) _) | (refine Below.setCell ?_ (by first | omega | (simp; done) | (simp; omega)) _) | refine bel_drewN ?_ _ | refine bel_drew ?_ | (refine bel_call ?_ (by assumption))))

theorem eqPins_any (a : Int) (A1 A2 : Option Addr) (n c1 c2 : Nat) (ks : List (List Int)) (w : World) (hm : n + lensAt ks n ≤ 1048576) (h1 : KnobsA w A1 n ks) (h2 : KnobsA w A2 n ks) :
    Calls Tryd.prog 11 #[.agg #[.int .i64 a, .slice A1 n c1], .agg #[.int .i64 a, .slice A2 n c2]] w fun e w' => e = .returned (.bool true) ∧ Below w.heap.size w w' := by
  have H1 := Lib.hid h1
  have H2 := Lib.hid h2
  clear h1 h2
  go_enter Tryd.func11, Tryd.ntmps11
  have HB1 := Lib.hid (show Below w.heap.size w ((w.alloc (.cells #[.int .i64 a, .slice A1 n c1] 28)).alloc (.cells #[.int .i64 a, .slice A2 n c2] 28)) from by (repeat (first | assumption | exact Below.refl _ _ | (refine Below.alloc ?_ (by first | omega | (simp; done) | (simp; omega)) _) | (refine Below.setCell ?_ (by first | omega | (simp; done) | (simp; omega)) _) | refine bel_drewN ?_ _ | refine bel_drew ?_ | (refine bel_call ?_ (by assumption)))))
  go_wp2_with fail
  refine (eqIntSS_any _ _ _ _ _ ks _ hm (H1.out.below HB1.out) (H2.out.below HB1.out)).mono ?_
  rintro e w2 ⟨rfl, hb2⟩
  go_wp2_with fail
  go_ret
  exact ⟨rfl, bel_call HB1.out hb2⟩

/-- Lists of lists marked from any number on. -/
theorem markIntSS_from (g n c k0 : Nat) (L Cp G : Nat → Nat) (f : Nat → Nat → Value) (w : World) (hk0 : k0 ≤ 1048577) (hn : n + sumL L n ≤ 1048576) (hD : KnobsD w g n L Cp G f) :
    Calls Tryd.prog 39 #[.slice (some ⟨g, 0, none⟩) n c, .int .i64 (k0 : Int)] w fun e w' => e = .returned (.int .i64 ((k0 + sumL L n : Nat) : Int)) ∧ KnobsD w' g n L Cp G (fun k => upF (k0 + sumL L k)) ∧ w.heap.size ≤ w'.heap.size ∧ (∀ B, (∀ k, k < n → B ≤ G k) → Below B w w') ∧ ∀ g' m f', (∀ k, k < n → g' ≠ G k) → Cells w g' m f' → Cells w' g' m f' := by
  have HD := Lib.hid hD
  have hn2 : n ≤ 1048576 := by omega
  have HS := Lib.hid (show sumL L n ≤ 1048576 by omega)
  clear hD hn
  go_enter Tryd.func39, Tryd.ntmps39
  go_wp2_with fail
  go_loopw [1, 5] (fun m i wr => ∃ k : Nat, k ≤ n ∧ i = .int .i64 k ∧ m = .int .i64 ((k0 + sumL L k : Nat) : Int) ∧ KnobsD wr g n L Cp G (fun j => if j < k then upF (k0 + sumL L j) else f j) ∧ w.heap.size ≤ wr.heap.size ∧ (∀ B, (∀ k, k < n → B ≤ G k) → Below B w wr) ∧ ∀ g' m f', (∀ k, k < n → g' ≠ G k) → Cells w g' m f' → Cells wr g' m f') (fun _ i _ => n - (intOf i).toNat)
  case atStart => exact ⟨0, by omega, rfl, by simp [sumL], ⟨HD.out.top, fun k hk => ⟨(HD.out.row k hk).1, (HD.out.row k hk).2.congr (fun j _ => by simp)⟩, HD.out.apart⟩, Nat.le_refl _, fun B _ => Below.refl _ _, fun _ _ _ _ h => h⟩
  case round =>
    obtain ⟨k, hk, rfl, rfl, hDr, hz, hB, hO⟩ := hrel
    have HR := Lib.hid hDr
    have HB := Lib.hid hB
    have HO := Lib.hid hO
    clear hDr hB hO
    by_cases hlt : k < n
    · have p1 := HR.out.top.cell hlt
      have HRK := Lib.hid (HR.out.row k hlt)
      have HSK : Hid (sumL L (k + 1) = sumL L k + L k ∧ sumL L (k + 1) ≤ 1048576) := Lib.hid ⟨rfl, Nat.le_trans (sumL_le (show k + 1 ≤ n from hlt)) HS.out⟩
      have hbd : k0 + sumL L k + L k ≤ 4000000 := by have := HSK.out; omega
      go_wp2_with (go_at_call 77; refine (markIntS_any _ _ _ (k0 + sumL L k) _ _ hbd HRK.out.2).mono ?_; rintro e w2 ⟨rfl, hC2, hz2, hB2, hO2⟩)
      have HW : Hid (KnobsD w2 g n L Cp G (fun j => if j < k + 1 then upF (k0 + sumL L j) else f j)) := Lib.hid ⟨hO2 _ _ _ HRK.out.1 HR.out.top, fun j hj => ⟨(HR.out.row j hj).1, by
        by_cases e : j = k
        · subst e; rw [if_pos (by omega)]; exact hC2
        · have h := hO2 _ _ _ (HR.out.apart j k hj hlt e) (HR.out.row j hj).2
          by_cases e2 : j < k
          · rw [if_pos e2] at h; rw [if_pos (by omega)]; exact h
          · rw [if_neg e2] at h; rw [if_neg (by omega)]; exact h⟩, HR.out.apart⟩
      have HBW : Hid (∀ B, (∀ k, k < n → B ≤ G k) → Below B w w2) := Lib.hid (fun B h => (HB.out B h).trans (hB2 B (h k hlt)))
      have HOW : Hid (∀ g' m f', (∀ k, k < n → g' ≠ G k) → Cells w g' m f' → Cells w2 g' m f') := Lib.hid (fun g' m f' h hC => hO2 _ _ _ (h k hlt) (HO.out g' m f' h hC))
      have hz3 : w.heap.size ≤ w2.heap.size := Nat.le_trans hz hz2
      clear hC2 hB2 hO2
      go_wp2_with fail
      go_roundw
      case rel => exact ⟨k + 1, by omega, by go_num, congrArg (Value.int .i64) (by have := HSK.out.1; omega), HW.out, hz3, HBW.out, HOW.out⟩
      case measure => simp [intOf]; omega
    · obtain rfl : k = n := by omega
      go_wp2_with fail
      go_ret
      exact ⟨rfl, ⟨HR.out.top, fun j hj => ⟨(HR.out.row j hj).1, by have h := (HR.out.row j hj).2; rw [if_pos hj] at h; exact h⟩, HR.out.apart⟩, hz, HB.out, HO.out⟩

theorem markPins_any (a : Int) (g n c : Nat) (L Cp G : Nat → Nat) (f : Nat → Nat → Value) (w : World) (hn : n + sumL L n ≤ 1048576) (hD : KnobsD w g n L Cp G f) :
    Calls Tryd.prog 14 #[.agg #[.int .i64 a, .slice (some ⟨g, 0, none⟩) n c], .int .i64 1] w fun e w' => e = .returned (.int .i64 ((1 + sumL L n : Nat) : Int)) ∧ KnobsD w' g n L Cp G (fun k => upF (1 + sumL L k)) ∧ w.heap.size ≤ w'.heap.size ∧ (∀ B, B ≤ w.heap.size → (∀ k, k < n → B ≤ G k) → Below B w w') ∧ ∀ g' m f', (∀ k, k < n → g' ≠ G k) → Cells w g' m f' → Cells w' g' m f' := by
  have HD := Lib.hid hD
  have hB0 : Below w.heap.size w (w.alloc (.cells #[.int .i64 a, .slice (some ⟨g, 0, none⟩) n c] 28)) := (Below.refl _ _).alloc (Nat.le_refl _) _
  have HB0 := Lib.hid hB0
  clear hD hB0
  go_enter Tryd.func14, Tryd.ntmps14
  go_wp2_with (go_at_call 39; refine (markIntSS_any _ _ _ L Cp G f _ hn (HD.out.call HB0.out)).mono ?_; rintro e w2 ⟨rfl, hC2, hz2, hB2, hO2⟩)
  go_ret
  exact ⟨rfl, hC2, Nat.le_trans HB0.out.size hz2, fun B hBw h => (HB0.out.mono hBw).trans (hB2 B h), fun g' m f' h hC => hO2 g' m f' h (hC.call HB0.out)⟩

theorem heldPins_any (a : Int) (g n c : Nat) (L Cp G : Nat → Nat) (w : World) (hn : n + sumL L n ≤ 1048576) (hD : KnobsD w g n L Cp G (fun k => upF (1 + sumL L k))) :
    Calls Tryd.prog 15 #[.agg #[.int .i64 a, .slice (some ⟨g, 0, none⟩) n c], .int .i64 1] w fun e w' => e = .returned (.int .i64 ((1 + sumL L n : Nat) : Int)) ∧ Below w.heap.size w w' := by
  have HD := Lib.hid hD
  have HB0 := Lib.hid (show Below w.heap.size w (w.alloc (.cells #[.int .i64 a, .slice (some ⟨g, 0, none⟩) n c] 28)) from (Below.refl _ _).alloc (Nat.le_refl _) _)
  clear hD
  go_enter Tryd.func15, Tryd.ntmps15
  go_wp2_with (go_at_call 40; refine (heldIntSS_any _ _ _ L Cp G _ hn (HD.out.call HB0.out)).mono ?_; rintro e w2 ⟨rfl, rfl⟩)
  all_goals (try (exfalso; omega))
  go_ret
  exact ⟨rfl, HB0.out⟩

end Go.Proofs.YtgdjbclkdnmebaaDoor
