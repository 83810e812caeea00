/- Pins handed back, each list in a block of its own between two places: how they are kept, read, marked and looked at again. For at most 1048576 numbers. -/
import Derived.Test.YtgdjbclkdnmebaaDoorVg
namespace Go.Proofs.YtgdjbclkdnmebaaDoor
open Go.ChangeShapes Go.WideShapes Go.ChangeAt Go.RowKit Go.Joins

def lenL (ks : List (List Int)) (k : Nat) : Nat := (ks.getD k []).length

theorem sumL_lens (ks : List (List Int)) (n : Nat) : sumL (lenL ks) n = lensAt ks n := by
  induction n with
  | zero => rfl
  | succ n ih => rw [sumL, lensAt, ih]; rfl

/-- The lists ks lie at v, in blocks of their own from lo on, below hi. -/
def KD (w : World) (lo hi : Nat) (A : Option Addr) (ks : List (List Int)) (f : Nat → Nat → Value) : Prop :=
  ks.length = 0 ∨ ∃ g G Cp, A = some ⟨g, 0, none⟩ ∧ lo ≤ g ∧ g < hi ∧ (∀ k, k < ks.length → lo ≤ G k ∧ G k < hi) ∧ KnobsD w g ks.length (lenL ks) Cp G f

def digK (ks : List (List Int)) (k : Nat) : Nat → Value := digF (ks.getD k [])

def markK (ks : List (List Int)) (k : Nat) : Nat → Value := upF (1 + sumL (lenL ks) k)

theorem KD.call {w w' : World} {lo hi : Nat} {A : Option Addr} {ks : List (List Int)} {f : Nat → Nat → Value} (h : KD w lo hi A ks f) (hb : Below w.heap.size w w') : KD w' lo hi A ks f :=
  h.imp id fun ⟨g, G, Cp, e, h1, h2, h3, h4⟩ => ⟨g, G, Cp, e, h1, h2, h3, h4.call hb⟩

theorem KD.keep {w w' : World} {lo hi lo2 hi2 : Nat} {A : Option Addr} {ks : List (List Int)} {f : Nat → Nat → Value} (h : KD w lo hi A ks f) (hd : hi ≤ lo2 ∨ hi2 ≤ lo) (hk : ∀ g' m f', ¬ (lo2 ≤ g' ∧ g' < hi2) → Cells w g' m f' → Cells w' g' m f') : KD w' lo hi A ks f :=
  h.imp id fun ⟨g, G, Cp, e, h1, h2, h3, h4⟩ => ⟨g, G, Cp, e, h1, h2, h3, hk _ _ _ (by omega) h4.top, fun k hk' => ⟨(h4.row k hk').1, hk _ _ _ (by have := h3 k hk'; omega) (h4.row k hk').2⟩, h4.apart⟩

theorem KD.knobsA {w : World} {lo hi : Nat} {A : Option Addr} {ks : List (List Int)} (hm : ks.length + lensAt ks ks.length ≤ 1048576) (h : KD w lo hi A ks (digK ks)) : KnobsA w A ks.length ks :=
  ⟨rfl, h.imp id fun ⟨g, G, Cp, e, h1, h2, h3, h4⟩ => ⟨g, 0, e, h4.top.lt, fun k hk => ⟨_, _, by rw [Nat.zero_add]; exact h4.top.cell hk, by have := lensAt_one (ks := ks) hk; unfold maxLen; omega, IntsA.of_cells rfl (h4.row k hk).2⟩⟩⟩

theorem markIntSS_zero (A : Option Addr) (c : Nat) (w : World) :
    Calls Tryd.prog 39 #[.slice A 0 c, .int .i64 1] w fun e w' => e = .returned (.int .i64 1) ∧ w = w' := by
  go_enter Tryd.func39, Tryd.ntmps39
  go_wp2_with fail
  go_loop [1, 5] (fun m i => m = .int .i64 1 ∧ i = .int .i64 0) (fun _ _ => 0)
  case atStart => exact ⟨rfl, rfl⟩
  case round =>
    obtain ⟨rfl, rfl⟩ := hrel
    go_wp2_with fail
    go_ret
    exact ⟨rfl, rfl⟩

theorem heldIntSS_zero (A : Option Addr) (c : Nat) (w : World) :
    Calls Tryd.prog 40 #[.slice A 0 c, .int .i64 1] w fun e w' => e = .returned (.int .i64 1) ∧ w = w' := by
  go_enter Tryd.func40, Tryd.ntmps40
  go_wp2_with fail
  go_loop [1, 5] (fun m i => m = .int .i64 1 ∧ i = .int .i64 0) (fun _ _ => 0)
  case atStart => exact ⟨rfl, rfl⟩
  case round =>
    obtain ⟨rfl, rfl⟩ := hrel
    go_wp2_with fail
    go_ret
    exact ⟨rfl, rfl⟩

/-- What marking gears leaves. -/
theorem markKD_any (a : Int) (A : Option Addr) (c lo hi : Nat) (ks : List (List Int)) (f : Nat → Nat → Value) (w : World) (hm : ks.length + lensAt ks ks.length ≤ 1048576) (hD : KD w lo hi A ks f) :
    Calls Tryd.prog 14 #[.agg #[.int .i64 a, .slice A ks.length c], .int .i64 1] w fun e w' => e = .returned (.int .i64 ((1 + lensAt ks ks.length : Nat) : Int)) ∧ KD w' lo hi A ks (markK ks) ∧ (∀ B, B ≤ w.heap.size → B ≤ lo → Below B w w') ∧ ∀ g' m f', ¬ (lo ≤ g' ∧ g' < hi) → Cells w g' m f' → Cells w' g' m f' := by
  rcases hD with h0 | ⟨g, G, Cp, rfl, h1, h2, h3, h4⟩
  · rw [h0]
    have HB0 := Lib.hid (show Below w.heap.size w (w.alloc (.cells #[.int .i64 a, .slice A 0 c] 28)) from (Below.refl _ _).alloc (Nat.le_refl _) _)
    have H0 := Lib.hid h0
    clear h0 hm
    go_enter Tryd.func14, Tryd.ntmps14
    go_wp2_with (go_at_call 39; refine (markIntSS_zero _ _ _).mono ?_; rintro e w2 ⟨rfl, rfl⟩)
    go_ret
    exact ⟨rfl, .inl H0.out, fun B hB _ => HB0.out.mono hB, fun g' m f' _ hC => hC.call HB0.out⟩
  · refine (markPins_any a g ks.length c (lenL ks) Cp G f w (by rw [sumL_lens]; exact hm) h4).mono ?_
    rintro e w' ⟨rfl, m1, m2, m3, m4⟩
    rw [sumL_lens]
    exact ⟨rfl, .inr ⟨g, G, Cp, rfl, h1, h2, h3, m1⟩, fun B hB hlo => m3 B hB (fun k hk => by have := h3 k hk; omega), fun g' m f' hn hC => m4 g' m f' (fun k hk e => hn (by have := h3 k hk; omega)) hC⟩

theorem heldKD_any (a : Int) (A : Option Addr) (c lo hi : Nat) (ks : List (List Int)) (w : World) (hm : ks.length + lensAt ks ks.length ≤ 1048576) (hD : KD w lo hi A ks (markK ks)) :
    Calls Tryd.prog 15 #[.agg #[.int .i64 a, .slice A ks.length c], .int .i64 1] w fun e w' => e = .returned (.int .i64 ((1 + lensAt ks ks.length : Nat) : Int)) ∧ Below w.heap.size w w' := by
  rcases hD with h0 | ⟨g, G, Cp, rfl, h1, h2, h3, h4⟩
  · rw [h0]
    have HB0 := Lib.hid (show Below w.heap.size w (w.alloc (.cells #[.int .i64 a, .slice A 0 c] 28)) from (Below.refl _ _).alloc (Nat.le_refl _) _)
    clear h0 hm
    go_enter Tryd.func15, Tryd.ntmps15
    go_wp2_with (go_at_call 40; refine (heldIntSS_zero _ _ _).mono ?_; rintro e w2 ⟨rfl, rfl⟩)
    go_ret
    exact ⟨rfl, HB0.out⟩
  · refine (heldPins_any a g ks.length c (lenL ks) Cp G w (by rw [sumL_lens]; exact hm) h4).mono ?_
    rintro e w' ⟨rfl, hb⟩
    rw [sumL_lens]
    exact ⟨rfl, hb⟩

theorem KD.wide {w : World} {lo hi lo' hi' : Nat} {A : Option Addr} {ks : List (List Int)} {f : Nat → Nat → Value} (h1 : lo' ≤ lo) (h2 : hi ≤ hi') (h : KD w lo hi A ks f) : KD w lo' hi' A ks f :=
  h.imp id fun ⟨g, G, Cp, e, a1, a2, a3, a4⟩ => ⟨g, G, Cp, e, by omega, by omega, fun k hk => by have := a3 k hk; omega, a4⟩

theorem eqKD_any (a : Int) (A1 A2 : Option Addr) (c1 c2 lo1 hi1 lo2 hi2 : Nat) (ks : List (List Int)) (w : World) (hm : ks.length + lensAt ks ks.length ≤ 1048576) (h1 : KD w lo1 hi1 A1 ks (digK ks)) (h2 : KD w lo2 hi2 A2 ks (digK ks)) :
    Calls Tryd.prog 11 #[.agg #[.int .i64 a, .slice A1 ks.length c1], .agg #[.int .i64 a, .slice A2 ks.length c2]] w fun e w' => e = .returned (.bool true) ∧ Below w.heap.size w w' :=
  eqPins_any a A1 A2 ks.length c1 c2 ks w hm (h1.knobsA hm) (h2.knobsA hm)

/-- A row whose lists are not empty. -/
theorem RowP.kd {w : World} {B : Nat} {v : Value} {ks : List (List Int)} (h : RowP w B v ks) (hne : ∀ i, i < ks.length → (ks.getD i []).length ≠ 0) : ∃ A c, v = .slice A ks.length c ∧ KD w B w.heap.size A ks (digK ks) := by
  obtain ⟨G, vs, h1, h2, h3, h4⟩ := h.own
  rcases Nat.eq_zero_or_pos ks.length with h0 | h0
  · obtain ⟨A, c, e⟩ := h.slice
    exact ⟨A, c, e, .inl h0⟩
  · obtain ⟨g, c, e, hb, hg⟩ := h2.form h0
    subst e
    have key : ∀ i, ∃ c, i < ks.length → vs[i]? = some (.slice (some ⟨G i, 0, none⟩) (ks.getD i []).length c) ∧ B ≤ G i ∧ g ≠ G i ∧ Cells w (G i) (ks.getD i []).length (digF (ks.getD i [])) := fun i => by
      by_cases hi : i < ks.length
      · obtain ⟨A, c, e1, hc⟩ := h3 i hi
        obtain ⟨e2, e3, e4, e5⟩ := hc.resolve_left (hne i hi)
        subst e2
        exact ⟨c, fun _ => ⟨e1, e3, fun e => e4 (by rw [← e]; rfl), e5⟩⟩
      · exact ⟨0, fun h => absurd h hi⟩
    obtain ⟨Cp, hCp⟩ := Classical.skolem.1 key
    refine ⟨_, c, rfl, .inr ⟨g, G, Cp, rfl, hb, hg, fun k hk => ⟨(hCp k hk).2.1, (hCp k hk).2.2.2.lt⟩, ⟨⟨hg, fun j hj => ⟨?_, h2.frozenAt j⟩⟩, fun k hk => ⟨(hCp k hk).2.2.1, (hCp k hk).2.2.2⟩, fun i k hi hk hik => h4 i k hi hk hik (hne i hi) (hne k hk)⟩⟩⟩
    rw [h2.cellAt j (by omega)]
    exact (hCp j hj).1

/-- Pins handed back with yes or no, in blocks of their own. -/
def KPOut (w : World) (d : Int) (ks : List (List Int)) (ok : Bool) (e : Ending) (w' : World) : Prop :=
  ∃ A c, e = .returned (.tuple #[.agg #[.int .i64 d, .slice A ks.length c], .bool ok]) ∧ KD w' w.heap.size w'.heap.size A ks (digK ks) ∧ Below w.heap.size w w'

theorem PinsOut.kd {w w' : World} {d : Int} {ks : List (List Int)} {ok : Bool} {e : Ending} (h : PinsOut w d ks ok e w') (hne : ∀ i, i < ks.length → (ks.getD i []).length ≠ 0) : KPOut w d ks ok e w' := by
  obtain ⟨v, he, hR, hb⟩ := h
  obtain ⟨A, c, hv, hK⟩ := hR.kd hne
  subst hv
  exact ⟨A, c, he, hK, hb⟩

end Go.Proofs.YtgdjbclkdnmebaaDoor
