/- Lists of lists of numbers handed back, each in a block of its own between two places: how they are kept, read, marked and looked at again. For at most 1048576 numbers. -/
import Derived.Test.YtealpmjkmioocaaDoorDropKnob
namespace Go.Proofs.YtealpmjkmioocaaDoor
open Go.ChangeShapes Go.WideShapes Go.ChangeAt Go.RowKit Go.Joins

def lenL (ks : List (List Int)) (k : Nat) : Nat := (ks.getD k []).length

theorem sumL_lens (ks : List (List Int)) (n : Nat) : sumL (lenL ks) n = lensAt ks n := by
  induction n with
  | zero => rfl
  | succ n ih => rw [sumL, lensAt, ih]; rfl

/-- The lists ks lie at v, in blocks of their own from lo on, below hi. -/
def KD (w : World) (lo hi : Nat) (A : Option Addr) (ks : List (List Int)) (f : Nat → Nat → Value) : Prop :=
  ks.length = 0 ∨ ∃ g G Cp, A = some ⟨g, 0, none⟩ ∧ lo ≤ g ∧ g < hi ∧ (∀ k, k < ks.length → lo ≤ G k ∧ G k < hi) ∧ KnobsD w g ks.length (lenL ks) Cp G f

def digK (ks : List (List Int)) (k : Nat) : Nat → Value := digF (ks.getD k [])

def markK (ks : List (List Int)) (k : Nat) : Nat → Value := upF (1 + sumL (lenL ks) k)

theorem KD.call {w w' : World} {lo hi : Nat} {A : Option Addr} {ks : List (List Int)} {f : Nat → Nat → Value} (h : KD w lo hi A ks f) (hb : Below w.heap.size w w') : KD w' lo hi A ks f :=
  h.imp id fun ⟨g, G, Cp, e, h1, h2, h3, h4⟩ => ⟨g, G, Cp, e, h1, h2, h3, h4.call hb⟩

theorem KD.keep {w w' : World} {lo hi lo2 hi2 : Nat} {A : Option Addr} {ks : List (List Int)} {f : Nat → Nat → Value} (h : KD w lo hi A ks f) (hd : hi ≤ lo2 ∨ hi2 ≤ lo) (hk : ∀ g' m f', ¬ (lo2 ≤ g' ∧ g' < hi2) → Cells w g' m f' → Cells w' g' m f') : KD w' lo hi A ks f :=
  h.imp id fun ⟨g, G, Cp, e, h1, h2, h3, h4⟩ => ⟨g, G, Cp, e, h1, h2, h3, hk _ _ _ (by omega) h4.top, fun k hk' => ⟨(h4.row k hk').1, hk _ _ _ (by have := h3 k hk'; omega) (h4.row k hk').2⟩, h4.apart⟩

theorem KD.knobsA {w : World} {lo hi : Nat} {A : Option Addr} {ks : List (List Int)} (hm : ks.length + lensAt ks ks.length ≤ 1048576) (h : KD w lo hi A ks (digK ks)) : KnobsA w A ks.length ks :=
  ⟨rfl, h.imp id fun ⟨g, G, Cp, e, h1, h2, h3, h4⟩ => ⟨g, 0, e, h4.top.lt, fun k hk => ⟨_, _, by rw [Nat.zero_add]; exact h4.top.cell hk, by have := lensAt_one (ks := ks) hk; unfold maxLen; omega, IntsA.of_cells rfl (h4.row k hk).2⟩⟩⟩

theorem RowG.kd {w : World} {B : Nat} {v : Value} {ks : List (List Int)} {G Cp : Nat → Nat} (h : RowG w B v ks G Cp) : ∃ A c, v = .slice A ks.length c ∧ KD w B w.heap.size A ks (digK ks) := by
  rcases h.own.2 with ⟨e, h0⟩ | ⟨g, cap, cur, e, hb, hg, h1, h2, h3, h4⟩
  · exact ⟨none, 0, by rw [e, h0], .inl h0⟩
  · subst e
    refine ⟨_, cap, rfl, .inr ⟨g, G, Cp, rfl, hb, (Array.getElem?_eq_some_iff.1 hg).1, fun k hk => ⟨(h.row k hk).1, (h.row k hk).2.2.lt⟩, ⟨(Array.getElem?_eq_some_iff.1 hg).1, fun j hj => ⟨?_, h.own.frozenAt j⟩⟩, fun k hk => ⟨fun e => (h.row k hk).2.1 (by simp [Value.ownBlock, e]), (h.row k hk).2.2⟩, fun i k hi hk hik => h.apart i k hi hk hik⟩⟩
    rw [h.own.cellAt j (by omega)]
    simp [rowV, lenL, hj]

theorem GridT.kd {w : World} {g n lo : Nat} {ks : List (List Int)} {G : Nat → Nat} (hn : ks.length = n) (hg : lo ≤ g) (h : GridT w g n ks G) : KD w lo w.heap.size (some ⟨g, 0, none⟩) ks (digK ks) := by
  subst hn
  exact .inr ⟨g, G, lenL ks, rfl, hg, h.top.lt, fun k hk => ⟨by have := (h.row k hk).1; omega, (h.row k hk).2.lt⟩, h.top, fun k hk => ⟨by have := (h.row k hk).1; omega, (h.row k hk).2⟩, fun i k hi hk hik => by
    rcases Nat.lt_or_ge i k with h1 | h1
    · have := h.up i k h1 hk; omega
    · have := h.up k i (by omega) hi; omega⟩

theorem markIntSS_zero (A : Option Addr) (c : Nat) (w : World) :
    Calls Tryd.prog 16 #[.slice A 0 c, .int .i64 1] w fun e w' => e = .returned (.int .i64 1) ∧ w = w' := by
  go_enter Tryd.func16, Tryd.ntmps16
  go_wp2_with fail
  go_loop [1, 5] (fun m i => m = .int .i64 1 ∧ i = .int .i64 0) (fun _ _ => 0)
  case atStart => exact ⟨rfl, rfl⟩
  case round =>
    obtain ⟨rfl, rfl⟩ := hrel
    go_wp2_with fail
    go_ret
    exact ⟨rfl, rfl⟩

theorem heldIntSS_zero (A : Option Addr) (c : Nat) (w : World) :
    Calls Tryd.prog 17 #[.slice A 0 c, .int .i64 1] w fun e w' => e = .returned (.int .i64 1) ∧ w = w' := by
  go_enter Tryd.func17, Tryd.ntmps17
  go_wp2_with fail
  go_loop [1, 5] (fun m i => m = .int .i64 1 ∧ i = .int .i64 0) (fun _ _ => 0)
  case atStart => exact ⟨rfl, rfl⟩
  case round =>
    obtain ⟨rfl, rfl⟩ := hrel
    go_wp2_with fail
    go_ret
    exact ⟨rfl, rfl⟩

/-- What marking gears leaves. -/
theorem markKD_any (a b : Int) (A : Option Addr) (c lo hi : Nat) (ks : List (List Int)) (f : Nat → Nat → Value) (w : World) (hm : ks.length + lensAt ks ks.length ≤ 1048576) (hD : KD w lo hi A ks f) :
    Calls Tryd.prog 7 #[.agg #[.int .i64 a, .int .i64 b, .slice A ks.length c], .int .i64 1] w fun e w' => e = .returned (.int .i64 ((1 + lensAt ks ks.length : Nat) : Int)) ∧ KD w' lo hi A ks (markK ks) ∧ (∀ B, B ≤ w.heap.size → B ≤ lo → Below B w w') ∧ ∀ g' m f', ¬ (lo ≤ g' ∧ g' < hi) → Cells w g' m f' → Cells w' g' m f' := by
  rcases hD with h0 | ⟨g, G, Cp, rfl, h1, h2, h3, h4⟩
  · rw [h0]
    have HB0 := Lib.hid (show Below w.heap.size w (w.alloc (.cells #[.int .i64 a, .int .i64 b, .slice A 0 c] 26)) from (Below.refl _ _).alloc (Nat.le_refl _) _)
    have H0 := Lib.hid h0
    clear h0 hm
    go_enter Tryd.func7, Tryd.ntmps7
    go_wp2_with (go_at_call 16; refine (markIntSS_zero _ _ _).mono ?_; rintro e w2 ⟨rfl, rfl⟩)
    go_ret
    exact ⟨rfl, .inl H0.out, fun B hB _ => HB0.out.mono hB, fun g' m f' _ hC => hC.call HB0.out⟩
  · refine (markGears_any a b g ks.length c (lenL ks) Cp G f w (by rw [sumL_lens]; exact hm) h4).mono ?_
    rintro e w' ⟨rfl, m1, m2, m3, m4⟩
    rw [sumL_lens]
    exact ⟨rfl, .inr ⟨g, G, Cp, rfl, h1, h2, h3, m1⟩, fun B hB hlo => m3 B hB (fun k hk => by have := h3 k hk; omega), fun g' m f' hn hC => m4 g' m f' (fun k hk e => hn (by have := h3 k hk; omega)) hC⟩

theorem heldKD_any (a b : Int) (A : Option Addr) (c lo hi : Nat) (ks : List (List Int)) (w : World) (hm : ks.length + lensAt ks ks.length ≤ 1048576) (hD : KD w lo hi A ks (markK ks)) :
    Calls Tryd.prog 8 #[.agg #[.int .i64 a, .int .i64 b, .slice A ks.length c], .int .i64 1] w fun e w' => e = .returned (.int .i64 ((1 + lensAt ks ks.length : Nat) : Int)) ∧ Below w.heap.size w w' := by
  rcases hD with h0 | ⟨g, G, Cp, rfl, h1, h2, h3, h4⟩
  · rw [h0]
    have HB0 := Lib.hid (show Below w.heap.size w (w.alloc (.cells #[.int .i64 a, .int .i64 b, .slice A 0 c] 26)) from (Below.refl _ _).alloc (Nat.le_refl _) _)
    clear h0 hm
    go_enter Tryd.func8, Tryd.ntmps8
    go_wp2_with (go_at_call 17; refine (heldIntSS_zero _ _ _).mono ?_; rintro e w2 ⟨rfl, rfl⟩)
    go_ret
    exact ⟨rfl, HB0.out⟩
  · refine (heldGears_any a b g ks.length c (lenL ks) Cp G w (by rw [sumL_lens]; exact hm) h4).mono ?_
    rintro e w' ⟨rfl, hb⟩
    rw [sumL_lens]
    exact ⟨rfl, hb⟩

end Go.Proofs.YtealpmjkmioocaaDoor
