/- Gears handed back with yes or no: what a law's walk carries of them. For at most 1048576 numbers. -/
import Derived.Test.YtealpmjkmioocaaDoorKD
import Derived.Test.YtealpmjkmioocaaDoorAddKnob
import Derived.Test.YtealpmjkmioocaaDoorJoTurn
namespace Go.Proofs.YtealpmjkmioocaaDoor
open Go.ChangeShapes Go.WideShapes Go.ChangeAt Go.RowKit Go.Joins

theorem KD.wide {w : World} {lo hi lo' hi' : Nat} {A : Option Addr} {ks : List (List Int)} {f : Nat → Nat → Value} (h1 : lo' ≤ lo) (h2 : hi ≤ hi') (h : KD w lo hi A ks f) : KD w lo' hi' A ks f :=
  h.imp id fun ⟨g, G, Cp, e, a1, a2, a3, a4⟩ => ⟨g, G, Cp, e, by omega, by omega, fun k hk => by have := a3 k hk; omega, a4⟩

/-- Gears handed back in blocks of their own, and whether there are some. -/
def KDOut (w : World) (a b : Int) (ks : List (List Int)) (ok : Bool) (e : Ending) (w' : World) : Prop :=
  ∃ A c, e = .returned (.tuple #[.agg #[.int .i64 a, .int .i64 b, .slice A ks.length c], .bool ok]) ∧ KD w' w.heap.size w'.heap.size A ks (digK ks) ∧ Below w.heap.size w w'

theorem GearsOut.kd {w w' : World} {a b : Int} {ks : List (List Int)} {ok : Bool} {e : Ending} (h : GearsOut w a b ks ok e w') : KDOut w a b ks ok e w' := by
  obtain ⟨v, B, G, Cp, rfl, hB, hR, hb⟩ := h
  obtain ⟨A, c, rfl, hK⟩ := hR.kd
  exact ⟨A, c, rfl, hK.wide hB (Nat.le_refl _), hb⟩

theorem eqKD_any (a b : Int) (A1 A2 : Option Addr) (c1 c2 lo1 hi1 lo2 hi2 : Nat) (ks : List (List Int)) (w : World) (hm : ks.length + lensAt ks ks.length ≤ 1048576) (h1 : KD w lo1 hi1 A1 ks (digK ks)) (h2 : KD w lo2 hi2 A2 ks (digK ks)) :
    Calls Tryd.prog 6 #[.agg #[.int .i64 a, .int .i64 b, .slice A1 ks.length c1], .agg #[.int .i64 a, .int .i64 b, .slice A2 ks.length c2]] w fun e w' => e = .returned (.bool true) ∧ Below w.heap.size w w' :=
  eqGears_any a b A1 A2 ks.length c1 c2 ks w hm (h1.knobsA hm) (h2.knobsA hm)

theorem lensAt_append (xs : List (List Int)) (y : List Int) (n : Nat) (hn : n ≤ xs.length) : lensAt (xs ++ [y]) n = lensAt xs n := by
  induction n with
  | zero => rfl
  | succ n ih => rw [lensAt, lensAt, ih (by omega)]; simp [List.getD, List.getElem?_append_left (show n < xs.length by omega)]

theorem lensAt_snoc (xs : List (List Int)) (y : List Int) : lensAt (xs ++ [y]) (xs ++ [y]).length = lensAt xs xs.length + y.length := by
  simp only [List.length_append, List.length_singleton]
  rw [lensAt, lensAt_append _ _ _ (Nat.le_refl _)]
  simp [List.getD]

theorem woAt_size (ks : List (List Int)) (q : Int) (k : Nat) : (woAt ks q k).length + lensAt (woAt ks q k) (woAt ks q k).length ≤ k + lensAt ks k := by
  induction k with
  | zero => simp [woAt, lensAt]
  | succ k ih =>
    rw [woAt]
    split
    · rw [lensAt]; omega
    · rw [lensAt_snoc, List.length_append, lensAt, List.length_singleton]
      omega

theorem dkZ_size (a b : Int) (ks : List (List Int)) (q : Int) : (dkZ a b ks q).length + lensAt (dkZ a b ks q) (dkZ a b ks q).length ≤ ks.length + lensAt ks ks.length := by
  unfold dkZ
  split
  · exact woAt_size ks q ks.length
  · simp [lensAt]

theorem lensAt_six (ks : List (List Int)) (n : Nat) (h : ∀ k, k < n → (ks.getD k []).length ≤ 6) : lensAt ks n ≤ 6 * n := by
  induction n with
  | zero => simp [lensAt]
  | succ n ih =>
    have := ih fun k hk => h k (by omega)
    have := h n (by omega)
    rw [lensAt]
    omega

theorem akZ_size (a b : Int) (ks : List (List Int)) (xs : List Int) : (akZ a b ks xs).length + lensAt (akZ a b ks xs) (akZ a b ks xs).length ≤ 1048576 := by
  unfold akZ
  split
  · rename_i h
    unfold akB at h
    simp only [Bool.and_eq_true] at h
    obtain ⟨h1, _, _, h4, h5⟩ := gearsB_yes h.1.1
    have hg := good_yes h1
    have hx := (knobB_yes h.1.2).1
    have := lensAt_six ks ks.length fun k hk => by have := (knobB_yes (h5 k hk)).1; omega
    rw [lensAt_snoc, List.length_append, List.length_singleton]
    omega
  · simp [lensAt]

end Go.Proofs.YtealpmjkmioocaaDoor
