/- A list of numbers handed back: how the law compares it, marks it and holds it. For at most 1000 numbers. -/
import Derived.Test.YtgopaflggbgplaaGears3
import Derived.Test.YtgopaflggbgplaaMarkG
import Derived.Test.YtgopaflggbgplaaOwn
namespace Go.Proofs.Ytgopaflggbgplaa
open Go.ChangeShapes Go.WideShapes Go.ChangeAt Go.RowKit Go.Joins

/-- A list of numbers in a block between two bounds, or an empty one. -/
def LI (w : World) (lo hi : Nat) (A : Option Addr) (xs : List Int) : Prop :=
  xs.length ≤ 1000 ∧ (xs.length = 0 ∨ ∃ g, A = some ⟨g, 0, none⟩ ∧ lo ≤ g ∧ g < hi ∧ Cells w g xs.length (digF xs))

/-- Its marks. -/
def LIM (w : World) (lo hi : Nat) (A : Option Addr) (xs : List Int) : Prop :=
  xs.length ≤ 1000 ∧ (xs.length = 0 ∨ ∃ g, A = some ⟨g, 0, none⟩ ∧ lo ≤ g ∧ g < hi ∧ Cells w g xs.length (upF 1))

theorem LI.ints {w : World} {lo hi : Nat} {A : Option Addr} {xs : List Int} (h : LI w lo hi A xs) : IntsA w A xs.length xs := by
  rcases h.2 with h0 | ⟨g, rfl, _, _, hC⟩
  · exact ⟨rfl, .inl h0⟩
  · exact IntsA.of_cells rfl hC

theorem LI.wide {w : World} {lo hi lo2 hi2 : Nat} {A : Option Addr} {xs : List Int} (h : LI w lo hi A xs) (h1 : lo2 ≤ lo) (h2 : hi ≤ hi2) : LI w lo2 hi2 A xs :=
  ⟨h.1, h.2.imp id fun ⟨g, e, a1, a2, hC⟩ => ⟨g, e, by omega, by omega, hC⟩⟩

theorem LI.call {w w' : World} {lo hi : Nat} {A : Option Addr} {xs : List Int} (h : LI w lo hi A xs) (hb : Below w.heap.size w w') : LI w' lo hi A xs :=
  ⟨h.1, h.2.imp id fun ⟨g, e, h1, h2, hC⟩ => ⟨g, e, h1, h2, hC.call hb⟩⟩

theorem LIM.call {w w' : World} {lo hi : Nat} {A : Option Addr} {xs : List Int} (h : LIM w lo hi A xs) (hb : Below w.heap.size w w') : LIM w' lo hi A xs :=
  ⟨h.1, h.2.imp id fun ⟨g, e, h1, h2, hC⟩ => ⟨g, e, h1, h2, hC.call hb⟩⟩

theorem LI.below {w w' : World} {lo hi B : Nat} {A : Option Addr} {xs : List Int} (h : LI w lo hi A xs) (hb : Below B w w') (hB : hi ≤ B) : LI w' lo hi A xs :=
  ⟨h.1, h.2.imp id fun ⟨g, e, h1, h2, hC⟩ => ⟨g, e, h1, h2, hC.below hb (by omega)⟩⟩

theorem LI.keep {w w' : World} {lo hi lo2 hi2 : Nat} {A : Option Addr} {xs : List Int} (h : LI w lo hi A xs) (hd : hi ≤ lo2 ∨ hi2 ≤ lo) (hk : ∀ g' m f', ¬ (lo2 ≤ g' ∧ g' < hi2) → Cells w g' m f' → Cells w' g' m f') : LI w' lo hi A xs :=
  ⟨h.1, h.2.imp id fun ⟨g, e, h1, h2, hC⟩ => ⟨g, e, h1, h2, hk _ _ _ (by omega) hC⟩⟩

/-- A list of numbers handed back, and whether it has been found. -/
def IntsL (w : World) (xs : List Int) (ok : Bool) (e : Ending) (w' : World) : Prop :=
  ∃ A c, e = .returned (.tuple #[.slice A xs.length c, .bool ok]) ∧ LI w' w.heap.size w'.heap.size A xs ∧ Below w.heap.size w w'

theorem IntsL.li {w w' : World} {xs : List Int} {ok : Bool} {e : Ending} (h : IntsL w xs ok e w') :
    ∃ A c, e = .returned (.tuple #[.slice A xs.length c, .bool ok]) ∧ LI w' w.heap.size w'.heap.size A xs ∧ Below w.heap.size w w' := h

theorem ints_none {w w' : World} (hb : Below w.heap.size w w') : IntsL w [] false (.returned (.tuple #[.slice none 0 0, .bool false])) w' :=
  ⟨none, 0, rfl, ⟨by decide, .inl rfl⟩, hb⟩

theorem LI.of_row {w : World} {B : Nat} {v : Value} {xs : List Int} (h : w.ownsRow B 3 1 v xs.length (iv xs)) (hl : xs.length ≤ 1000) : ∃ A c, v = .slice A xs.length c ∧ LI w B w.heap.size A xs := by
  rcases Nat.eq_zero_or_pos xs.length with h0 | h0
  · rcases h.2 with ⟨rfl, _⟩ | ⟨g, cap, cur, rfl, _⟩
    · exact ⟨none, 0, by rw [h0], hl, .inl h0⟩
    · exact ⟨_, cap, rfl, hl, .inl h0⟩
  · obtain ⟨g, c, rfl, hb, hC⟩ := own_ints (xs := xs) (n := xs.length) h (by
      rintro rfl
      rcases h.2 with ⟨_, h1⟩ | ⟨g, cap, cur, e, _⟩
      · omega
      · cases e)
    exact ⟨_, c, rfl, hl, .inr ⟨g, rfl, hb, hC.lt, hC⟩⟩


end Go.Proofs.Ytgopaflggbgplaa
