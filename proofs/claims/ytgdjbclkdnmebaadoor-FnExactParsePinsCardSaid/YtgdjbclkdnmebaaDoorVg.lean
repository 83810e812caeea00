/- The pins that all keys open, as the program makes them. For at most 9 depths and 7 places. -/
import Derived.Test.YtgdjbclkdnmebaaDoorVf
namespace Go.Proofs.YtgdjbclkdnmebaaDoor
open Go.ChangeShapes Go.WideShapes Go.ChangeAt Go.RowKit Go.Joins

theorem pinsOut_no {w w' : World} {e : Ending} (he : e = .returned (.tuple #[.agg #[.int .i64 0, .slice none 0 0], .bool false])) (hb : Below w.heap.size w w') : PinsOut w 0 [] false e w' :=
  ⟨_, he, rowP_nil _ _, hb⟩

theorem rowv_succ {w : World} {base : Nat} {e : TypeId} {size n : Nat} {v : Value} {xs : List Value} (h : w.ownsRow base e size v (n + 1) xs) : ∃ g c, v = .slice (some ⟨g, 0, none⟩) (n + 1) c := by
  obtain ⟨g, c, e, _⟩ := h.form (by omega)
  exact ⟨g, c, e⟩

theorem listOut_at {w' : World} {B n : Nat} {A : Option Addr} {xs : List Int} (h : n = 0 ∨ ∃ g, A = some ⟨g, 0, none⟩ ∧ B ≤ g ∧ Cells w' g n (digF xs)) : ∃ g, n = 0 ∨ (A = some ⟨g, 0, none⟩ ∧ B ≤ g ∧ Cells w' g n (digF xs)) := by
  rcases h with h | ⟨g, h⟩
  · exact ⟨0, .inl h⟩
  · exact ⟨g, .inr h⟩

end Go.Proofs.YtgdjbclkdnmebaaDoor
