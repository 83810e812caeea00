/- Lists of lists of numbers in the call's own memory: copied by the law, compared. For at most 1048576 numbers. -/
import Derived.Test.YtgopaflggbgplaaGears
namespace Go.Proofs.Ytgopaflggbgplaa
open Go.ChangeShapes Go.WideShapes Go.ChangeAt Go.RowKit Go.Joins

/-- The first lists of a list of lists, each in a block of its own, in rising blocks. -/
structure GridT (w : World) (g n : Nat) (ks : List (List Int)) (G : Nat → Nat) : Prop where
  top : Cells w g n (fun k => .slice (some ⟨G k, 0, none⟩) (ks.getD k []).length (ks.getD k []).length)
  row : ∀ k, k < n → g < G k ∧ Cells w (G k) (ks.getD k []).length (digF (ks.getD k []))
  up : ∀ i k, i < k → k < n → G i < G k

theorem GridT.below {w w' : World} {B g n : Nat} {ks : List (List Int)} {G : Nat → Nat} (h : GridT w g n ks G) (hb : Below B w w') (hg : w.heap.size ≤ B) : GridT w' g n ks G :=
  ⟨h.top.below hb (Nat.lt_of_lt_of_le h.top.lt hg), fun k hk => ⟨(h.row k hk).1, (h.row k hk).2.below hb (Nat.lt_of_lt_of_le (h.row k hk).2.lt hg)⟩, h.up⟩

theorem GridT.call {w w' : World} {g n : Nat} {ks : List (List Int)} {G : Nat → Nat} (h : GridT w g n ks G) (hb : Below w.heap.size w w') : GridT w' g n ks G := h.below hb (Nat.le_refl _)

end Go.Proofs.Ytgopaflggbgplaa
