/- Lists of lists of numbers marked and looked at again by the law. For lists that lie each in a block of its own, with at most 1048576 numbers. -/
import Derived.Test.YtgopaflggbgplaaGears2
namespace Go.Proofs.Ytgopaflggbgplaa
open Go.ChangeShapes Go.WideShapes Go.ChangeAt Go.RowKit Go.Joins

/-- Marks: k, k + 1, .. -/
def upF (k : Nat) (j : Nat) : Value := .int .i64 ((k + j : Nat) : Int)

/-- Lists of lists, each list in a block of its own. -/
structure KnobsD (w : World) (g n : Nat) (L Cp G : Nat → Nat) (f : Nat → Nat → Value) : Prop where
  top : Cells w g n (fun k => .slice (some ⟨G k, 0, none⟩) (L k) (Cp k))
  row : ∀ k, k < n → g ≠ G k ∧ Cells w (G k) (L k) (f k)
  apart : ∀ i k, i < n → k < n → i ≠ k → G i ≠ G k

def sumL (L : Nat → Nat) : Nat → Nat
  | 0 => 0
  | k + 1 => sumL L k + L k

theorem sumL_le {L : Nat → Nat} {i n : Nat} (h : i ≤ n) : sumL L i ≤ sumL L n := by
  induction n with
  | zero => obtain rfl : i = 0 := by omega
            exact Nat.le_refl _
  | succ n ih =>
    rcases Nat.lt_or_ge i (n + 1) with h1 | h1
    · rw [sumL]; have := ih (by omega); omega
    · obtain rfl : i = n + 1 := by omega
      exact Nat.le_refl _

theorem KnobsD.call {w w' : World} {g n : Nat} {L Cp G : Nat → Nat} {f : Nat → Nat → Value} (h : KnobsD w g n L Cp G f) (hb : Below w.heap.size w w') : KnobsD w' g n L Cp G f :=
  ⟨h.top.call hb, fun k hk => ⟨(h.row k hk).1, (h.row k hk).2.call hb⟩, h.apart⟩

end Go.Proofs.Ytgopaflggbgplaa
