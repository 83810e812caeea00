/- Lists of lists of numbers among the arguments: their size told, copied by the law. For at most 1048576 numbers. -/
import Derived.Test.YtgopaflggbgplaaCells
import Derived.Test.YtgopaflggbgplaaLock
namespace Go.Proofs.Ytgopaflggbgplaa
open Go.ChangeShapes Go.WideShapes Go.ChangeAt Go.RowKit Go.Joins

/-- Numbers handed in. -/
structure IntsA (w : World) (A : Option Addr) (n : Nat) (xs : List Int) : Prop where
  len : xs.length = n
  at_ : n = 0 ∨ ∃ b off, A = some ⟨b, off, none⟩ ∧ b < w.heap.size ∧ ∀ k, k < n → w.cell? ⟨b, off + k, none⟩ = some (.int .i64 (xs.getD k 0))

theorem IntsA.below {w w' : World} {A : Option Addr} {n : Nat} {xs : List Int} (h : IntsA w A n xs) (hb : Below w.heap.size w w') : IntsA w' A n xs :=
  ⟨h.len, h.at_.imp id fun ⟨b, off, e, hb', hc⟩ => ⟨b, off, e, Nat.lt_of_lt_of_le hb' hb.size, fun k hk => by rw [hb.cell (p := ⟨b, off + k, none⟩) hb']; exact hc k hk⟩⟩

/-- Lists of numbers handed in. -/
structure KnobsA (w : World) (A : Option Addr) (n : Nat) (ks : List (List Int)) : Prop where
  len : ks.length = n
  at_ : n = 0 ∨ ∃ b off, A = some ⟨b, off, none⟩ ∧ b < w.heap.size ∧ ∀ k, k < n → ∃ Ak ck, w.cell? ⟨b, off + k, none⟩ = some (.slice Ak (ks.getD k []).length ck) ∧ (ks.getD k []).length ≤ maxLen ∧ IntsA w Ak (ks.getD k []).length (ks.getD k [])

theorem KnobsA.below {w w' : World} {A : Option Addr} {n : Nat} {ks : List (List Int)} (h : KnobsA w A n ks) (hb : Below w.heap.size w w') : KnobsA w' A n ks :=
  ⟨h.len, h.at_.imp id fun ⟨b, off, e, hb', hc⟩ => ⟨b, off, e, Nat.lt_of_lt_of_le hb' hb.size, fun k hk => by
    obtain ⟨Ak, ck, h1, h2, h3⟩ := hc k hk
    exact ⟨Ak, ck, by rw [hb.cell (p := ⟨b, off + k, none⟩) hb']; exact h1, h2, h3.below hb⟩⟩⟩

/-- How many numbers there are in the first lists. -/
def lensAt (ks : List (List Int)) : Nat → Nat
  | 0 => 0
  | k + 1 => lensAt ks k + (ks.getD k []).length

theorem lensAt_le {ks : List (List Int)} {i n : Nat} (h : i ≤ n) : lensAt ks i ≤ lensAt ks n := by
  induction n with
  | zero => obtain rfl : i = 0 := by omega
            exact Nat.le_refl _
  | succ n ih =>
    rcases Nat.lt_or_ge i (n + 1) with h1 | h1
    · rw [lensAt]; have := ih (by omega); omega
    · obtain rfl : i = n + 1 := by omega
      exact Nat.le_refl _

theorem lensAt_one {ks : List (List Int)} {k n : Nat} (h : k < n) : (ks.getD k []).length ≤ lensAt ks n := by
  have := lensAt_le (ks := ks) (show k + 1 ≤ n from h)
  rw [lensAt] at this
  omega

theorem make_intsN (n : Nat) (hn : n ≤ 1048576) (W : World) : (Instr.makeSlice 87 (.int .i64 (n : Int)) (.int .i64 (n : Int))).run Try.prog W = .ok (.slice (some ⟨W.heap.size, 0, none⟩) n n) (W.alloc (.cells (madeCells #[.int .i64 0] n) 3)) :=
  run_make_row' 87 3 (.int .i64 0) 8 Try.underlying87 (by kernel_rfl) rfl .i64 .i64 n (by omega) (by omega) W

end Go.Proofs.Ytgopaflggbgplaa
