/- Smooth keys counted: mathematics, and sums of numbers as the program makes them. No conditions beyond those of each. -/
import Derived.Test.YtaajklkldfgppaaVg
namespace Go.Proofs.Ytaajklkldfgppaa
open Go.ChangeShapes Go.WideShapes Go.ChangeAt Go.RowKit Go.Joins

/-- Two depths that may follow each other. -/
def closeB (m : Int) (e j : Nat) : Bool := decide ((e : Int) - (j : Int) ≤ m ∧ (j : Int) - (e : Int) ≤ m)

/-- The sum over those below n that are close to e. -/
def scS (m : Int) (e : Nat) (f : Nat → Nat) : Nat → Nat
  | 0 => 0
  | j + 1 => scS m e f j + if closeB m e j then f j else 0

/-- The sum of n numbers from lo on. -/
def toS (f : Nat → Nat) (lo : Nat) : Nat → Nat
  | 0 => 0
  | i + 1 => toS f lo i + f (lo + i)

/-- How many smooth beginnings through the first k + 1 places end with e. -/
def fwN (m : Int) (ks : List (List Int)) : Nat → Nat → Nat
  | 0, e => if hasB (ks.getD 0 []) e then 1 else 0
  | k + 1, e => if hasB (ks.getD (k + 1) []) e then scS m e (fwN m ks k) 9 else 0

theorem scS_le {m : Int} {e B : Nat} {f : Nat → Nat} (h : ∀ j, f j ≤ B) (n : Nat) : scS m e f n ≤ n * B := by
  induction n with
  | zero => exact Nat.zero_le _
  | succ n ih =>
    rw [scS, Nat.succ_mul]
    split
    · exact Nat.add_le_add ih (h n)
    · omega

theorem toS_le {B lo : Nat} {f : Nat → Nat} (h : ∀ j, f j ≤ B) (n : Nat) : toS f lo n ≤ n * B := by
  induction n with
  | zero => exact Nat.zero_le _
  | succ n ih => rw [toS, Nat.succ_mul]; exact Nat.add_le_add ih (h _)

theorem fwN_le {m : Int} {ks : List (List Int)} (k e : Nat) : fwN m ks k e ≤ 9 ^ k := by
  induction k generalizing e with
  | zero => rw [fwN]; split <;> simp
  | succ k ih =>
    rw [fwN, Nat.pow_succ, Nat.mul_comm]
    split
    · exact scS_le (fun j => ih j) 9
    · exact Nat.zero_le _

/-- A sum over those that are close is one over neighbours. -/
theorem scS_toS {m : Int} {e lo hi : Nat} (f : Nat → Nat) (hlo : ∀ j, j < 9 → (lo ≤ j ↔ (e : Int) - (j : Int) ≤ m)) (hhi : ∀ j, j < 9 → (j ≤ hi ↔ (j : Int) - (e : Int) ≤ m)) (h8 : hi ≤ 8) (hl : lo ≤ hi) : scS m e f 9 = toS f lo (hi + 1 - lo) := by
  have key : ∀ n, n ≤ 9 → scS m e f n = toS f lo (min n (hi + 1) - lo) := fun n => by
    induction n with
    | zero => intro _; rw [show min 0 (hi + 1) - lo = 0 by omega]; rfl
    | succ n ih =>
      intro hn
      rw [scS, ih (by omega)]
      have h1 := hlo n (by omega)
      have h2 := hhi n (by omega)
      by_cases hc : lo ≤ n ∧ n ≤ hi
      · have : closeB m e n = true := decide_eq_true ⟨h1.1 hc.1, h2.1 hc.2⟩
        rw [this, if_pos rfl, show min (n + 1) (hi + 1) - lo = (min n (hi + 1) - lo) + 1 by omega, toS, show lo + (min n (hi + 1) - lo) = n by omega]
      · have : closeB m e n = false := decide_eq_false (fun h => hc ⟨h1.2 h.1, h2.2 h.2⟩)
        rw [this, if_neg (by decide), Nat.add_zero]
        by_cases h3 : n < lo
        · rw [show min (n + 1) (hi + 1) - lo = 0 by omega, show min n (hi + 1) - lo = 0 by omega]
        · rw [show min (n + 1) (hi + 1) = hi + 1 by omega, show min n (hi + 1) = hi + 1 by omega]
  rw [key 9 (Nat.le_refl _), show min 9 (hi + 1) = hi + 1 by omega]

theorem total_any (E lo n c : Nat) (f : Nat → Nat) (w : World) (hn : lo + n ≤ 9) (hf : ∀ j, f j ≤ 4782969) (hC : Cells w E 9 (fun j => .int .i64 (f j : Int))) :
    Calls Try.prog 78 #[.slice (some ⟨E, lo, none⟩) n c] w fun e w' => e = .returned (.int .i64 (toS f lo n : Int)) ∧ w' = w := by
  have HC := Lib.hid hC
  have HF := Lib.hid hf
  clear hC hf
  go_enter Try.func78, Try.ntmps78
  go_wp2_with fail
  go_loop [3, 8] (fun r i => ∃ k : Nat, k ≤ n ∧ i = .int .i64 k ∧ r = .int .i64 (toS f lo k : Int)) (fun _ i => n - (intOf i).toNat)
  case atStart => exact ⟨0, by omega, rfl, rfl⟩
  case round =>
    obtain ⟨k, hk, rfl, rfl⟩ := hrel
    by_cases hlt : k < n
    · have o1 : w.cell? ⟨E, lo + k, none⟩ = some (.int .i64 (f (lo + k) : Int)) := HC.out.cell (show lo + k < 9 by omega)
      have hb1 := HF.out (lo + k)
      have hb2 := toS_le (lo := lo) HF.out k
      have hb3 : k * 4782969 ≤ 9 * 4782969 := Nat.mul_le_mul_right _ (by omega)
      have HX : Hid (toS f lo (k + 1) = toS f lo k + f (lo + k)) := Lib.hid rfl
      generalize f (lo + k) = x at o1 hb1 HX
      generalize toS f lo k = t at hb2 HX
      go_wp2_with fail
      go_round
      case rel => exact ⟨k + 1, by omega, by go_num, congrArg (Value.int .i64) (by rw [HX.out]; omega)⟩
      case measure => simp [intOf]; omega
    · obtain rfl : k = n := by omega
      go_wp2_with fail
      go_ret
      exact ⟨rfl, rfl⟩

theorem hasB_step {xs : List Int} {i j : Nat} (h : i < xs.length) : hasB (xs.take (i + 1)) j = (hasB (xs.take i) j || decide (xs.getD i 0 = (j : Int))) := by
  unfold hasB
  rw [List.take_succ_eq_append_getElem h, Bool.eq_iff_iff, Bool.or_eq_true, decide_eq_true_eq, decide_eq_true_eq, decide_eq_true_eq, List.mem_append, List.mem_singleton]
  simp only [List.getD, List.getElem?_eq_getElem h, Option.getD_some]
  constructor
  · rintro (h1 | h1)
    · exact .inl h1
    · exact .inr h1.symm
  · rintro (h1 | h1)
    · exact .inl h1
    · exact .inr h1.symm

theorem cells_zero9 (W : World) (t : TypeId) {g : Nat} (hg : g = W.heap.size) : Cells (W.alloc (.cells #[.int .i64 0, .int .i64 0, .int .i64 0, .int .i64 0, .int .i64 0, .int .i64 0, .int .i64 0, .int .i64 0, .int .i64 0] t)) g 9 (fun _ => .int .i64 0) :=
  (Cells.new (n := 9) hg rfl).congr fun j hj => by
    have : j = 0 ∨ j = 1 ∨ j = 2 ∨ j = 3 ∨ j = 4 ∨ j = 5 ∨ j = 6 ∨ j = 7 ∨ j = 8 := by omega
    rcases this with rfl | rfl | rfl | rfl | rfl | rfl | rfl | rfl | rfl <;> rfl

end Go.Proofs.Ytaajklkldfgppaa
