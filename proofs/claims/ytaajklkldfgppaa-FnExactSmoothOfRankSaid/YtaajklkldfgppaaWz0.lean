/- How many keys that open are smooth, as the model counts them. For pins with at most 1048576 numbers. -/
import Derived.Test.YtaajklkldfgppaaVz
namespace Go.Proofs.Ytaajklkldfgppaa
open Go.ChangeShapes Go.WideShapes Go.ChangeAt Go.RowKit Go.Joins

theorem rise_up {d : Int} {xs : List Int} : ∀ {lo : Int} {i : Nat}, riseB d lo xs = true → i < xs.length → ∀ y, y ∈ xs.take i → y < xs.getD i 0 := by
  induction xs with
  | nil => intro lo i _ hi; simp at hi
  | cons x xs ih =>
    intro lo i h hi y hy
    obtain ⟨_, _, h3⟩ := rise_yes h
    cases i with
    | zero => simp at hy
    | succ i =>
      have hi' : i < xs.length := by simpa using hi
      rw [List.getD_cons_succ]
      rw [List.take_succ_cons, List.mem_cons] at hy
      rcases hy with rfl | hy
      · have := rise_mem h3 (xs.getD i 0) (by rw [List.getD, List.getElem?_eq_getElem hi', Option.getD_some]; exact List.getElem_mem hi')
        omega
      · exact ih h3 hi' y hy

theorem rise_new {d lo : Int} {xs : List Int} {i e : Nat} (h : riseB d lo xs = true) (hi : i < xs.length) (he : xs.getD i 0 = (e : Int)) : hasB (xs.take i) e = false := decide_eq_false fun hm => by
  have := rise_up h hi _ hm
  omega

theorem rise_at {d lo : Int} {xs : List Int} {i : Nat} (h : riseB d lo xs = true) (hi : i < xs.length) : lo ≤ xs.getD i 0 ∧ xs.getD i 0 < d :=
  rise_mem h (xs.getD i 0) (by rw [List.getD, List.getElem?_eq_getElem hi, Option.getD_some]; exact List.getElem_mem hi)

/-- A list's row of sums, with the depth of place i under way. -/
def nxF (m : Int) (xs : List Int) (fk : Nat → Nat) (dn i e t j : Nat) : Value :=
  if j = e then .int .i64 (scS m e fk t : Int) else .int .i64 ((if hasB (xs.take i) j then scS m j fk dn else 0 : Nat) : Int)

theorem nxF_start {m : Int} {xs : List Int} {fk : Nat → Nat} {dn i e : Nat} {d : Int} (h : riseB d 0 xs = true) (hi : i < xs.length) (he : xs.getD i 0 = (e : Int)) (j : Nat) : Value.int .i64 ((if hasB (xs.take i) j then scS m j fk dn else 0 : Nat) : Int) = nxF m xs fk dn i e 0 j := by
  unfold nxF
  by_cases hj : j = e
  · subst hj; rw [if_pos rfl, rise_new h hi he]; rfl
  · rw [if_neg hj]

theorem nxF_end {m : Int} {xs : List Int} {fk : Nat → Nat} {dn i e : Nat} (hi : i < xs.length) (he : xs.getD i 0 = (e : Int)) (j : Nat) : nxF m xs fk dn i e dn j = Value.int .i64 ((if hasB (xs.take (i + 1)) j then scS m j fk dn else 0 : Nat) : Int) :=
  longer_step (g := fun j => scS m j fk dn) hi he rfl

theorem nxF_same {m : Int} {xs : List Int} {fk : Nat → Nat} {dn i e t : Nat} (h : closeB m e t = false) (j : Nat) : nxF m xs fk dn i e t j = nxF m xs fk dn i e (t + 1) j := by
  unfold nxF
  rw [scS, h]
  rfl

theorem nxF_more {m : Int} {xs : List Int} {fk : Nat → Nat} {dn i e t : Nat} {z : Int} (h : closeB m e t = true) (hz : z = (scS m e fk t + fk t : Nat)) (j : Nat) : (if j = e then Value.int .i64 z else nxF m xs fk dn i e t j) = nxF m xs fk dn i e (t + 1) j := by
  unfold nxF
  by_cases hj : j = e
  · rw [if_pos hj, if_pos hj, hz, scS, h, if_pos rfl]
  · rw [if_neg hj, if_neg hj, if_neg hj]

theorem scS_le9 {m : Int} {e B t : Nat} {f : Nat → Nat} (h : ∀ j, f j ≤ B) (ht : t ≤ 9) : scS m e f t ≤ 9 * B := Nat.le_trans (scS_le h t) (Nat.mul_le_mul_right _ ht)

theorem ret_pair {x y : Int} {b c : Bool} (h1 : x = y) (h2 : b = c) : Ending.returned (.tuple #[.int .i64 x, .bool b]) = .returned (.tuple #[.int .i64 y, .bool c]) := by rw [h1, h2]

end Go.Proofs.Ytaajklkldfgppaa
