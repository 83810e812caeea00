/- Smooth keys ranked: the mathematics. For at most 9 depths. -/
import Derived.Test.YtaajklkldfgppaaWz2
namespace Go.Proofs.Ytaajklkldfgppaa
open Go.ChangeShapes Go.WideShapes Go.ChangeAt Go.RowKit Go.Joins

theorem close_comm {m : Int} {e j : Nat} : closeB m e j = closeB m j e := by
  unfold closeB
  exact decide_eq_decide.2 ⟨fun h => ⟨h.2, h.1⟩, fun h => ⟨h.2, h.1⟩⟩

theorem toS_add {f g : Nat → Nat} (n : Nat) : toS (fun e => f e + g e) 0 n = toS f 0 n + toS g 0 n := by
  induction n with
  | zero => rfl
  | succ n ih => rw [toS, toS, toS, ih]; omega

theorem toS_none (n : Nat) : toS (fun _ => 0) 0 n = 0 := by
  induction n with
  | zero => rfl
  | succ n ih => rw [toS, ih]

theorem toS_close {m : Int} {g : Nat → Nat} {b x : Nat} (n : Nat) : toS (fun e => g e * (if closeB m e b = true then x else 0)) 0 n = x * scS m b g n := by
  induction n with
  | zero => rfl
  | succ n ih =>
    rw [toS, ih, scS, Nat.zero_add, close_comm]
    split
    · rw [Nat.mul_add, Nat.mul_comm (g n)]
    · rw [Nat.mul_zero, Nat.add_zero, Nat.add_zero]

/-- The sums may be changed for each other. -/
theorem sum_swap {m : Int} {f g : Nat → Nat} (a b : Nat) : toS (fun e => g e * scS m e f b) 0 a = toS (fun j => f j * scS m j g a) 0 b := by
  induction b with
  | zero => exact (toS_congr (n := a) (g := fun _ => 0) (fun j _ => by rw [scS, Nat.mul_zero])).trans (toS_none a)
  | succ b ih =>
    rw [toS, ← ih, Nat.zero_add, ← toS_close, ← toS_add]
    refine toS_congr fun j _ => ?_
    rw [scS, Nat.mul_add]

/-- One place more, all depths of which may follow. -/
def opA (m : Int) (dn : Nat) (f : Nat → Nat) (e : Nat) : Nat := if e < dn then scS m e f 9 else 0
def itA (m : Int) (dn : Nat) : Nat → (Nat → Nat) → Nat → Nat
  | 0, f => f
  | t + 1, f => opA m dn (itA m dn t f)

theorem itA_in (m : Int) (dn : Nat) (f : Nat → Nat) (t : Nat) : itA m dn (t + 1) f = itA m dn t (opA m dn f) := by
  induction t with
  | zero => rfl
  | succ t ih => rw [itA, ih]; rfl

theorem itA_sum {m : Int} {dn : Nat} (hd : dn ≤ 9) (t : Nat) : ∀ f : Nat → Nat, (∀ j, dn ≤ j → f j = 0) → toS (itA m dn t f) 0 9 = toS (fun e => f e * gwN m dn t e) 0 9 := by
  induction t with
  | zero => intro f _; exact toS_congr fun j _ => by rw [gwN, Nat.mul_one]; rfl
  | succ t ih =>
    intro f hf
    rw [itA_in, ih _ (fun j hj => by unfold opA; rw [if_neg (by omega)])]
    rw [toS_cut hd (fun j hj => by unfold opA; rw [if_neg (by omega), Nat.zero_mul])]
    have e1 : toS (fun e => opA m dn f e * gwN m dn t e) 0 dn = toS (fun e => gwN m dn t e * scS m e f 9) 0 dn := toS_congr fun j hj => by
      unfold opA
      rw [if_pos hj, Nat.mul_comm]
    rw [e1, sum_swap]
    rfl

theorem upL_hasD (n e : Nat) : hasB (upL n) e = decide (e < n) := by
  by_cases h : e < n
  · rw [decide_eq_true h]; exact upL_has h
  · rw [decide_eq_false h]
    refine decide_eq_false fun hm => ?_
    obtain ⟨e', h1, h2, _⟩ := lsN_mem.1 hm
    omega

theorem fwN_tail {m : Int} {dn k : Nat} {ks : List (List Int)} (t : Nat) (h : ∀ j, j < t → ks.getD (k + j + 1) [] = upL dn) : fwN m ks (k + t) = itA m dn t (fwN m ks k) := by
  induction t with
  | zero => rfl
  | succ t ih =>
    funext e
    rw [← Nat.add_assoc, fwN, h t (by omega), upL_hasD, ih (fun j hj => h j (by omega)), itA]
    unfold opA
    by_cases he : e < dn
    · rw [decide_eq_true he, if_pos rfl, if_pos he]
    · rw [decide_eq_false he, if_neg (by decide), if_neg he]

theorem scS_single {m : Int} {e a : Nat} (n : Nat) : scS m e (fun j => if j = a then 1 else 0) n = if a < n ∧ closeB m e a = true then 1 else 0 := by
  induction n with
  | zero => rw [if_neg (by omega)]; rfl
  | succ n ih =>
    rw [scS, ih]
    by_cases e1 : n = a
    · subst e1
      by_cases hc : closeB m e n = true <;> simp [hc]
    · have e2 : (a < n + 1 ∧ closeB m e a = true) ↔ (a < n ∧ closeB m e a = true) := ⟨fun h => ⟨by omega, h.2⟩, fun h => ⟨by omega, h.2⟩⟩
      have e3 : (if closeB m e n = true then (if n = a then 1 else 0) else 0) = 0 := by
        rw [if_neg e1]; split <;> rfl
      simp only [e2]
      rw [e3, Nat.add_zero]

/-- The places before k have their digits, place k the lower ones. -/
theorem fwN_fixed {m : Int} {x : Nat → Nat} {ks : List (List Int)} (k : Nat) (h : ∀ i, i ≤ k → ks.getD i [] = [(x i : Int)]) (h9 : ∀ i, i ≤ k → x i < 9) (hs : ∀ i, i < k → closeB m (x (i + 1)) (x i) = true) : fwN m ks k = fun e => if e = x k then 1 else 0 := by
  have single : ∀ (i e : Nat), hasB [(x i : Int)] e = decide (e = x i) := fun i e => by
    unfold hasB
    refine decide_eq_decide.2 ?_
    rw [List.mem_singleton]
    exact ⟨fun h => by omega, fun h => by omega⟩
  induction k with
  | zero =>
    funext e
    rw [fwN, h 0 (by omega), single]
    by_cases he : e = x 0
    · rw [decide_eq_true he, if_pos rfl, if_pos he]
    · rw [decide_eq_false he, if_neg (by decide), if_neg he]
  | succ k ih =>
    funext e
    rw [fwN, h (k + 1) (by omega), single, ih (fun i hi => h i (by omega)) (fun i hi => h9 i (by omega)) (fun i hi => hs i (by omega)), scS_single]
    by_cases he : e = x (k + 1)
    · rw [decide_eq_true he, if_pos rfl, if_pos he, if_pos ⟨h9 k (by omega), by rw [he]; exact hs k (by omega)⟩]
    · rw [decide_eq_false he, if_neg (by decide), if_neg he]

/-- Whether depth e may stand at place k behind the digits before. -/
def folB (m : Int) (x : Nat → Nat) (k e : Nat) : Bool := decide (k = 0) || closeB m e (x (k - 1))

/-- The smooth keys that are like x up to place k and have a lower depth there. -/
def rkN (m : Int) (dn n : Nat) (x : Nat → Nat) (k : Nat) : Nat := toS (fun e => if folB m x k e then gwN m dn (n - 1 - k) e else 0) 0 (x k)

theorem rank_step {m : Int} {dn n k : Nat} {x : Nat → Nat} {ks : List (List Int)} (hd : dn ≤ 9) (hk : k < n) (h : ∀ i, i < k → ks.getD i [] = [(x i : Int)]) (hx : ks.getD k [] = upL (x k)) (ht : ∀ i, k < i → i < n → ks.getD i [] = upL dn)
    (h9 : ∀ i, i ≤ k → x i < dn) (hs : ∀ i, i + 1 < k → closeB m (x (i + 1)) (x i) = true) : toS (fwN m ks (n - 1)) 0 9 = rkN m dn n x k := by
  have e1 : fwN m ks (n - 1) = itA m dn (n - 1 - k) (fwN m ks k) := by
    have := fwN_tail (m := m) (dn := dn) (k := k) (ks := ks) (n - 1 - k) (fun j hj => ht _ (by omega) (by omega))
    rwa [show k + (n - 1 - k) = n - 1 by omega] at this
  have e2 : ∀ e, fwN m ks k e = if e < x k ∧ folB m x k e = true then 1 else 0 := fun e => by
    rcases k with _ | k
    · rw [fwN, hx, upL_hasD]
      unfold folB
      by_cases he : e < x 0
      · rw [decide_eq_true he, if_pos rfl, if_pos ⟨he, by simp⟩]
      · rw [decide_eq_false he, if_neg (by decide), if_neg (fun h => he h.1)]
    · rw [fwN, hx, upL_hasD, fwN_fixed k (fun i hi => h i (by omega)) (fun i hi => by have := h9 i (by omega); omega) (fun i hi => hs i (by omega)), scS_single]
      have e3 : folB m x (k + 1) e = closeB m e (x k) := by unfold folB; simp
      rw [e3]
      have := h9 k (by omega)
      by_cases he : e < x (k + 1)
      · rw [decide_eq_true he, if_pos rfl]
        by_cases hc : closeB m e (x k) = true
        · rw [if_pos ⟨by omega, hc⟩, if_pos ⟨he, hc⟩]
        · rw [if_neg (fun h => hc h.2), if_neg (fun h => hc h.2)]
      · rw [decide_eq_false he, if_neg (by decide), if_neg (fun h => he h.1)]
  have hxk := h9 k (Nat.le_refl _)
  rw [e1, itA_sum hd _ _ (fun j hj => by rw [e2, if_neg (by omega)])]
  rw [toS_cut (dn := x k) (by omega) (fun j hj => by rw [e2, if_neg (by omega), Nat.zero_mul])]
  unfold rkN
  refine toS_congr fun j hj => ?_
  rw [e2]
  by_cases hc : folB m x k j = true
  · rw [if_pos ⟨hj, hc⟩, if_pos hc, Nat.one_mul]
  · rw [if_neg (fun h => hc h.2), if_neg hc, Nat.zero_mul]

end Go.Proofs.Ytaajklkldfgppaa
