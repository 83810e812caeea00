/- Orders of codes: lists of codes, each one turn from the one ahead of it. Mathematics alone. No conditions beyond those of each lemma. -/
import Derived.Test.YtjghodfdejdjoaaOc
import Derived.Test.YtjghodfdejdjoaaMpS
namespace Go.Proofs.Ytjghodfdejdjoaa
open Go.ChangeShapes Go.WideShapes Go.ChangeAt Go.RowKit Go.Joins

theorem allR_snoc {p : Nat → Bool} {k : Nat} (h : (List.range k).all p = true) (hk : p k = true) : (List.range (k + 1)).all p = true := by
  rw [List.range_succ, List.all_append, h]; simp [hk]

theorem allR_not {p : Nat → Bool} {k n : Nat} (hk : k < n) (h : p k = false) : (List.range n).all p = false := by
  rw [List.all_eq_false]
  exact ⟨k, List.mem_range.2 hk, by rw [h]; simp⟩

/-- One turn leads from the one code to the other one. -/
def otB (a b : Int) (s t : ByteArray) : Bool := decide ((firstZ a b s t).length = 1)

/-- This turn. -/
def otP (a b : Int) (s t : ByteArray) : Int × Int := if otB a b s t then (firstZ a b s t).headD (0, 0) else (0, 0)

theorem otP_yes {a b : Int} {s t : ByteArray} {p : Int × Int} (h : firstZ a b s t = [p]) : otB a b s t = true ∧ otP a b s t = p := by
  have h1 : otB a b s t = true := by unfold otB; rw [h]; rfl
  exact ⟨h1, by unfold otP; rw [h1, h]; rfl⟩

theorem otP_no {a b : Int} {s t : ByteArray} (h : otB a b s t = false) : otP a b s t = (0, 0) := by unfold otP; rw [h]; rfl

theorem one_list {α : Type} {l : List α} (h : l.length = 1) : ∃ x, l = [x] := by
  match l, h with
  | [x], _ => exact ⟨x, rfl⟩

theorem ot_list {a b : Int} {s t : ByteArray} (h : otB a b s t = true) : firstZ a b s t = [otP a b s t] := by
  obtain ⟨p, hp⟩ := one_list (of_decide_eq_true h)
  rw [(otP_yes hp).2, hp]

/-- The distance is 1. -/
theorem ot_few {a b : Int} {s t : ByteArray} (h : twoB a b s t = true) : otB a b s t = decide (fewZ a b s t = 1) := by
  have h1 := asked (two_yes h).1
  have h2 := asked (two_yes h).2
  have e := first_len (b := b) h1.b2 (xs := dg s) (ys := dg t) (zs := distL b s t) s.size (fun k hk => distL_at h1 h2 hk)
  unfold otB
  rw [firstZ_yes h, fewZ_yes h, ← e]
  congr 1
  rw [eq_iff_iff]
  omega

/-- The text at a place goes on with an order. -/
def okAt (a b : Int) (ts : List ByteArray) (k : Nat) : Bool :=
  askB a b (ts.getD k ByteArray.empty) && (!hsS (ts.take k) (ts.getD k ByteArray.empty) && (decide (k = 0) || otB a b (ts.getD (k - 1) ByteArray.empty) (ts.getD k ByteArray.empty)))

/-- An order. -/
def orB (a b : Int) (ts : List ByteArray) : Bool := goodB a b && (decide (ts.length ≤ 1000) && (List.range ts.length).all (okAt a b ts))

theorem or_not {a b : Int} {ts : List ByteArray} {k : Nat} (hk : k < ts.length) (h : okAt a b ts k = false) : orB a b ts = false := by
  unfold orB; rw [allR_not hk h, Bool.and_false, Bool.and_false]

theorem or_yes {a b : Int} {ts : List ByteArray} (hg : goodB a b = true) (hl : ts.length ≤ 1000) (h : (List.range ts.length).all (okAt a b ts) = true) : orB a b ts = true := by
  unfold orB; rw [hg, decide_eq_true hl, h]; rfl

theorem or_parts {a b : Int} {ts : List ByteArray} (h : orB a b ts = true) : goodB a b = true ∧ ts.length ≤ 1000 ∧ ∀ k, k < ts.length → okAt a b ts k = true := by
  unfold orB at h
  rw [Bool.and_eq_true, Bool.and_eq_true, decide_eq_true_iff, List.all_eq_true] at h
  exact ⟨h.1, h.2.1, fun k hk => h.2.2 k (List.mem_range.2 hk)⟩

theorem ok_ask {a b : Int} {ts : List ByteArray} {k : Nat} (h : okAt a b ts k = true) : askB a b (ts.getD k ByteArray.empty) = true := by
  unfold okAt at h
  rw [Bool.and_eq_true] at h
  exact h.1

theorem ok_turn {a b : Int} {ts : List ByteArray} {k : Nat} (h : okAt a b ts (k + 1) = true) : otB a b (ts.getD k ByteArray.empty) (ts.getD (k + 1) ByteArray.empty) = true := by
  unfold okAt at h
  simp at h
  exact h.2.2

/-- The turns of an order's first codes. -/
def trL (a b : Int) (ts : List ByteArray) (n : Nat) : List (Int × Int) := (List.range (n - 1)).map fun i => otP a b (ts.getD i ByteArray.empty) (ts.getD (i + 1) ByteArray.empty)

theorem trL_length (a b : Int) (ts : List ByteArray) (n : Nat) : (trL a b ts n).length = n - 1 := by simp [trL]

theorem trL_snoc (a b : Int) (ts : List ByteArray) (k : Nat) : trL a b ts (k + 1 + 1) = trL a b ts (k + 1) ++ [otP a b (ts.getD k ByteArray.empty) (ts.getD (k + 1) ByteArray.empty)] := by
  unfold trL
  rw [show k + 1 + 1 - 1 = (k + 1 - 1) + 1 by omega, List.range_succ, List.map_append, show k + 1 - 1 = k by omega]; rfl

/-- The order's turns. -/
def orT (a b : Int) (ts : List ByteArray) : List (Int × Int) := if orB a b ts then trL a b ts ts.length else []

theorem orT_yes {a b : Int} {ts : List ByteArray} (h : orB a b ts = true) : orT a b ts = trL a b ts ts.length := by unfold orT; rw [h]; rfl

theorem orT_no {a b : Int} {ts : List ByteArray} (h : orB a b ts = false) : orT a b ts = [] := by unfold orT; rw [h]; rfl

/-- A whole one, and a closed one. -/
def woB (a b : Int) (ts : List ByteArray) : Bool := orB a b ts && decide ((ts.length : Int) = countZ a b)

def clB (a b : Int) (ts : List ByteArray) : Bool := woB a b ts && otB a b (ts.getD (ts.length - 1) ByteArray.empty) (ts.getD 0 ByteArray.empty)

theorem take_hs {ts : List ByteArray} {k : Nat} (hk : k < ts.length) (s : ByteArray) : hsS (ts.take (k + 1)) s = (hsS (ts.take k) s || decide (ts.getD k ByteArray.empty = s)) := by
  unfold hsS
  rw [List.take_succ_eq_append_getElem hk, List.any_append]
  simp [List.getD, List.getElem?_eq_getElem hk]

theorem far_symZ {a b : Int} {s t : ByteArray} : fewZ a b s t = fewZ a b t s := by
  by_cases h : twoB a b s t = true
  · have h' : twoB a b t s = true := by unfold twoB at *; rw [Bool.and_comm]; exact h
    have h1 := asked (two_yes h).1
    have h2 := asked (two_yes h).2
    have e : s.size = t.size := by have := h1.size; have := h2.size; omega
    rw [fewZ_yes h, fewZ_yes h', e]
    have : ∀ k, k ≤ t.size → sumAt (distL b s t) k = sumAt (distL b t s) k := by
      intro k
      induction k with
      | zero => intro _; rfl
      | succ k ih =>
        intro hk
        rw [sumAt, sumAt, ih (by omega), distL_at h1 h2 (by omega), distL_at h2 h1 (by omega), far_sym]
    exact this _ (Nat.le_refl _)
  · have h0 := Bool.eq_false_iff.2 h
    have h' : twoB a b t s = false := by unfold twoB at *; rw [Bool.and_comm]; exact h0
    rw [fewZ_no h0, fewZ_no h']

theorem ot_sym {a b : Int} {s t : ByteArray} (h : twoB a b s t = true) : otB a b s t = otB a b t s := by
  have h' : twoB a b t s = true := by unfold twoB at *; rw [Bool.and_comm]; exact h
  rw [ot_few h, ot_few h', far_symZ]

end Go.Proofs.Ytjghodfdejdjoaa
