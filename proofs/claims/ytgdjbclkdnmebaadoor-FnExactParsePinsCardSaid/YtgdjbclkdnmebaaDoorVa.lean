/- Pins: their lists, what is in them, their masks. Mathematics alone. No conditions. -/
import Derived.Test.YtgdjbclkdnmebaaDoorGears2
import Derived.Laws.BitsLemmas
namespace Go.Proofs.YtgdjbclkdnmebaaDoor
open Go.ChangeShapes Go.WideShapes Go.ChangeAt Go.RowKit Go.Joins

theorem lall_snoc {α : Type} {xs : List α} {d : α} {p : α → Bool} {k : Nat} (h : k < xs.length) (ha : (xs.take k).all p = true) (hd : p (xs.getD k d) = true) : (xs.take (k + 1)).all p = true := by
  rw [List.take_succ_eq_append_getElem h, List.all_append, ha]
  simpa [List.getD, List.getElem?_eq_getElem h] using hd

theorem lall_not {α : Type} {xs : List α} {d : α} {p : α → Bool} {k : Nat} (h : k < xs.length) (hd : p (xs.getD k d) = false) : xs.all p = false := by
  rw [List.all_eq_false]
  refine ⟨xs[k], List.getElem_mem _, ?_⟩
  simpa [List.getD, List.getElem?_eq_getElem h] using hd

/-- Numbers from lo on, below d, that rise. -/
def riseB (d : Int) : Int → List Int → Bool
  | _, [] => true
  | lo, x :: xs => decide (lo ≤ x ∧ x < d) && riseB d (x + 1) xs

/-- Depths of a place. -/
def depB (d : Int) (xs : List Int) : Bool := decide (xs.length ≠ 0) && riseB d 0 xs

/-- Pins. -/
def pinsB (d : Int) (ks : List (List Int)) : Bool := inB d 1 9 && inB (ks.length : Int) 1 7 && ks.all (depB d)

theorem rise_yes {d lo x : Int} {xs : List Int} (h : riseB d lo (x :: xs) = true) : lo ≤ x ∧ x < d ∧ riseB d (x + 1) xs = true := by
  unfold riseB at h
  rw [Bool.and_eq_true, decide_eq_true_eq] at h
  exact ⟨h.1.1, h.1.2, h.2⟩

theorem rise_mem {d : Int} {xs : List Int} : ∀ {lo : Int}, riseB d lo xs = true → ∀ x, x ∈ xs → lo ≤ x ∧ x < d := by
  induction xs with
  | nil => intro lo _ x hx; cases hx
  | cons y ys ih =>
    intro lo h x hx
    obtain ⟨h1, h2, h3⟩ := rise_yes h
    rcases List.mem_cons.1 hx with e | hx
    · subst e; exact ⟨h1, h2⟩
    · have := ih h3 x hx
      exact ⟨by omega, this.2⟩

/-- Two lists that rise and hold the same are the same. -/
theorem rise_ext {d : Int} {xs : List Int} : ∀ {ys : List Int} {lo : Int}, riseB d lo xs = true → riseB d lo ys = true → (∀ x, x ∈ xs ↔ x ∈ ys) → xs = ys := by
  induction xs with
  | nil =>
    intro ys lo _ _ h
    cases ys with
    | nil => rfl
    | cons y ys => exact absurd ((h y).2 List.mem_cons_self) (fun h => by cases h)
  | cons x xs ih =>
    intro ys lo hx hy h
    cases ys with
    | nil => exact absurd ((h x).1 List.mem_cons_self) (fun h => by cases h)
    | cons y ys =>
      obtain ⟨a1, a2, a3⟩ := rise_yes hx
      obtain ⟨b1, b2, b3⟩ := rise_yes hy
      have e : x = y := by
        rcases List.mem_cons.1 ((h x).1 List.mem_cons_self) with e | e
        · exact e
        · rcases List.mem_cons.1 ((h y).2 List.mem_cons_self) with e2 | e2
          · exact e2.symm
          · have := (rise_mem b3 x e).1
            have := (rise_mem a3 y e2).1
            omega
      subst e
      rw [ih a3 b3 fun z => ?_]
      constructor
      · intro hz
        rcases List.mem_cons.1 ((h z).1 (List.mem_cons_of_mem _ hz)) with e | e
        · have := (rise_mem a3 z hz).1; omega
        · exact e
      · intro hz
        rcases List.mem_cons.1 ((h z).2 (List.mem_cons_of_mem _ hz)) with e | e
        · have := (rise_mem b3 z hz).1; omega
        · exact e

/-- The numbers below n that are told. -/
def lsN (P : Nat → Bool) : Nat → List Int
  | 0 => []
  | k + 1 => if P k then lsN P k ++ [(k : Int)] else lsN P k

theorem lsN_mem {P : Nat → Bool} {n : Nat} {x : Int} : x ∈ lsN P n ↔ ∃ e : Nat, e < n ∧ x = (e : Int) ∧ P e = true := by
  induction n with
  | zero => exact ⟨(fun h => by cases h), fun ⟨e, h, _⟩ => by omega⟩
  | succ n ih =>
    rw [lsN]
    split
    · rename_i hp
      rw [List.mem_append, List.mem_singleton, ih]
      constructor
      · rintro (⟨e, h1, h2, h3⟩ | h)
        · exact ⟨e, by omega, h2, h3⟩
        · exact ⟨n, by omega, h, hp⟩
      · rintro ⟨e, h1, h2, h3⟩
        by_cases he : e = n
        · subst he; exact .inr h2
        · exact .inl ⟨e, by omega, h2, h3⟩
    · rename_i hp
      rw [ih]
      constructor
      · rintro ⟨e, h1, h2, h3⟩; exact ⟨e, by omega, h2, h3⟩
      · rintro ⟨e, h1, h2, h3⟩
        by_cases he : e = n
        · subst he; exact absurd h3 hp
        · exact ⟨e, by omega, h2, h3⟩

theorem rise_snoc {d x : Int} {xs : List Int} : ∀ {lo : Int}, riseB d lo xs = true → (∀ y, y ∈ xs → y < x) → lo ≤ x → x < d → riseB d lo (xs ++ [x]) = true := by
  induction xs with
  | nil => intro lo _ _ h1 h2; show (decide (lo ≤ x ∧ x < d) && true) = true; rw [decide_eq_true ⟨h1, h2⟩]; rfl
  | cons y ys ih =>
    intro lo h hy h1 h2
    obtain ⟨a1, a2, a3⟩ := rise_yes h
    show (decide (lo ≤ y ∧ y < d) && riseB d (y + 1) (ys ++ [x])) = true
    rw [decide_eq_true ⟨a1, a2⟩, ih a3 (fun z hz => hy z (List.mem_cons_of_mem _ hz)) (by have := hy y List.mem_cons_self; omega) h2]
    rfl

theorem rise_more {d d' : Int} {xs : List Int} (hd : d ≤ d') : ∀ {lo : Int}, riseB d lo xs = true → riseB d' lo xs = true := by
  induction xs with
  | nil => intro lo _; rfl
  | cons y ys ih =>
    intro lo h
    obtain ⟨a1, a2, a3⟩ := rise_yes h
    show (decide (lo ≤ y ∧ y < d') && riseB d' (y + 1) ys) = true
    rw [decide_eq_true ⟨a1, by omega⟩, ih a3]
    rfl

theorem lsN_rise (P : Nat → Bool) (n : Nat) : riseB (n : Int) 0 (lsN P n) = true := by
  induction n with
  | zero => rfl
  | succ n ih =>
    rw [lsN]
    split
    · refine rise_snoc (rise_more (by omega) ih) (fun y hy => ?_) (by omega) (by omega)
      obtain ⟨e, h1, h2, _⟩ := lsN_mem.1 hy
      omega
    · exact rise_more (by omega) ih

/-- A number is in a list. -/
def hasB (xs : List Int) (e : Nat) : Bool := decide ((e : Int) ∈ xs)

theorem lsN_has {P : Nat → Bool} {n e : Nat} (h : e < n) : hasB (lsN P n) e = P e := by
  unfold hasB
  rw [Bool.eq_iff_iff, decide_eq_true_eq, lsN_mem]
  constructor
  · rintro ⟨f, h1, h2, h3⟩
    obtain rfl : e = f := by omega
    exact h3
  · intro hp; exact ⟨e, h, rfl, hp⟩

/-- A list that rises is told by what is in it. -/
theorem rise_eq {d : Nat} {xs : List Int} (h : riseB (d : Int) 0 xs = true) : lsN (hasB xs) d = xs := by
  refine rise_ext (lsN_rise _ _) h fun x => ?_
  rw [lsN_mem]
  constructor
  · rintro ⟨e, _, rfl, h3⟩; exact of_decide_eq_true h3
  · intro hx
    obtain ⟨h1, h2⟩ := rise_mem h x hx
    refine ⟨x.toNat, by omega, by omega, decide_eq_true ?_⟩
    rw [show ((x.toNat : Nat) : Int) = x by omega]
    exact hx

theorem lsN_congr {P Q : Nat → Bool} {n : Nat} (h : ∀ e, e < n → P e = Q e) : lsN P n = lsN Q n := by
  induction n with
  | zero => rfl
  | succ n ih => rw [lsN, lsN, ih fun e he => h e (by omega), h n (by omega)]

theorem lsN_length (P : Nat → Bool) (n : Nat) : (lsN P n).length ≤ n := by
  induction n with
  | zero => exact Nat.le_refl _
  | succ n ih =>
    rw [lsN]
    split
    · rw [List.length_append, List.length_singleton]; omega
    · omega

/-- So many lists. -/
def rwL (f : Nat → List Int) : Nat → List (List Int)
  | 0 => []
  | k + 1 => rwL f k ++ [f k]

theorem rwL_length (f : Nat → List Int) (n : Nat) : (rwL f n).length = n := by
  induction n with
  | zero => rfl
  | succ n ih => rw [rwL, List.length_append, ih]; rfl

theorem rwL_at {f : Nat → List Int} {n i : Nat} (h : i < n) : (rwL f n).getD i [] = f i := by
  induction n with
  | zero => omega
  | succ n ih =>
    rw [rwL]
    by_cases e : i = n
    · subst e
      simp [List.getD, rwL_length]
    · rw [List.getD, List.getElem?_append_left (by rw [rwL_length]; omega)]
      exact ih (by omega)

theorem lists_ext {xs ys : List (List Int)} (hl : xs.length = ys.length) (h : ∀ i, i < xs.length → xs.getD i [] = ys.getD i []) : xs = ys := by
  refine List.ext_getElem hl fun i h1 h2 => ?_
  have := h i h1
  simpa [List.getD, List.getElem?_eq_getElem h1, List.getElem?_eq_getElem h2] using this

theorem rwL_congr {f g : Nat → List Int} {n : Nat} (h : ∀ i, i < n → f i = g i) : rwL f n = rwL g n := by
  induction n with
  | zero => rfl
  | succ n ih => rw [rwL, rwL, ih fun i hi => h i (by omega), h n (by omega)]

theorem rwL_self (ks : List (List Int)) : rwL (fun i => ks.getD i []) ks.length = ks :=
  lists_ext (rwL_length _ _) fun i hi => rwL_at (by rwa [rwL_length] at hi)

/-- A list's mask. -/
def mkN : List Int → Nat
  | [] => 0
  | x :: xs => mkN xs ||| 2 ^ x.toNat

/-- The mask of the first k numbers. -/
def mkT (xs : List Int) : Nat → Nat
  | 0 => 0
  | k + 1 => mkT xs k ||| 2 ^ (xs.getD k 0).toNat

/-- All numbers are from 0 to 8. -/
def Small (xs : List Int) : Prop := ∀ x, x ∈ xs → 0 ≤ x ∧ x < 9

theorem small_at {xs : List Int} (h : Small xs) {k : Nat} (hk : k < xs.length) : 0 ≤ xs.getD k 0 ∧ xs.getD k 0 < 9 := by
  refine h _ ?_
  simp only [List.getD, List.getElem?_eq_getElem hk, Option.getD_some]
  exact List.getElem_mem _

theorem small_rise {d lo : Int} {xs : List Int} (h0 : 0 ≤ lo) (hd : d ≤ 9) (h : riseB d lo xs = true) : Small xs := fun x hx => by
  have := rise_mem h x hx; omega

theorem small_lsN {P : Nat → Bool} {n : Nat} (h : n ≤ 9) : Small (lsN P n) := small_rise (Int.le_refl 0) (by omega) (lsN_rise P n)

theorem mkT_lt {xs : List Int} (h : Small xs) {k : Nat} (hk : k ≤ xs.length) : mkT xs k < 2 ^ 9 := by
  induction k with
  | zero => show (0 : Nat) < 2 ^ 9; decide
  | succ k ih =>
    rw [mkT]
    have := small_at h (show k < xs.length by omega)
    exact Nat.or_lt_two_pow (ih (by omega)) (Nat.pow_lt_pow_right (by decide) (by omega))

theorem mkT_bit {xs : List Int} (h : Small xs) {k e : Nat} (hk : k ≤ xs.length) : (mkT xs k).testBit e = decide (∃ i, i < k ∧ xs.getD i 0 = (e : Int)) := by
  induction k with
  | zero => rw [mkT, Nat.zero_testBit]; exact (decide_eq_false (fun ⟨i, h, _⟩ => by omega)).symm
  | succ k ih =>
    rw [mkT, Nat.testBit_or, ih (by omega), Nat.testBit_two_pow]
    have := small_at h (show k < xs.length by omega)
    rw [Bool.eq_iff_iff, Bool.or_eq_true, decide_eq_true_eq, decide_eq_true_eq, decide_eq_true_eq]
    constructor
    · rintro (⟨i, h1, h2⟩ | h1)
      · exact ⟨i, by omega, h2⟩
      · exact ⟨k, by omega, by omega⟩
    · rintro ⟨i, h1, h2⟩
      by_cases e1 : i = k
      · subst e1; exact .inr (by omega)
      · exact .inl ⟨i, by omega, h2⟩

/-- The mask of a list tells what is in it. -/
theorem mk_bit {xs : List Int} (h : Small xs) (e : Nat) : (mkT xs xs.length).testBit e = hasB xs e := by
  rw [mkT_bit h (Nat.le_refl _), hasB]
  refine decide_eq_decide.2 ⟨fun ⟨i, h1, h2⟩ => ?_, fun hm => ?_⟩
  · rw [← h2]
    simp only [List.getD, List.getElem?_eq_getElem h1, Option.getD_some]
    exact List.getElem_mem _
  · obtain ⟨i, h1, h2⟩ := List.getElem_of_mem hm
    exact ⟨i, h1, by simp only [List.getD, List.getElem?_eq_getElem h1, Option.getD_some]; exact h2⟩

/-- The mask of a place. -/
def mkP (ks : List (List Int)) (i : Nat) : Nat := mkT (ks.getD i []) (ks.getD i []).length

/-- All lists' numbers are from 0 to 8. -/
def SmallP (ks : List (List Int)) : Prop := ∀ i, i < ks.length → Small (ks.getD i [])

theorem smallP_any {ks : List (List Int)} (h : SmallP ks) (i : Nat) : Small (ks.getD i []) := by
  by_cases hi : i < ks.length
  · exact h i hi
  · simp only [List.getD, List.getElem?_eq_none (show ks.length ≤ i by omega), Option.getD_none]
    intro x hx; cases hx

theorem mkP_lt {ks : List (List Int)} (h : SmallP ks) (i : Nat) : mkP ks i < 2 ^ 9 := mkT_lt (smallP_any h i) (Nat.le_refl _)

theorem mkP_bit {ks : List (List Int)} (h : SmallP ks) (i e : Nat) : (mkP ks i).testBit e = hasB (ks.getD i []) e := mk_bit (smallP_any h i) e

theorem mkP_out {ks : List (List Int)} {i : Nat} (h : ks.length ≤ i) : mkP ks i = 0 := by
  unfold mkP
  simp only [List.getD, List.getElem?_eq_none h, Option.getD_none]
  rfl

/-- Two masks are the same if the lists hold the same. -/
theorem mkP_eq {ks ls : List (List Int)} (h1 : SmallP ks) (h2 : SmallP ls) (i : Nat) : mkP ks i = mkP ls i ↔ ∀ e, e < 9 → hasB (ks.getD i []) e = hasB (ls.getD i []) e := by
  constructor
  · intro h e _
    rw [← mkP_bit h1, ← mkP_bit h2, h]
  · intro h
    refine Nat.eq_of_testBit_eq fun e => ?_
    rw [mkP_bit h1, mkP_bit h2]
    by_cases he : e < 9
    · exact h e he
    · have no : ∀ xs : List Int, Small xs → hasB xs e = false := fun xs hs => decide_eq_false fun hm => by have := hs _ hm; omega
      rw [no _ (smallP_any h1 i), no _ (smallP_any h2 i)]

theorem pinsB_yes {d : Int} {ks : List (List Int)} (h : pinsB d ks = true) : 1 ≤ d ∧ d ≤ 9 ∧ 1 ≤ ks.length ∧ ks.length ≤ 7 ∧ ∀ i, i < ks.length → (ks.getD i []).length ≠ 0 ∧ riseB d 0 (ks.getD i []) = true := by
  unfold pinsB at h
  rw [Bool.and_eq_true, Bool.and_eq_true] at h
  obtain ⟨⟨h1, h2⟩, h3⟩ := h
  have a := of_decide_eq_true h1
  have b := of_decide_eq_true h2
  refine ⟨a.1, a.2, by omega, by omega, fun i hi => ?_⟩
  have := List.all_eq_true.1 h3 ks[i] (List.getElem_mem _)
  simp only [List.getD, List.getElem?_eq_getElem hi, Option.getD_some]
  unfold depB at this
  rw [Bool.and_eq_true, decide_eq_true_eq] at this
  exact this

theorem pins_small {d : Int} {ks : List (List Int)} (h : pinsB d ks = true) : SmallP ks := fun i hi => by
  obtain ⟨_, h2, _, _, h5⟩ := pinsB_yes h
  exact small_rise (Int.le_refl 0) h2 (h5 i hi).2

theorem rise_len {d : Int} {xs : List Int} : ∀ {lo : Int}, riseB d lo xs = true → lo ≤ d → (xs.length : Int) ≤ d - lo := by
  induction xs with
  | nil => intro lo _ h; simp; omega
  | cons y ys ih =>
    intro lo h hl
    obtain ⟨a1, a2, a3⟩ := rise_yes h
    have := ih a3 (by omega)
    rw [List.length_cons]; omega

theorem i64_wrap (n : Int) (h0 : 0 ≤ n) (h1 : n < 2 ^ 9) : IntKind.i64.wrap n = n := by rw [IntKind.wrap_i64]; omega

theorem and_small {a b : Nat} (ha : a < 2 ^ 9) (hb : b < 2 ^ 9) : bits .and .i64 (a : Int) (b : Int) = ((a &&& b : Nat) : Int) := (bits_nat .i64 9 (by decide) i64_wrap a b ha hb).1

theorem or_small {a b : Nat} (ha : a < 2 ^ 9) (hb : b < 2 ^ 9) : bits .or .i64 (a : Int) (b : Int) = ((a ||| b : Nat) : Int) := (bits_nat .i64 9 (by decide) i64_wrap a b ha hb).2

end Go.Proofs.YtgdjbclkdnmebaaDoor
