/- Clues, puzzles and their solutions: the numbers. No conditions beyond those of each lemma. -/
import Derived.Test.YtgdjbclkdnmebaaDoorHl
import Derived.Test.YtgdjbclkdnmebaaDoorFewest
import Derived.Test.YtgdjbclkdnmebaaDoorNb
namespace Go.Proofs.YtgdjbclkdnmebaaDoor
open Go.ChangeShapes Go.WideShapes Go.ChangeAt Go.RowKit Go.Joins

/-- A clue: its kind, its A, its B. -/
abbrev Clu := Int × Int × Int

abbrev cu0 : Clu := (0, 0, 0)

/-- There is a lock of puzzles. -/
def puzB (a b : Int) : Bool := limB 125 a b

theorem puzB_yes {a b : Int} (h : puzB a b = true) : goodB a b = true ∧ countZ a b ≤ 125 := by
  unfold puzB limB at h
  rw [Bool.and_eq_true, decide_eq_true_eq] at h
  exact h

theorem puzB_cn {a b : Int} (h : puzB a b = true) : ((cnN a b : Nat) : Int) = countZ a b ∧ cnN a b ≤ 125 := by
  obtain ⟨h1, h2⟩ := puzB_yes h
  have hg := good_yes h1
  obtain ⟨n, rfl⟩ : ∃ n : Nat, a = n := ⟨a.toNat, by omega⟩
  have h3 := cnN_cast h1
  rw [Int.toNat_natCast] at h3
  have h4 := countZ_yes h1
  omega

/-- A clue of a lock. -/
def cluB (a b : Int) (c : Clu) : Bool :=
  if c.1 = 0 then inB c.2.1 0 (a - 1) && inB c.2.2 0 (b - 1)
  else if c.1 = 1 then inB c.2.1 0 60 && inB c.2.2 0 0
  else if c.1 = 2 then inB c.2.1 0 (countZ a b - 1) && inB c.2.2 0 a
  else if c.1 = 3 then inB c.2.1 0 (countZ a b - 1) && inB c.2.2 0 60
  else if c.1 = 4 then inB c.2.1 2 9 && inB c.2.2 0 (c.2.1 - 1)
  else false

theorem inB_yes {n lo hi : Int} (h : inB n lo hi = true) : lo ≤ n ∧ n ≤ hi := of_decide_eq_true h

theorem cluB_0 {a b x y : Int} : cluB a b (0, x, y) = (inB x 0 (a - 1) && inB y 0 (b - 1)) := rfl
theorem cluB_1 {a b x y : Int} : cluB a b (1, x, y) = (inB x 0 60 && inB y 0 0) := rfl
theorem cluB_2 {a b x y : Int} : cluB a b (2, x, y) = (inB x 0 (countZ a b - 1) && inB y 0 a) := rfl
theorem cluB_3 {a b x y : Int} : cluB a b (3, x, y) = (inB x 0 (countZ a b - 1) && inB y 0 60) := rfl
theorem cluB_4 {a b x y : Int} : cluB a b (4, x, y) = (inB x 2 9 && inB y 0 (x - 1)) := rfl
theorem cluB_no {a b k x y : Int} (h0 : k ≠ 0) (h1 : k ≠ 1) (h2 : k ≠ 2) (h3 : k ≠ 3) (h4 : k ≠ 4) : cluB a b (k, x, y) = false := by
  unfold cluB
  rw [if_neg h0, if_neg h1, if_neg h2, if_neg h3, if_neg h4]

theorem cluB_kind {a b : Int} {c : Clu} (h : cluB a b c = true) : c.1 = 0 ∨ c.1 = 1 ∨ c.1 = 2 ∨ c.1 = 3 ∨ c.1 = 4 := by
  by_cases h0 : c.1 = 0
  · exact .inl h0
  by_cases h1 : c.1 = 1
  · exact .inr (.inl h1)
  by_cases h2 : c.1 = 2
  · exact .inr (.inr (.inl h2))
  by_cases h3 : c.1 = 3
  · exact .inr (.inr (.inr (.inl h3)))
  by_cases h4 : c.1 = 4
  · exact .inr (.inr (.inr (.inr h4)))
  rw [show c = (c.1, c.2.1, c.2.2) from rfl, cluB_no h0 h1 h2 h3 h4] at h
  cases h

/-- There is a puzzle. -/
def pzB (a b : Int) (cs : List Clu) : Bool := puzB a b && decide (cs.length ≤ 6) && cs.all (cluB a b)

theorem pzB_yes {a b : Int} {cs : List Clu} (h : pzB a b cs = true) : puzB a b = true ∧ cs.length ≤ 6 ∧ cs.all (cluB a b) = true := by
  unfold pzB at h
  rw [Bool.and_eq_true, Bool.and_eq_true, decide_eq_true_eq] at h
  exact ⟨h.1.1, h.1.2, h.2⟩

theorem pzB_mk {a b : Int} {cs : List Clu} (h1 : puzB a b = true) (h2 : cs.length ≤ 6) (h3 : cs.all (cluB a b) = true) : pzB a b cs = true := by
  unfold pzB
  rw [h1, h3, decide_eq_true h2]; rfl

/-- What may be asked of a code: a wheel, a number of a code, a divisor. -/
def askC (a b k x : Int) : Bool :=
  if k = 0 then inB x 0 (a - 1) else if k = 1 then true else if k = 2 then inB x 0 (countZ a b - 1) else if k = 3 then inB x 0 (countZ a b - 1) else if k = 4 then inB x 2 9 else false

theorem cluB_ask {a b : Int} {c : Clu} (h : cluB a b c = true) : askC a b c.1 c.2.1 = true := by
  obtain ⟨k, x, y⟩ := c
  rcases cluB_kind h with e | e | e | e | e <;> dsimp only at e <;> subst e
  · rw [cluB_0, Bool.and_eq_true] at h; exact h.1
  · rfl
  · rw [cluB_2, Bool.and_eq_true] at h; exact h.1
  · rw [cluB_3, Bool.and_eq_true] at h; exact h.1
  · rw [cluB_4, Bool.and_eq_true] at h; exact h.1

/-- What a clue of a kind tells of a code. -/
def pzV (a b k x : Int) (s : ByteArray) : Int :=
  if k = 0 then (dg s).getD x.toNat 0
  else if k = 1 then sumAt (dg s) s.size
  else if k = 2 then hiP (cdN a b x.toNat) s
  else if k = 3 then fewZ a b (cdN a b x.toNat) s
  else numZ a b s % x

/-- The clue of a kind that a code fits. -/
def clK (a b k x : Int) (s : ByteArray) : Clu := if k = 1 then (1, pzV a b 1 0 s, 0) else (k, x, pzV a b k x s)

/-- A code fits a clue. -/
def fitC (a b : Int) (s : ByteArray) (c : Clu) : Bool := if c.1 = 1 then decide (pzV a b 1 0 s = c.2.1) else decide (pzV a b c.1 c.2.1 s = c.2.2)

theorem fitC_sum {a b x y : Int} {s : ByteArray} : fitC a b s (1, x, y) = decide (pzV a b 1 0 s = x) := rfl

theorem fitC_other {a b k x y : Int} {s : ByteArray} (h : k ≠ 1) : fitC a b s (k, x, y) = decide (pzV a b k x s = y) := by unfold fitC; rw [if_neg h]

theorem fitC_clK {a b : Int} {c : Clu} {s : ByteArray} (h : cluB a b c = true) : fitC a b s c = decide (c = clK a b c.1 c.2.1 s) := by
  obtain ⟨k, x, y⟩ := c
  unfold clK
  by_cases h1 : k = 1
  · subst h1
    rw [if_pos rfl, fitC_sum]
    rw [cluB_1, Bool.and_eq_true] at h
    have := inB_yes h.2
    obtain rfl : y = 0 := by omega
    rw [Bool.eq_iff_iff, decide_eq_true_eq, decide_eq_true_eq, Prod.mk.injEq, Prod.mk.injEq]
    exact ⟨fun e => ⟨rfl, e.symm, rfl⟩, fun e => e.2.1.symm⟩
  · rw [if_neg h1, fitC_other h1, Bool.eq_iff_iff, decide_eq_true_eq, decide_eq_true_eq, Prod.mk.injEq, Prod.mk.injEq]
    exact ⟨fun e => ⟨rfl, rfl, e.symm⟩, fun e => e.2.2.symm⟩

/-- A code fits all clues. -/
def fitsC (a b : Int) (cs : List Clu) (s : ByteArray) : Bool := cs.all (fitC a b s)

/-- Of the first codes those that fit. -/
def solN (a b : Int) (cs : List Clu) (k : Nat) : List ByteArray := ((List.range k).map (cdN a b)).filter (fitsC a b cs)

/-- The codes that fit. -/
def solL (a b : Int) (cs : List Clu) : List ByteArray := solN a b cs (cnN a b)

theorem solN_yes {a b : Int} {cs : List Clu} {k : Nat} (h : fitsC a b cs (cdN a b k) = true) : solN a b cs (k + 1) = solN a b cs k ++ [cdN a b k] := by
  unfold solN
  rw [List.range_succ, List.map_append, List.filter_append, List.map_cons, List.map_nil, List.filter_cons_of_pos h, List.filter_nil]

theorem solN_no {a b : Int} {cs : List Clu} {k : Nat} (h : fitsC a b cs (cdN a b k) = false) : solN a b cs (k + 1) = solN a b cs k := by
  unfold solN
  rw [List.range_succ, List.map_append, List.filter_append, List.map_cons, List.map_nil, List.filter_cons_of_neg (by rw [h]; decide), List.filter_nil, List.append_nil]

theorem solN_length (a b : Int) (cs : List Clu) (k : Nat) : (solN a b cs k).length ≤ k := by
  unfold solN
  refine Nat.le_trans (List.length_filter_le _ _) ?_
  rw [List.length_map, List.length_range]
  exact Nat.le_refl _

theorem solL_length {a b : Int} (cs : List Clu) (h : puzB a b = true) : (solL a b cs).length ≤ 125 := Nat.le_trans (solN_length ..) (puzB_cn h).2

theorem solN_mem {a b : Int} {cs : List Clu} {k : Nat} {s : ByteArray} (h : s ∈ solN a b cs k) : ∃ i, i < k ∧ s = cdN a b i ∧ fitsC a b cs s = true := by
  unfold solN at h
  rw [List.mem_filter, List.mem_map] at h
  obtain ⟨⟨i, hi, rfl⟩, hf⟩ := h
  exact ⟨i, List.mem_range.1 hi, rfl, hf⟩

theorem solL_ask {a b : Int} {cs : List Clu} {s : ByteArray} (hg : goodB a b = true) (h : s ∈ solL a b cs) : askB a b s = true := by
  obtain ⟨i, _, rfl, _⟩ := solN_mem h
  exact cd_ask hg

theorem ofZ_cd {a b : Int} {i : Nat} (hg : goodB a b = true) (hi : i < cnN a b) : ofZ a b i = cdN a b i ∧ hasNum a b i = true := by
  have hg' := good_yes hg
  obtain ⟨n, rfl⟩ : ∃ n : Nat, a = n := ⟨a.toNat, by omega⟩
  have hc := cnN_cast hg
  rw [Int.toNat_natCast] at hc
  have h : hasNum n b i = true := by
    unfold hasNum inB
    rw [hg, countZ_yes hg, Bool.true_and, decide_eq_true_eq]
    omega
  refine ⟨?_, h⟩
  rw [ofZ_yes h]; rfl

theorem two_cd {a b : Int} {i : Nat} {s : ByteArray} (hs : askB a b s = true) : twoB a b (cdN a b i) s = true ∧ TwoD (cdN a b i) s := by
  have hg := (asked hs).good
  have hc := cd_ask (i := i) hg
  refine ⟨?_, twoD_of (asked hc) (asked hs)⟩
  unfold twoB
  rw [hc, hs]; rfl

end Go.Proofs.YtgdjbclkdnmebaaDoor
