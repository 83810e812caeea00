/- Keys of the master that open no pins of a list: the mathematics. For pins of one kind. -/
import Derived.Test.YtaajklkldfgppaaVw
namespace Go.Proofs.Ytaajklkldfgppaa
open Go.ChangeShapes Go.WideShapes Go.ChangeAt Go.RowKit Go.Joins

/-- The places of a number's bits. -/
def ixL (b n : Nat) : List Nat := (List.range n).filter (fun i => b.testBit i)

theorem ixL_zero (b : Nat) : ixL b 0 = [] := rfl

theorem ixL_yes {b n : Nat} (h : b.testBit n = true) : ixL b (n + 1) = ixL b n ++ [n] := by
  unfold ixL
  rw [List.range_succ, List.filter_append]
  simp [h]

theorem ixL_no {b n : Nat} (h : b.testBit n = false) : ixL b (n + 1) = ixL b n := by
  unfold ixL
  rw [List.range_succ, List.filter_append]
  simp [h]

theorem ixL_lt {b n i : Nat} (h : i ∈ ixL b n) : i < n := by
  unfold ixL at h
  exact List.mem_range.1 (List.mem_filter.1 h).1

theorem ixL_length (b n : Nat) : (ixL b n).length ≤ n := by
  unfold ixL
  exact Nat.le_trans (List.length_filter_le _ _) (by rw [List.length_range]; exact Nat.le_refl _)

theorem ixL_some {b n : Nat} (h0 : b ≠ 0) (hb : b < 2 ^ n) : ixL b n ≠ [] := fun h => h0 (Nat.eq_of_testBit_eq fun i => by
  rw [Nat.zero_testBit]
  by_cases hi : i < n
  · cases e : b.testBit i with
    | false => rfl
    | true =>
      have : i ∈ ixL b n := List.mem_filter.2 ⟨List.mem_range.2 hi, e⟩
      rw [h] at this
      cases this
  · exact Nat.testBit_lt_two_pow (Nat.lt_of_lt_of_le hb (Nat.pow_le_pow_right (by decide) (by omega))))

/-- The pins of a list that a number's bits name. -/
def sbP (ps : List Pn) (b : Nat) : List Pn := (ixL b ps.length).map (fun k => ps.getD k pn0)

theorem ixL_cons (b n : Nat) : ixL b (n + 1) = (if b.testBit 0 then [0] else []) ++ (ixL (b / 2) n).map (· + 1) := by
  unfold ixL
  rw [List.range_succ_eq_map, List.filter_cons, List.filter_map]
  have e : ((fun i => b.testBit i) ∘ Nat.succ) = fun i => (b / 2).testBit i := by
    funext i
    show b.testBit (i + 1) = _
    rw [Nat.testBit_succ]
  rw [e]
  cases b.testBit 0 <;> rfl

theorem sbP_even (q : Pn) (qs : List Pn) (b : Nat) : sbP (q :: qs) (2 * b) = sbP qs b := by
  unfold sbP
  rw [List.length_cons, ixL_cons, Nat.testBit_zero, show 2 * b / 2 = b by omega, if_neg (by simp), List.nil_append, List.map_map]
  rfl

theorem sbP_odd (q : Pn) (qs : List Pn) (b : Nat) : sbP (q :: qs) (2 * b + 1) = q :: sbP qs b := by
  unfold sbP
  rw [List.length_cons, ixL_cons, Nat.testBit_zero, show (2 * b + 1) / 2 = b by omega, if_pos (by simp), List.map_append, List.map_map]
  rfl

/-- What pins and those of a list share. -/
def itL (d n : Nat) (K : List (List Int)) (S : List Pn) : List (List Int) := S.foldl (fun K q => jnL (fun x y => x && y) d K q.2 n) K

theorem itL_nine {d n : Nat} (hd : d ≤ 9) {K : List (List Int)} (h : Nine K) (S : List Pn) : Nine (itL d n K S) := by
  induction S generalizing K with
  | nil => exact h
  | cons q S ih => exact ih (K := jnL (fun x y => x && y) d K q.2 n) (jnL_nine hd)

/-- How many keys open K but none of a list. -/
def ghI (d n : Nat) : List Pn → List (List Int) → Int
  | [], K => (ctP K n : Int)
  | q :: qs, K => ghI d n qs K - ghI d n qs (jnL (fun x y => x && y) d K q.2 n)

def smI (f : Nat → Int) : Nat → Int
  | 0 => 0
  | k + 1 => smI f k + f k

theorem smI_congr {f g : Nat → Int} {m : Nat} (h : ∀ b, b < m → f b = g b) : smI f m = smI g m := by
  induction m with
  | zero => rfl
  | succ m ih => rw [smI, smI, ih (fun b hb => h b (by omega)), h m (by omega)]

theorem smI_pairs (f : Nat → Int) (m : Nat) : smI f (2 * m) = smI (fun b => f (2 * b) + f (2 * b + 1)) m := by
  induction m with
  | zero => rfl
  | succ m ih => rw [show 2 * (m + 1) = 2 * m + 1 + 1 by omega, smI, smI, ih, smI]; omega

theorem smI_sub (f g : Nat → Int) (m : Nat) : smI (fun b => f b - g b) m = smI f m - smI g m := by
  induction m with
  | zero => rfl
  | succ m ih => rw [smI, smI, smI, ih]; omega

theorem smI_le {f : Nat → Int} {B : Nat} (h : ∀ b, -(B : Int) ≤ f b ∧ f b ≤ B) (m : Nat) : -((m * B : Nat) : Int) ≤ smI f m ∧ smI f m ≤ (m * B : Nat) := by
  induction m with
  | zero => simp [smI]
  | succ m ih =>
    have := h m
    rw [smI, Nat.succ_mul]
    omega

/-- What the bits' pins count for. -/
def tmI (d n : Nat) (ps : List Pn) (K : List (List Int)) (b : Nat) : Int := if (sbP ps b).length % 2 = 1 then -(ctP (itL d n K (sbP ps b)) n : Int) else (ctP (itL d n K (sbP ps b)) n : Int)

theorem gh_sum (d n : Nat) (ps : List Pn) : ∀ K, smI (tmI d n ps K) (2 ^ ps.length) = ghI d n ps K := by
  induction ps with
  | nil => intro K; show (0 : Int) + tmI d n [] K 0 = _; rw [Int.zero_add]; rfl
  | cons q qs ih =>
    intro K
    rw [List.length_cons, Nat.pow_succ, Nat.mul_comm, smI_pairs, ghI, ← ih, ← ih, ← smI_sub]
    refine smI_congr fun b _ => ?_
    have e1 : tmI d n (q :: qs) K (2 * b) = tmI d n qs K b := by unfold tmI; rw [sbP_even]
    have e2 : tmI d n (q :: qs) K (2 * b + 1) = -tmI d n qs (jnL (fun x y => x && y) d K q.2 n) b := by
      unfold tmI
      rw [sbP_odd]
      show (if ((sbP qs b).length + 1) % 2 = 1 then -(ctP (itL d n (jnL (fun x y => x && y) d K q.2 n) (sbP qs b)) n : Int) else (ctP (itL d n (jnL (fun x y => x && y) d K q.2 n) (sbP qs b)) n : Int)) = _
      by_cases h : (sbP qs b).length % 2 = 1
      · rw [if_neg (by omega), if_pos h, Int.neg_neg]
      · rw [if_pos (by omega), if_neg h]
    rw [e1, e2]
    rfl

theorem tmI_le {d n : Nat} (hd : d ≤ 9) (hn : n ≤ 7) {ps : List Pn} {K : List (List Int)} (h : Nine K) (b : Nat) : -((4782969 : Nat) : Int) ≤ tmI d n ps K b ∧ tmI d n ps K b ≤ (4782969 : Nat) := by
  have h1 := ctP_le (itL_nine (n := n) hd h (sbP ps b)) n
  have h2 := pow9_le hn
  unfold tmI
  split <;> omega

theorem ghI_le {d n : Nat} (hd : d ≤ 9) (hn : n ≤ 7) {ps : List Pn} (hp : ps.length ≤ 6) {K : List (List Int)} (h : Nine K) : -(306110016 : Int) ≤ ghI d n ps K ∧ ghI d n ps K ≤ 306110016 := by
  rw [← gh_sum]
  have h1 := smI_le (tmI_le hd hn (ps := ps) h) (2 ^ ps.length)
  have h2 : 2 ^ ps.length * 4782969 ≤ 2 ^ 6 * 4782969 := Nat.mul_le_mul_right _ (Nat.pow_le_pow_right (by decide) hp)
  have h3 : 2 ^ 6 * 4782969 = 306110016 := by decide
  omega

/-- The pins of a list joined are a fold. -/
theorem cbN_fold (f : Bool → Bool → Bool) (ps : List Pn) (k : Nat) (hk : k ≤ ps.length) : cbN f ps k = (ps.take k).foldl (fun K q => jnL f (ps.getD 0 pn0).1.toNat K q.2 (ps.getD 0 pn0).2.length) (ps.getD 0 pn0).2 := by
  induction k with
  | zero => rfl
  | succ k ih =>
    rw [cbN, ih (by omega), List.take_succ_eq_append_getElem (by omega), List.foldl_append]
    simp [List.getD, List.getElem?_eq_getElem (show k < ps.length by omega)]

theorem jnL_has {f : Bool → Bool → Bool} {d n : Nat} {ks ls : List (List Int)} {i e : Nat} (hi : i < n) (he : e < d) : hasB ((jnL f d ks ls n).getD i []) e = f (hasB (ks.getD i []) e) (hasB (ls.getD i []) e) := by
  unfold jnL
  rw [rwL_at hi, lsN_has he]

/-- The master has what each has. -/
theorem master_has {ps : List Pn} {i e k : Nat} (hi : i < (ps.getD 0 pn0).2.length) (he : e < (ps.getD 0 pn0).1.toNat) (h : hasB ((ps.getD k pn0).2.getD i []) e = true) (j : Nat) (hj : k < j) : hasB ((cbN (fun x y => x || y) ps j).getD i []) e = true := by
  induction j with
  | zero => omega
  | succ j ih =>
    rw [cbN, jnL_has hi he]
    by_cases hk : k = j
    · subst hk; rw [h]; exact Bool.or_true _
    · rw [ih (by omega)]; rfl

theorem sbP_at {ps : List Pn} {b j : Nat} (hj : j < (sbP ps b).length) : ∃ k, k < ps.length ∧ (sbP ps b).getD j pn0 = ps.getD k pn0 := by
  unfold sbP at hj ⊢
  rw [List.length_map] at hj
  refine ⟨(ixL b ps.length)[j], ixL_lt (List.getElem_mem _), ?_⟩
  simp [List.getD, List.getElem?_map, List.getElem?_eq_getElem hj]

theorem sbP_length (ps : List Pn) (b : Nat) : (sbP ps b).length = (ixL b ps.length).length := by unfold sbP; rw [List.length_map]

/-- Some pins of a list of one kind. -/
theorem sbP_list {ps : List Pn} {b : Nat} (h : listB ps = true) (hs : (sbP ps b).length ≠ 0) : listB (sbP ps b) = true ∧ ((sbP ps b).getD 0 pn0).1 = (ps.getD 0 pn0).1 ∧ ((sbP ps b).getD 0 pn0).2.length = (ps.getD 0 pn0).2.length := by
  obtain ⟨l1, l6, lk⟩ := listB_yes h
  have hl : (sbP ps b).length ≤ 6 := by rw [sbP_length]; have := ixL_length b ps.length; omega
  obtain ⟨k0, hk0, e0⟩ := sbP_at (show 0 < (sbP ps b).length by omega)
  obtain ⟨p0, d0, n0⟩ := okP_yes (lk k0 hk0)
  refine ⟨?_, by rw [e0]; exact d0, by rw [e0]; exact n0⟩
  unfold listB
  rw [Bool.and_eq_true]
  refine ⟨decide_eq_true (by omega), List.all_eq_true.2 fun q hq => ?_⟩
  obtain ⟨j, hj, rfl⟩ := List.getElem_of_mem hq
  obtain ⟨k, hk, ek⟩ := sbP_at hj
  have ej : (sbP ps b)[j] = ps.getD k pn0 := by rw [← ek]; simp [List.getD, List.getElem?_eq_getElem hj]
  obtain ⟨pk, dk, nk⟩ := okP_yes (lk k hk)
  unfold okP kindB
  rw [ej, pk, e0, dk, nk, d0, n0]
  simp

/-- What some pins share with the master is what they share. -/
theorem some_count {ps : List Pn} {b : Nat} (h : listB ps = true) (hs : (sbP ps b).length ≠ 0) : cbN (fun x y => x && y) (sbP ps b) (sbP ps b).length = itL (ps.getD 0 pn0).1.toNat (ps.getD 0 pn0).2.length (cbN (fun x y => x || y) ps ps.length) (sbP ps b) := by
  obtain ⟨hL, e1, e2⟩ := sbP_list h hs
  rw [cbN_fold _ _ _ (Nat.le_refl _), List.take_length, e1, e2]
  obtain ⟨k0, hk0, e0⟩ := sbP_at (show 0 < (sbP ps b).length by omega)
  unfold itL
  cases hS : sbP ps b with
  | nil => rw [hS] at hs; exact absurd rfl hs
  | cons s S =>
    have es : s = ps.getD k0 pn0 := by rw [← e0, hS]; rfl
    show List.foldl _ (jnL _ _ s.2 s.2 _) S = List.foldl _ (jnL _ _ (cbN _ ps ps.length) s.2 _) S
    congr 1
    unfold jnL
    refine rwL_congr fun i hi => lsN_congr fun e he => ?_
    cases hb : hasB (s.2.getD i []) e with
    | false => simp
    | true => rw [master_has hi he (by rw [← es]; exact hb) ps.length hk0]

/-- How many keys open the master of a list but none of its pins. -/
def ghZ (ps : List Pn) : Int := if listB ps then ghI (ps.getD 0 pn0).1.toNat (ps.getD 0 pn0).2.length ps (cbN (fun x y => x || y) ps ps.length) else 0

end Go.Proofs.Ytaajklkldfgppaa
