/- The smooth key of a rank: the mathematics. For at most 9 depths. -/
import Derived.Test.YtaajklkldfgppaaZi
namespace Go.Proofs.Ytaajklkldfgppaa
open Go.ChangeShapes Go.WideShapes Go.ChangeAt Go.RowKit Go.Joins

/-- How many smooth keys have the digits x before place k and e there. -/
def wtN (m : Int) (dn n k : Nat) (x : Nat → Nat) (e : Nat) : Nat := if folB m x k e then gwN m dn (n - 1 - k) e else 0

theorem wtN_le {m : Int} {dn n k e : Nat} {x : Nat → Nat} (hd : dn ≤ 9) (hn : n ≤ 7) : wtN m dn n k x e ≤ 4782969 := by
  unfold wtN
  split
  · exact Nat.le_trans (gwN_le hd _ _) (pow9_le' (by omega))
  · exact Nat.zero_le _

/-- What the program counts with the depth t alone at place k. -/
theorem one_step {m : Int} {dn n k t : Nat} {x : Nat → Nat} {ks : List (List Int)} (hd : dn ≤ 9) (hk : k < n) (h : ∀ i, i < k → ks.getD i [] = [(x i : Int)]) (hx : ks.getD k [] = [(t : Int)]) (ht : ∀ i, k < i → i < n → ks.getD i [] = upL dn)
    (h9 : ∀ i, i < k → x i < dn) (h9t : t < dn) (hs : ∀ i, i + 1 < k → closeB m (x (i + 1)) (x i) = true) : toS (fwN m ks (n - 1)) 0 9 = wtN m dn n k x t := by
  have e1 : fwN m ks (n - 1) = itA m dn (n - 1 - k) (fwN m ks k) := by
    have := fwN_tail (m := m) (dn := dn) (k := k) (ks := ks) (n - 1 - k) (fun j hj => ht _ (by omega) (by omega))
    rwa [show k + (n - 1 - k) = n - 1 by omega] at this
  have single : ∀ e : Nat, hasB [(t : Int)] e = decide (e = t) := fun e => by
    rw [has_singleG]
    exact decide_eq_decide.2 ⟨fun h => by omega, fun h => by omega⟩
  have e2 : ∀ e, fwN m ks k e = if e = t ∧ folB m x k t = true then 1 else 0 := fun e => by
    rcases k with _ | k
    · rw [fwN, hx, single]
      unfold folB
      by_cases he : e = t
      · rw [decide_eq_true he, if_pos rfl, if_pos ⟨he, by simp⟩]
      · rw [decide_eq_false he, if_neg (by decide), if_neg (fun h => he h.1)]
    · rw [fwN, hx, single, fwN_fixed k (fun i hi => h i (by omega)) (fun i hi => by have := h9 i (by omega); omega) (fun i hi => hs i (by omega)), scS_single]
      have e3 : folB m x (k + 1) t = closeB m t (x k) := by unfold folB; simp
      rw [e3]
      have := h9 k (by omega)
      by_cases he : e = t
      · subst he
        rw [decide_eq_true rfl, if_pos rfl]
        by_cases hc : closeB m e (x k) = true
        · rw [if_pos ⟨by omega, hc⟩, if_pos ⟨rfl, hc⟩]
        · rw [if_neg (fun h => hc h.2), if_neg (fun h => hc h.2)]
      · rw [decide_eq_false he, if_neg (by decide), if_neg (fun h => he h.1)]
  rw [e1, itA_sum hd _ _ (fun j hj => by rw [e2, if_neg (by omega)])]
  unfold wtN
  rw [toS_congr (n := 9) (g := fun e => if e = t then (if folB m x k t = true then gwN m dn (n - 1 - k) t else 0) else 0) (fun j _ => by
    rw [e2]
    by_cases he : j = t
    · subst he
      rw [if_pos rfl]
      by_cases hc : folB m x k j = true
      · rw [if_pos ⟨rfl, hc⟩, if_pos hc, Nat.one_mul]
      · rw [if_neg (fun h => hc h.2), if_neg hc, Nat.zero_mul]
    · rw [if_neg (fun h => he h.1), if_neg he, Nat.zero_mul]), toS_one, if_pos (by omega)]

theorem toS_front (f : Nat → Nat) (t c : Nat) : toS f t (c + 1) = f t + toS f (t + 1) c := by
  induction c with
  | zero => simp [toS]
  | succ c ih => rw [toS, ih, toS, show t + 1 + c = t + (c + 1) by omega]; omega

/-- The first depth from t on whose keys hold the r-th, and what is left of r. -/
def pkN (f : Nat → Nat) : Nat → Nat → Nat → Nat × Nat
  | 0, t, r => (t, r)
  | c + 1, t, r => if r < f t then (t, r) else pkN f c (t + 1) (r - f t)

theorem pkN_in {f : Nat → Nat} (c : Nat) : ∀ t r, r < toS f t c → (pkN f c t r).1 < t + c ∧ (pkN f c t r).2 < f (pkN f c t r).1 ∧ (pkN f c t r).2 ≤ r := by
  induction c with
  | zero => intro t r h; exact absurd h (Nat.not_lt_zero _)
  | succ c ih =>
    intro t r h
    rw [pkN]
    by_cases hr : r < f t
    · rw [if_pos hr]; exact ⟨by show t < t + (c + 1); omega, hr, Nat.le_refl _⟩
    · rw [if_neg hr]
      rw [toS_front] at h
      have := ih (t + 1) (r - f t) (by omega)
      exact ⟨by omega, this.2.1, by omega⟩

/-- The digits of the first k places, and what is left of r. -/
def skS (m : Int) (dn n r : Nat) : Nat → List Nat × Nat
  | 0 => ([], r)
  | k + 1 => ((skS m dn n r k).1 ++ [(pkN (wtN m dn n k (fun i => (skS m dn n r k).1.getD i 0)) dn 0 (skS m dn n r k).2).1], (pkN (wtN m dn n k (fun i => (skS m dn n r k).1.getD i 0)) dn 0 (skS m dn n r k).2).2)

def skX (m : Int) (dn n r k i : Nat) : Nat := (skS m dn n r k).1.getD i 0
def skR (m : Int) (dn n r k : Nat) : Nat := (skS m dn n r k).2
/-- The digits as numbers. -/
def skI (m : Int) (dn n r k : Nat) : List Int := (skS m dn n r k).1.map (fun a : Nat => (a : Int))
def skP (m : Int) (dn n r k : Nat) : Nat × Nat := pkN (wtN m dn n k (skX m dn n r k)) dn 0 (skR m dn n r k)

theorem skS_succ (m : Int) (dn n r k : Nat) : skS m dn n r (k + 1) = ((skS m dn n r k).1 ++ [(skP m dn n r k).1], (skP m dn n r k).2) := rfl

theorem skS_length (m : Int) (dn n r k : Nat) : (skS m dn n r k).1.length = k := by
  induction k with
  | zero => rfl
  | succ k ih => rw [skS_succ]; simp [ih]

theorem skI_length (m : Int) (dn n r k : Nat) : (skI m dn n r k).length = k := by unfold skI; rw [List.length_map, skS_length]

theorem skX_old {m : Int} {dn n r k i : Nat} (h : i < k) : skX m dn n r (k + 1) i = skX m dn n r k i := by
  unfold skX
  rw [skS_succ]
  show List.getD ((skS m dn n r k).1 ++ [(skP m dn n r k).1]) i 0 = _
  rw [List.getD, List.getD, List.getElem?_append_left (by rw [skS_length]; exact h)]

theorem skX_new (m : Int) (dn n r k : Nat) : skX m dn n r (k + 1) k = (skP m dn n r k).1 := by
  unfold skX
  rw [skS_succ]
  show List.getD ((skS m dn n r k).1 ++ [(skP m dn n r k).1]) k 0 = _
  rw [List.getD, List.getElem?_append_right (by rw [skS_length]; omega)]
  simp [skS_length]

theorem skI_succ (m : Int) (dn n r k : Nat) : skI m dn n r (k + 1) = skI m dn n r k ++ [((skP m dn n r k).1 : Int)] := by
  unfold skI
  rw [skS_succ, List.map_append]
  rfl

theorem skI_at {m : Int} {dn n r k i : Nat} (h : i < k) : (skI m dn n r k).getD i 0 = (skX m dn n r k i : Int) := by
  unfold skI skX
  have : i < (skS m dn n r k).1.length := by rw [skS_length]; exact h
  simp [List.getD, List.getElem?_eq_getElem this]

theorem skR_succ (m : Int) (dn n r k : Nat) : skR m dn n r (k + 1) = (skP m dn n r k).2 := rfl

theorem scS_to {m : Int} {e : Nat} {f : Nat → Nat} (n : Nat) : scS m e f n = toS (fun j => if closeB m j e then f j else 0) 0 n := by
  induction n with
  | zero => rfl
  | succ n ih => rw [scS, toS, ih, Nat.zero_add, close_comm]

/-- What holds of the digits found for a rank below the count. -/
theorem sk_all {m : Int} {dn n r : Nat} (hr : r < toS (gwN m dn (n - 1)) 0 dn) (k : Nat) (hk : k ≤ n) :
    (∀ i, i < k → skX m dn n r k i < dn) ∧ (∀ i, i + 1 < k → closeB m (skX m dn n r k (i + 1)) (skX m dn n r k i) = true) ∧ (k < n → skR m dn n r k < toS (wtN m dn n k (skX m dn n r k)) 0 dn) ∧ skR m dn n r k ≤ r := by
  induction k with
  | zero =>
    refine ⟨fun i hi => by omega, fun i hi => by omega, fun hn => ?_, Nat.le_refl _⟩
    rw [toS_congr (g := gwN m dn (n - 1)) (fun j _ => by unfold wtN folB; simp)]
    exact hr
  | succ k ih =>
    obtain ⟨h1, h2, h3, h4⟩ := ih (by omega)
    obtain ⟨p1, p2, p3⟩ := pkN_in dn 0 _ (h3 (by omega))
    change (skP m dn n r k).1 < 0 + dn at p1
    change (skP m dn n r k).2 < wtN m dn n k (skX m dn n r k) (skP m dn n r k).1 at p2
    change (skP m dn n r k).2 ≤ skR m dn n r k at p3
    have hfol : folB m (skX m dn n r k) k (skP m dn n r k).1 = true := by
      cases hf : folB m (skX m dn n r k) k (skP m dn n r k).1 with
      | true => rfl
      | false => unfold wtN at p2; rw [hf] at p2; simp at p2
    refine ⟨fun i hi => ?_, fun i hi => ?_, fun hn => ?_, by rw [skR_succ]; omega⟩
    · by_cases e : i = k
      · subst e; rw [skX_new]; omega
      · rw [skX_old (by omega)]; exact h1 i (by omega)
    · rw [skX_old (i := i) (by omega)]
      by_cases e : i + 1 = k
      · subst e
        rw [skX_new]
        unfold folB at hfol
        simpa using hfol
      · rw [skX_old (by omega)]; exact h2 i (by omega)
    · rw [skR_succ]
      have e1 : toS (wtN m dn n (k + 1) (skX m dn n r (k + 1))) 0 dn = gwN m dn (n - 1 - k) (skP m dn n r k).1 := by
        rw [show n - 1 - k = (n - 1 - (k + 1)) + 1 by omega, gwN, scS_to]
        refine toS_congr fun j _ => ?_
        unfold wtN folB
        rw [Nat.add_sub_cancel, skX_new, decide_eq_false (Nat.succ_ne_zero k), Bool.false_or]
      rw [e1]
      unfold wtN at p2
      rwa [hfol, if_pos rfl] at p2

/-- Whether there is a key of a rank, and that key. -/
def soB (d n m r : Int) : Bool := cmB d n m && decide (0 ≤ r) && decide (r < cmZ d n m)
def soS (d n m r : Int) : ByteArray := if soB d n m r then textOf (skI m d.toNat n.toNat r.toNat n.toNat) else ⟨#[]⟩

theorem rkL_fix {m : Int} {dn n r k : Nat} (hk : k < n) : (rkL (skI m dn n r k) dn n k).set k [((skP m dn n r k).1 : Int)] = rkL (skI m dn n r (k + 1)) dn n (k + 1) := by
  refine lists_ext (by rw [List.length_set, rkL_length, rkL_length]) fun i hi => ?_
  rw [List.length_set, rkL_length] at hi
  rw [rkL_at hi]
  by_cases e : i = k
  · subst e
    rw [getD_set_eq (by rw [rkL_length]; exact hk), if_pos (by omega), skI_at (by omega), skX_new]
  · rw [getD_set_ne e, rkL_at hi]
    by_cases h : i < k
    · rw [if_pos h, if_pos (by omega), skI_at h, skI_at (by omega), skX_old h]
    · rw [if_neg h, if_neg (by omega)]

theorem sk_count {m : Int} {dn n r k t : Nat} (hd : dn ≤ 9) (hr : r < toS (gwN m dn (n - 1)) 0 dn) (hk : k < n) (ht : t < dn) : toS (fwN m ((rkL (skI m dn n r k) dn n k).set k [(t : Int)]) (n - 1)) 0 9 = wtN m dn n k (skX m dn n r k) t := by
  obtain ⟨h1, h2, -, -⟩ := sk_all hr k (by omega)
  refine one_step hd hk (fun i hi => ?_) ?_ (fun i hi hn => ?_) h1 ht h2
  · rw [getD_set_ne (by omega), rkL_at (by omega), if_pos hi, skI_at hi]
  · rw [getD_set_eq (by rw [rkL_length]; exact hk)]
  · rw [getD_set_ne (by omega), rkL_at hn, if_neg (by omega)]

theorem sk_small {m : Int} {dn n r k t : Nat} (hd : dn ≤ 9) (hr : r < toS (gwN m dn (n - 1)) 0 dn) (hk : k < n) (ht : t < dn) : SmallP ((rkL (skI m dn n r k) dn n k).set k [(t : Int)]) := fun i hi x hx => by
  obtain ⟨h1, -, -, -⟩ := sk_all hr k (by omega)
  rw [List.length_set, rkL_length] at hi
  by_cases e : i = k
  · subst e
    rw [getD_set_eq (by rw [rkL_length]; exact hi), List.mem_singleton] at hx
    omega
  · rw [getD_set_ne e, rkL_at hi] at hx
    split at hx
    · rename_i hik
      rw [List.mem_singleton, skI_at hik] at hx
      have := h1 i hik
      omega
    · obtain ⟨e, h1, rfl, _⟩ := lsN_mem.1 hx
      omega

theorem sk_nine {m : Int} {dn n r k : Nat} {ys : List Int} (hd : dn ≤ 9) (hy : ys.length ≤ 9) (hk : k < n) : Nine ((rkL (skI m dn n r k) dn n k).set k ys) := fun i => by
  by_cases hi : i < n
  · by_cases e : i = k
    · subst e
      rw [getD_set_eq (by rw [rkL_length]; exact hi)]
      exact hy
    · rw [getD_set_ne e, rkL_at hi]
      split
      · simp
      · rw [upL_length]; exact hd
  · simp [List.getD, List.getElem?_eq_none (by rw [List.length_set, rkL_length]; omega : ((rkL (skI m dn n r k) dn n k).set k ys).length ≤ i)]

theorem sk_digits {m : Int} {dn n r : Nat} (hd : dn ≤ 9) (hr : r < toS (gwN m dn (n - 1)) 0 dn) (k : Nat) (hk : k ≤ n) : Digits (skI m dn n r k) := fun i hi => by
  rw [skI_length] at hi
  have := (sk_all hr k hk).1 i hi
  rw [skI_at hi]
  omega

theorem dig_zero (xs : List Int) (j : Nat) : digF (xs ++ [0]) j = digF xs j := by
  unfold digF
  congr 1
  by_cases h : j < xs.length
  · rw [List.getD, List.getD, List.getElem?_append_left h]
  · by_cases e : j = xs.length
    · subst e; simp [List.getD]
    · simp [List.getD, List.getElem?_eq_none (by simp; omega : (xs ++ [(0 : Int)]).length ≤ j), List.getElem?_eq_none (by omega : xs.length ≤ j)]

theorem dig_set (xs : List Int) (c d : Int) (j : Nat) : (if j = xs.length then Value.int .i64 d else digF (xs ++ [c]) j) = digF (xs ++ [d]) j := by
  unfold digF
  by_cases e : j = xs.length
  · subst e; simp [List.getD]
  · rw [if_neg e]
    congr 1
    by_cases h : j < xs.length
    · rw [List.getD, List.getD, List.getElem?_append_left h, List.getElem?_append_left h]
    · simp [List.getD, List.getElem?_eq_none (by simp; omega : (xs ++ [c]).length ≤ j), List.getElem?_eq_none (by simp; omega : (xs ++ [d]).length ≤ j)]

end Go.Proofs.Ytaajklkldfgppaa
