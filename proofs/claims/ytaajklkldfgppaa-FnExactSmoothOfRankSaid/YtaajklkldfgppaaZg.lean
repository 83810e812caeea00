/- Smooth keys ranked: what a key's rank is, and the lists that the program counts. For at most 9 depths. -/
import Derived.Test.YtaajklkldfgppaaZf
namespace Go.Proofs.Ytaajklkldfgppaa
open Go.ChangeShapes Go.WideShapes Go.ChangeAt Go.RowKit Go.Joins

/-- A key's digits. -/
def dgN (s : ByteArray) (i : Nat) : Nat := ((dg s).getD i 0).toNat

theorem dgN_at {d : Int} {s : ByteArray} (h : allK d s = true) {i : Nat} (hi : i < s.size) : byN s i = dgN s i + 48 ∧ ((dgN s i : Nat) : Int) < d ∧ (dg s).getD i 0 = (dgN s i : Int) := by
  have h1 := of_decide_eq_true (allK_at h hi)
  unfold dgN
  rw [byN_at hi, dg_at hi]
  omega

theorem close_dg {d m : Int} {s : ByteArray} (h : allK d s = true) {i j : Nat} (hi : i < s.size) (hj : j < s.size) : closeB m (byN s i) (byN s j) = closeB m (dgN s i) (dgN s j) := by
  have h1 := (dgN_at h hi).1
  have h2 := (dgN_at h hj).1
  unfold closeB
  rw [h1, h2]
  exact decide_eq_decide.2 ⟨fun h => by omega, fun h => by omega⟩

/-- The first k steps of x are smooth. -/
def smU (m : Int) (x : Nat → Nat) (k : Nat) : Bool := (List.range k).all fun i => closeB m (x (i + 1)) (x i)

theorem smU_yes {m : Int} {x : Nat → Nat} {k : Nat} : smU m x k = true ↔ ∀ i, i < k → closeB m (x (i + 1)) (x i) = true := by
  unfold smU
  rw [List.all_eq_true]
  exact ⟨fun h i hi => h i (List.mem_range.2 hi), fun h i hi => h i (List.mem_range.1 hi)⟩

theorem smS_dg {d m : Int} {s : ByteArray} (h : allK d s = true) : smS m s = smU m (dgN s) (s.size - 1) := by
  rw [Bool.eq_iff_iff, smS_yes, smU_yes]
  constructor
  · intro h1 i hi
    rw [← close_dg h (by omega) (by omega)]
    exact h1 i (by omega)
  · intro h1 i hi
    rw [close_dg h (by omega) (by omega)]
    exact h1 i (by omega)

theorem has_singleG {x : Int} {e : Nat} : hasB [x] e = decide ((e : Int) = x) := by
  unfold hasB
  refine decide_eq_decide.2 ?_
  rw [List.mem_singleton]

theorem scS_none {m : Int} {e : Nat} (n : Nat) : scS m e (fun _ => 0) n = 0 := by
  induction n with
  | zero => rfl
  | succ n ih => rw [scS, ih]; split <;> rfl

theorem fwN_single {m : Int} {x : Nat → Nat} {ks : List (List Int)} (k : Nat) (h : ∀ i, i ≤ k → ks.getD i [] = [(x i : Int)]) (h9 : ∀ i, i ≤ k → x i < 9) : fwN m ks k = fun e => if e = x k then (if smU m x k = true then 1 else 0) else 0 := by
  by_cases hs : smU m x k = true
  · rw [fwN_fixed k h h9 (smU_yes.1 hs), hs]
    funext e
    rw [if_pos rfl]
  · have h0 : fwN m ks k = fun _ => 0 := by
      induction k with
      | zero => exact absurd (smU_yes.2 fun i hi => by omega) hs
      | succ k ih =>
        funext e
        rw [fwN]
        by_cases hk : smU m x k = true
        · have hc : closeB m (x (k + 1)) (x k) = false := by
            rw [← Bool.not_eq_true]
            intro hc
            refine hs (smU_yes.2 fun i hi => ?_)
            by_cases e : i = k
            · subst e; exact hc
            · exact smU_yes.1 hk i (by omega)
          rw [fwN_fixed k (fun i hi => h i (by omega)) (fun i hi => h9 i (by omega)) (smU_yes.1 hk), h (k + 1) (by omega), scS_single]
          by_cases he : e = x (k + 1)
          · subst he
            have e5 : ¬ (x k < 9 ∧ closeB m (x (k + 1)) (x k) = true) := fun h => by rw [hc] at h; cases h.2
            rw [if_neg e5]
            split <;> rfl
          · have : hasB [(x (k + 1) : Int)] e = false := by rw [has_singleG]; exact decide_eq_false (by omega)
            rw [this]; rfl
        · rw [ih (fun i hi => h i (by omega)) (fun i hi => h9 i (by omega)) hk, scS_none]
          split <;> rfl
    rw [h0]
    funext e
    rw [if_neg hs]
    split <;> rfl

theorem toS_one {a : Nat} {z : Nat} (n : Nat) : toS (fun e => if e = a then z else 0) 0 n = if a < n then z else 0 := by
  induction n with
  | zero => rw [if_neg (by omega)]; rfl
  | succ n ih =>
    rw [toS, ih, Nat.zero_add]
    by_cases e : n = a
    · subst e; simp
    · rw [if_neg e, Nat.add_zero]
      by_cases h : a < n
      · rw [if_pos h, if_pos (by omega)]
      · rw [if_neg h, if_neg (by omega)]

theorem kqL_at {xs : List Int} {n i : Nat} (h : i < n) : (kqL xs n).getD i [] = [xs.getD i 0] := rwL_at (f := fun i => [xs.getD i 0]) h

theorem kq_pins {d : Int} {s : ByteArray} (h : keyB d s = true) : pinsB d (kqL (dg s) s.size) = true := by
  unfold keyB at h
  simp only [Bool.and_eq_true] at h
  obtain ⟨⟨h1, h2⟩, h3⟩ := h
  have h4 : (kqL (dg s) s.size).all (depB d) = true := rwL_all fun i hi => by
    have := of_decide_eq_true (allK_at h3 hi)
    rw [dg_at hi]
    unfold depB
    simp [riseB]
    omega
  unfold pinsB
  rw [show (kqL (dg s) s.size).length = s.size from rwL_length _ _, h1, h2, h4]; rfl

theorem keyB_yes {d : Int} {s : ByteArray} (h : keyB d s = true) : 1 ≤ d ∧ d ≤ 9 ∧ 1 ≤ s.size ∧ s.size ≤ 7 ∧ allK d s = true := by
  unfold keyB inB at h
  simp only [Bool.and_eq_true, decide_eq_true_eq] at h
  exact ⟨h.1.1.1, h.1.1.2, by omega, by omega, h.2⟩

/-- What the program finds of the pins that a key alone opens. -/
theorem kq_smooth (d m : Int) (s : ByteArray) : smB (kqD d s) m (kqK d s) = (keyB d s && inB m 0 9) ∧ (keyB d s = true → inB m 0 9 = true → smZ (kqD d s) m (kqK d s) = if smS m s then 1 else 0) := by
  by_cases hk : keyB d s = true
  · obtain ⟨e1, e2⟩ := kq_yes hk
    have e3 := kq_pins hk
    obtain ⟨d1, d9, n1, n7, ha⟩ := keyB_yes hk
    have e4 : smB (kqD d s) m (kqK d s) = (keyB d s && inB m 0 9) := by
      unfold smB
      rw [e1, e2, e3, hk]
    refine ⟨e4, fun _ hm => ?_⟩
    unfold smZ
    rw [e4, hk, hm, show (true && true) = true from rfl, if_pos rfl, e2, show (kqL (dg s) s.size).length = s.size from rwL_length _ _]
    rw [fwN_single (x := dgN s) (s.size - 1) (fun i hi => by rw [kqL_at (by omega), (dgN_at ha (show i < s.size by omega)).2.2]) (fun i hi => by have := (dgN_at ha (show i < s.size by omega)).2.1; omega), toS_one, smS_dg ha]
    have := (dgN_at ha (show s.size - 1 < s.size by omega)).2.1
    rw [if_pos (by omega)]
    split <;> rfl
  · rw [Bool.not_eq_true] at hk
    obtain ⟨e1, e2⟩ := kq_no hk
    refine ⟨?_, fun h => by rw [hk] at h; cases h⟩
    unfold smB
    rw [e1, e2, hk]
    rfl

/-- Whether a key has a rank, and its rank. -/
def rsB (d m : Int) (s : ByteArray) : Bool := keyB d s && inB m 0 9 && smS m s
def rsN (m : Int) (dn n : Nat) (x : Nat → Nat) : Nat → Nat
  | 0 => 0
  | k + 1 => rsN m dn n x k + rkN m dn n x k
def rsZ (d m : Int) (s : ByteArray) : Int := if rsB d m s then (rsN m d.toNat s.size (dgN s) s.size : Int) else 0

theorem rkN_le {m : Int} {dn n k : Nat} {x : Nat → Nat} (hd : dn ≤ 9) (hx : x k ≤ 9) (hn : n ≤ 7) : rkN m dn n x k ≤ 43046721 := by
  unfold rkN
  have h1 : ∀ e, (if folB m x k e = true then gwN m dn (n - 1 - k) e else 0) ≤ 4782969 := fun e => by
    split
    · exact Nat.le_trans (gwN_le hd _ _) (pow9_le' (by omega))
    · exact Nat.zero_le _
  have h2 := toS_le (lo := 0) h1 (x k)
  have h3 : x k * 4782969 ≤ 9 * 4782969 := Nat.mul_le_mul_right _ hx
  omega

theorem rsN_le {m : Int} {dn n : Nat} {x : Nat → Nat} (hd : dn ≤ 9) (hx : ∀ k, x k ≤ 9) (hn : n ≤ 7) (k : Nat) : rsN m dn n x k ≤ k * 43046721 := by
  induction k with
  | zero => exact Nat.zero_le _
  | succ k ih => rw [rsN, Nat.succ_mul]; exact Nat.add_le_add ih (rkN_le hd (hx k) hn)

/-- The lists of the program behind k places: the key's digits, then all depths. -/
def rkL (xs : List Int) (dn n k : Nat) : List (List Int) := rwL (fun i => if i < k then [xs.getD i 0] else upL dn) n

theorem rkL_length (xs : List Int) (dn n k : Nat) : (rkL xs dn n k).length = n := rwL_length _ _

theorem rkL_at {xs : List Int} {dn n k i : Nat} (h : i < n) : (rkL xs dn n k).getD i [] = if i < k then [xs.getD i 0] else upL dn := rwL_at (f := fun i => if i < k then [xs.getD i 0] else upL dn) h

theorem rkL_zero (xs : List Int) (dn n : Nat) : rkL xs dn n 0 = wholeL dn n := by
  unfold rkL wholeL
  exact rwL_congr fun i _ => if_neg (by omega)

theorem rkL_set {xs : List Int} {dn n k : Nat} (hk : k < n) (ys : List Int) : ((rkL xs dn n k).set k ys).set k [xs.getD k 0] = rkL xs dn n (k + 1) := by
  refine lists_ext (by rw [List.length_set, List.length_set, rkL_length, rkL_length]) fun i hi => ?_
  rw [List.length_set, List.length_set, rkL_length] at hi
  rw [rkL_at hi]
  by_cases e : i = k
  · subst e
    rw [getD_set_eq (by rw [List.length_set, rkL_length]; exact hk), if_pos (by omega)]
  · rw [getD_set_ne e, getD_set_ne e, rkL_at hi]
    by_cases h : i < k
    · rw [if_pos h, if_pos (by omega)]
    · rw [if_neg h, if_neg (by omega)]

theorem rkL_count {d m : Int} {s : ByteArray} {k : Nat} (hk : keyB d s = true) (hs : smS m s = true) (h : k < s.size) : toS (fwN m ((rkL (dg s) d.toNat s.size k).set k (upL (dgN s k))) (s.size - 1)) 0 9 = rkN m d.toNat s.size (dgN s) k := by
  obtain ⟨d1, d9, n1, n7, ha⟩ := keyB_yes hk
  rw [smS_dg ha] at hs
  have hs' := smU_yes.1 hs
  refine rank_step (by omega) h (fun i hi => ?_) ?_ (fun i hi hn => ?_) (fun i hi => by have := (dgN_at ha (show i < s.size by omega)).2.1; omega) (fun i hi => hs' i (by omega))
  · rw [getD_set_ne (by omega), rkL_at (by omega), if_pos hi, (dgN_at ha (show i < s.size by omega)).2.2]
  · rw [getD_set_eq (by rw [rkL_length]; exact h)]
  · rw [getD_set_ne (by omega), rkL_at hn, if_neg (by omega)]

end Go.Proofs.Ytaajklkldfgppaa
