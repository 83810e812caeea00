/- Whether a key opens, as the model and the program tell it. For pins and texts of at most 2^20 signs. -/
import Derived.Test.YtaajklkldfgppaaVs
namespace Go.Proofs.Ytaajklkldfgppaa
open Go.ChangeShapes Go.WideShapes Go.ChangeAt Go.RowKit Go.Joins

/-- The first k numbers of a key are cut there. -/
def opN (ks : List (List Int)) (ds : List Int) : Nat → Bool
  | 0 => true
  | k + 1 => opN ks ds k && hasB (ks.getD k []) (ds.getD k 0).toNat

theorem opN_false {ks : List (List Int)} {ds : List Int} {k n : Nat} (hk : k < n) (h : hasB (ks.getD k []) (ds.getD k 0).toNat = false) : opN ks ds n = false := by
  induction n with
  | zero => omega
  | succ n ih =>
    rw [opN]
    by_cases e : k = n
    · subst e; rw [h, Bool.and_false]
    · rw [ih (by omega), Bool.false_and]

theorem opN_all {ks : List (List Int)} {ds : List Int} {n : Nat} : opN ks ds n = true ↔ ∀ k, k < n → hasB (ks.getD k []) (ds.getD k 0).toNat = true := by
  induction n with
  | zero => exact ⟨fun _ k hk => by omega, fun _ => rfl⟩
  | succ n ih =>
    rw [opN, Bool.and_eq_true, ih]
    constructor
    · rintro ⟨h1, h2⟩ k hk
      by_cases e : k = n
      · subst e; exact h2
      · exact h1 k (by omega)
    · intro h
      exact ⟨fun k hk => h k (by omega), h n (by omega)⟩

theorem sameM_all {f g : Nat → Nat} : sameM f g = true ↔ ∀ i, i < 7 → f i = g i := by
  unfold sameM
  simp only [Bool.and_eq_true, decide_eq_true_eq]
  constructor
  · rintro ⟨⟨⟨⟨⟨⟨h0, h1⟩, h2⟩, h3⟩, h4⟩, h5⟩, h6⟩ i hi
    have : i = 0 ∨ i = 1 ∨ i = 2 ∨ i = 3 ∨ i = 4 ∨ i = 5 ∨ i = 6 := by omega
    rcases this with rfl | rfl | rfl | rfl | rfl | rfl | rfl <;> assumption
  · intro h
    exact ⟨⟨⟨⟨⟨⟨h 0 (by omega), h 1 (by omega)⟩, h 2 (by omega)⟩, h 3 (by omega)⟩, h 4 (by omega)⟩, h 5 (by omega)⟩, h 6 (by omega)⟩

theorem hasB_one {x : Int} {e : Nat} : hasB [x] e = decide ((e : Int) = x) := by
  unfold hasB
  refine decide_eq_decide.2 ?_
  rw [List.mem_singleton]

/-- All depths of a key are there just if it opens. -/
theorem hasM_op {dn : Nat} {ks : List (List Int)} {ds : List Int} {n : Nat} (hd : dn ≤ 9) (hn : n ≤ 7) (_ : ks.length = n) (_ : SmallP ks) (hl : ∀ i, i < n → 0 ≤ ds.getD i 0 ∧ ds.getD i 0 < (dn : Int)) : hasM dn ks (kqL ds n) n = opN ks ds n := by
  have hkl : (kqL ds n).length = n := rwL_length _ _
  have hat : ∀ i, i < n → (kqL ds n).getD i [] = [ds.getD i 0] := fun i hi => rwL_at (f := fun i => [ds.getD i 0]) hi
  have s2 : SmallP (kqL ds n) := fun i hi x hx => by
    rw [hkl] at hi
    rw [hat i hi, List.mem_singleton] at hx
    have := hl i hi
    omega
  have sj : SmallP (jnL (fun x y => x && y) dn ks (kqL ds n) n) := jnL_small hd
  rw [Bool.eq_iff_iff]
  unfold hasM
  rw [sameM_all, opN_all]
  constructor
  · intro h i hi
    have h1 := (mkP_eq sj s2 i).1 (h i (by omega)) (ds.getD i 0).toNat (by have := hl i hi; omega)
    have e1 : (jnL (fun x y => x && y) dn ks (kqL ds n) n).getD i [] = lsN (fun e => hasB (ks.getD i []) e && hasB ((kqL ds n).getD i []) e) dn := rwL_at hi
    have hb : hasB [ds.getD i 0] (ds.getD i 0).toNat = true := by rw [hasB_one]; exact decide_eq_true (by have := hl i hi; omega)
    rw [e1, lsN_has (by have := hl i hi; omega), hat i hi, hb, Bool.and_true] at h1
    exact h1
  · intro h i hi7
    refine (mkP_eq sj s2 i).2 fun e he => ?_
    by_cases hi : i < n
    · have e1 : (jnL (fun x y => x && y) dn ks (kqL ds n) n).getD i [] = lsN (fun e => hasB (ks.getD i []) e && hasB ((kqL ds n).getD i []) e) dn := rwL_at hi
      rw [e1, hat i hi]
      have hli := hl i hi
      by_cases hed : e < dn
      · rw [lsN_has hed]
        rw [hasB_one]
        by_cases hx : (e : Int) = ds.getD i 0
        · have h2 := h i hi
          rw [← hx, Int.toNat_natCast] at h2
          rw [h2, Bool.true_and]
        · rw [decide_eq_false hx, Bool.and_false]
      · have f1 : hasB (lsN (fun e => hasB (ks.getD i []) e && hasB ((kqL ds n).getD i []) e) dn) e = false := decide_eq_false fun hm => by
          obtain ⟨e', h1, h2, _⟩ := lsN_mem.1 hm
          omega
        rw [hat i hi] at f1
        rw [f1, hasB_one, decide_eq_false (by omega)]
    · rw [List.getD, List.getElem?_eq_none (by rw [jnL_length]; omega), List.getD, List.getElem?_eq_none (by rw [hkl]; omega)]

theorem okZ_yes {d : Int} {ks : List (List Int)} {s : ByteArray} (h : okZ d ks s = true) : pinsB d ks = true ∧ s.size = ks.length ∧ allK d s = true := by
  unfold okZ at h
  rw [Bool.and_eq_true, Bool.and_eq_true, decide_eq_true_eq] at h
  exact ⟨h.1.1, h.1.2, h.2⟩

theorem dg_bd {d : Int} {s : ByteArray} (h : allK d s = true) {i : Nat} (hi : i < s.size) : 0 ≤ (dg s).getD i 0 ∧ (dg s).getD i 0 < d := by
  have := of_decide_eq_true (allK_at h hi)
  rw [dg_at hi]
  omega

/-- Whether a key opens. -/
def doZ (d : Int) (ks : List (List Int)) (s : ByteArray) : Bool := okZ d ks s && opN ks (dg s) ks.length

end Go.Proofs.Ytaajklkldfgppaa
