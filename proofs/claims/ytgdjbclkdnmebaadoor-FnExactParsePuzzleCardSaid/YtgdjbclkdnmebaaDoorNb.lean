/- Codes and their numbers, one for the other. No conditions beyond those of each lemma. -/
import Derived.Test.YtgdjbclkdnmebaaDoorOfNumber
import Derived.Test.YtgdjbclkdnmebaaDoorNumber
import Derived.Laws.Strings
namespace Go.Proofs.YtgdjbclkdnmebaaDoor
open Go.ChangeShapes Go.WideShapes Go.ChangeAt Go.RowKit Go.Joins

/-- Lists of digits below b, as many as there are wheels. -/
structure GoodN (a b : Int) (ds : List Int) : Prop where
  size : a = (ds.length : Int)
  low : ∀ j, j < ds.length → 0 ≤ ds.getD j 0 ∧ ds.getD j 0 < b

theorem GoodN.of {a b : Int} {s : ByteArray} (h : Asked a b s) : GoodN a b (dg s) := ⟨by rw [dg_length]; exact h.size, fun j hj => h.low j (by rw [dg_length] at hj; exact hj)⟩

theorem GoodN.digits {a b : Int} {ds : List Int} (h : GoodN a b ds) (hb : b ≤ 10) : Digits ds := fun j hj => by have := h.low j hj; omega

theorem textOf_dg {s : ByteArray} (h : ∀ k (hk : k < s.size), 48 ≤ (s[k].toNat : Int)) : textOf (dg s) = s := by
  have hl : (textOf (dg s)).data.toList = s.data.toList := by
    unfold textOf dg
    rw [strOfNums_data, List.map_map, List.map_map]
    refine (List.map_congr_left (fun c hc => ?_)).trans (List.map_id _)
    show UInt8.ofNat (48 + ((c.toNat : Int) - 48)).toNat = c
    rw [show (48 + ((c.toNat : Int) - 48)).toNat = c.toNat by omega]
    exact UInt8.ofNat_toNat
  have hd : (textOf (dg s)).data = s.data := Array.toList_inj.1 hl
  generalize textOf (dg s) = u at hd
  cases u; cases s; simp at hd; rw [hd]

theorem dg_textOf {ds : List Int} (h : Digits ds) : dg (textOf ds) = ds := by
  unfold dg textOf
  rw [strOfNums_data, List.map_map, List.map_map]
  refine (List.map_congr_left (fun d hd => ?_)).trans (List.map_id ds)
  obtain ⟨j, hj, rfl⟩ := List.getElem_of_mem hd
  have := h j hj
  simp only [List.getD, List.getElem?_eq_getElem hj, Option.getD_some] at this
  show ((UInt8.ofNat (48 + ds[j]).toNat).toNat : Int) - 48 = ds[j]
  rw [UInt8.toNat_ofNat']
  omega

theorem ask_of {a b : Int} {ds : List Int} (hg : goodB a b = true) (h : GoodN a b ds) : askB a b (textOf ds) = true := by
  have hg' := good_yes hg
  unfold askB isCodeB
  rw [hg, textOf_size]
  simp only [Bool.true_and, Bool.and_eq_true, decide_eq_true_eq, List.all_eq_true]
  refine ⟨h.size.symm, fun c hc => ?_⟩
  unfold textOf at hc
  rw [strOfNums_data] at hc
  simp only [List.map_map, List.mem_map] at hc
  obtain ⟨d, hd, rfl⟩ := hc
  obtain ⟨j, hj, rfl⟩ := List.getElem_of_mem hd
  have := h.low j hj
  simp only [List.getD, List.getElem?_eq_getElem hj, Option.getD_some] at this
  unfold digitB
  rw [decide_eq_true_eq]
  show 48 ≤ ((UInt8.ofNat (48 + ds[j]).toNat).toNat : Int) ∧ ((UInt8.ofNat (48 + ds[j]).toNat).toNat : Int) - 48 < b
  rw [UInt8.toNat_ofNat']
  omega

theorem ask_text {a b : Int} {s : ByteArray} (h : Asked a b s) : textOf (dg s) = s := textOf_dg fun _ hk => (digits_at h.digits hk).1

theorem numI_at {b : Int} {xs ys : List Int} : ∀ k, (∀ j, j < k → 0 ≤ xs.getD j 0 ∧ xs.getD j 0 < b) → (∀ j, j < k → 0 ≤ ys.getD j 0 ∧ ys.getD j 0 < b) → numAt b xs k = numAt b ys k → ∀ j, j < k → xs.getD j 0 = ys.getD j 0
  | 0, _, _, _, _, hj => by omega
  | k + 1, hx, hy, h, j, hj => by
    rw [numAt, numAt] at h
    obtain ⟨x0, x1⟩ := hx k (by omega)
    obtain ⟨y0, y1⟩ := hy k (by omega)
    have h1 := congrArg (· % b) h
    simp only [Int.add_comm (_ * b), Int.add_mul_emod_self_right] at h1
    rw [Int.emod_eq_of_lt x0 x1, Int.emod_eq_of_lt y0 y1] at h1
    have h2 : numAt b xs k = numAt b ys k := by
      have h3 : numAt b xs k * b = numAt b ys k * b := by omega
      exact Int.eq_of_mul_eq_mul_right (show b ≠ 0 by omega) h3
    by_cases e : j = k
    · subst e; exact h1
    · exact numI_at k (fun j hj => hx j (by omega)) (fun j hj => hy j (by omega)) h2 j (by omega)

theorem numI {a b : Int} {s t : ByteArray} (hs : askB a b s = true) (ht : askB a b t = true) (h : numZ a b s = numZ a b t) : s = t := by
  rw [numZ_yes hs, numZ_yes ht] at h
  have h1 := asked hs
  have h2 := asked ht
  have e : s.size = t.size := by have := h1.size; have := h2.size; omega
  rw [e] at h
  have h3 := numI_at t.size (fun j hj => h1.low j (by omega)) h2.low h
  rw [← ask_text h1, ← ask_text h2]
  congr 1
  apply List.ext_getElem
  · rw [dg_length, dg_length, e]
  · intro i i1 i2
    have := h3 i (by rw [dg_length] at i2; exact i2)
    simpa only [List.getD, List.getElem?_eq_getElem i1, List.getElem?_eq_getElem i2, Option.getD_some] using this

/-- How many codes there are. -/
def cnN (a b : Int) : Nat := (pw b a.toNat).toNat

/-- The number of a code. -/
def nuN (a b : Int) (s : ByteArray) : Nat := (numZ a b s).toNat

/-- The code of a number. -/
def cdN (a b : Int) (i : Nat) : ByteArray := textOf (digL b i a.toNat)

theorem numZ_bd {a b : Int} {s : ByteArray} (hs : askB a b s = true) : 0 ≤ numZ a b s ∧ numZ a b s < pw b a.toNat := by
  have h := asked hs
  obtain ⟨h1, h2⟩ := numAt_bd h.b2 h.low s.size (Nat.le_refl _)
  rw [numZ_yes hs]
  have : a.toNat = s.size := by have := h.size; omega
  rw [this]
  omega

theorem nuN_cast {a b : Int} {s : ByteArray} (hs : askB a b s = true) : ((nuN a b s : Nat) : Int) = numZ a b s := Int.toNat_of_nonneg (numZ_bd hs).1

theorem nuN_lt {a b : Int} {s : ByteArray} (hs : askB a b s = true) : nuN a b s < cnN a b := by
  have := numZ_bd hs
  unfold nuN cnN
  omega

theorem nuN_inj {a b : Int} {s t : ByteArray} (hs : askB a b s = true) (ht : askB a b t = true) (h : nuN a b s = nuN a b t) : s = t :=
  numI hs ht (by rw [← nuN_cast hs, ← nuN_cast ht, h])

theorem cnN_cast {a b : Int} (hg : goodB a b = true) : ((cnN a b : Nat) : Int) = pw b a.toNat := by
  have := good_yes hg
  have h := pw_bd6 (b := b) (by omega) (by omega) (k := a.toNat) (by omega)
  unfold cnN
  omega

theorem numAt_digL {b : Int} {x : Int} {n : Nat} (h2 : 2 ≤ b) (h0 : 0 ≤ x) (hx : x < pw b n) : ∀ k, k ≤ n → numAt b (digL b x n) k = x / pw b (n - k)
  | 0, _ => by rw [Nat.sub_zero, Int.ediv_eq_zero_of_lt h0 hx]; rfl
  | k + 1, hk => by
    rw [numAt, numAt_digL h2 h0 hx k (by omega), digL_at (show k < n by omega), show n - 1 - k = n - (k + 1) by omega]
    obtain ⟨i, hi⟩ : ∃ i, n - k = i + 1 := ⟨n - k - 1, by omega⟩
    have e : n - (k + 1) = i := by omega
    rw [hi, e, pw_succ, ← Int.ediv_ediv_of_nonneg (by unfold pw; exact Int.pow_nonneg (by omega))]
    have := Int.mul_ediv_add_emod (x / pw b i) b
    rw [Int.mul_comm] at this
    exact this

theorem cd_good {a b : Int} {i : Nat} (hg : goodB a b = true) : GoodN a b (digL b i a.toNat) := by
  have hg' := good_yes hg
  refine ⟨by rw [digL_length]; omega, fun j hj => ?_⟩
  rw [digL_length] at hj
  rw [digL_at hj]
  exact ⟨Int.emod_nonneg _ (by omega), Int.emod_lt_of_pos _ (by omega)⟩

theorem cd_ask {a b : Int} {i : Nat} (hg : goodB a b = true) : askB a b (cdN a b i) = true := ask_of hg (cd_good hg)

theorem cd_dg {a b : Int} {i : Nat} (hg : goodB a b = true) : dg (cdN a b i) = digL b i a.toNat := dg_textOf ((cd_good hg).digits (good_yes hg).2.2.2)

theorem nu_cd {a b : Int} {i : Nat} (hg : goodB a b = true) (hi : i < cnN a b) : nuN a b (cdN a b i) = i := by
  have hg' := good_yes hg
  have hc := cnN_cast hg
  have hz : numZ a b (cdN a b i) = (i : Int) := by
    rw [numZ_yes (cd_ask hg), cd_dg hg]
    have hsz : (cdN a b i).size = a.toNat := by unfold cdN; rw [textOf_size, digL_length]
    rw [hsz, numAt_digL (by omega) (by omega) (by omega) _ (Nat.le_refl _), Nat.sub_self, pw_zero, Int.ediv_one]
  unfold nuN
  rw [hz]
  omega

theorem cd_nu {a b : Int} {s : ByteArray} (hs : askB a b s = true) : cdN a b (nuN a b s) = s :=
  nuN_inj (cd_ask (asked hs).good) hs (nu_cd (asked hs).good (nuN_lt hs))

end Go.Proofs.YtgdjbclkdnmebaaDoor
