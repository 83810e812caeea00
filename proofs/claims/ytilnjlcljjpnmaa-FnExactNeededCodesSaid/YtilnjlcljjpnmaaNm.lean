/- Codes and their numbers, and the turns that lead from code to code. No conditions beyond those of each lemma. -/
import Derived.Test.YtilnjlcljjpnmaaTurnWheelsSpec
import Derived.Test.YtilnjlcljjpnmaaOfNumber
import Derived.Test.YtilnjlcljjpnmaaNumber
import Derived.Test.YtilnjlcljjpnmaaLev
import Derived.Laws.Strings
namespace Go.Proofs.Ytilnjlcljjpnmaa

theorem numI_at {b : Int} {xs ys : List Int} : ∀ k, (∀ j, j < k → 0 ≤ xs.getD j 0 ∧ xs.getD j 0 < b) → (∀ j, j < k → 0 ≤ ys.getD j 0 ∧ ys.getD j 0 < b) → numAt b xs k = numAt b ys k → ∀ j, j < k → xs.getD j 0 = ys.getD j 0
  | 0, _, _, _, _, hj => by omega
  | k + 1, hx, hy, h, j, hj => by
    rw [numAt, numAt] at h
    obtain ⟨x0, x1⟩ := hx k (by omega)
    obtain ⟨y0, y1⟩ := hy k (by omega)
    have h1 := congrArg (· % b) h
    simp only [Int.add_comm (_ * b), Int.add_mul_emod_self_right] at h1
    rw [Int.emod_eq_of_lt x0 x1, Int.emod_eq_of_lt y0 y1] at h1
    have h2 : numAt b xs k = numAt b ys k := by
      have h3 : numAt b xs k * b = numAt b ys k * b := by omega
      exact Int.eq_of_mul_eq_mul_right (show b ≠ 0 by omega) h3
    by_cases e : j = k
    · subst e; exact h1
    · exact numI_at k (fun j hj => hx j (by omega)) (fun j hj => hy j (by omega)) h2 j (by omega)

theorem numI {a b : Int} {s t : ByteArray} (hs : askB a b s = true) (ht : askB a b t = true) (h : numZ a b s = numZ a b t) : s = t := by
  rw [numZ_yes hs, numZ_yes ht] at h
  have h1 := asked hs
  have h2 := asked ht
  have e : s.size = t.size := by have := h1.size; have := h2.size; omega
  rw [e] at h
  have h3 := numI_at t.size (fun j hj => h1.low j (by omega)) h2.low h
  rw [← ask_text h1, ← ask_text h2]
  congr 1
  apply List.ext_getElem
  · rw [dg_length, dg_length, e]
  · intro i i1 i2
    have := h3 i (by rw [dg_length] at i2; exact i2)
    simpa only [List.getD, List.getElem?_eq_getElem i1, List.getElem?_eq_getElem i2, Option.getD_some] using this

/-- How many codes there are. -/
def cnN (a b : Int) : Nat := (pw b a.toNat).toNat

/-- The number of a code. -/
def nuN (a b : Int) (s : ByteArray) : Nat := (numZ a b s).toNat

/-- The code of a number. -/
def cdN (a b : Int) (i : Nat) : ByteArray := textOf (digL b i a.toNat)

theorem numZ_bd {a b : Int} {s : ByteArray} (hs : askB a b s = true) : 0 ≤ numZ a b s ∧ numZ a b s < pw b a.toNat := by
  have h := asked hs
  obtain ⟨h1, h2⟩ := numAt_bd h.b2 h.low s.size (Nat.le_refl _)
  rw [numZ_yes hs]
  have : a.toNat = s.size := by have := h.size; omega
  rw [this]
  omega

theorem nuN_cast {a b : Int} {s : ByteArray} (hs : askB a b s = true) : ((nuN a b s : Nat) : Int) = numZ a b s := Int.toNat_of_nonneg (numZ_bd hs).1

theorem nuN_lt {a b : Int} {s : ByteArray} (hs : askB a b s = true) : nuN a b s < cnN a b := by
  have := numZ_bd hs
  unfold nuN cnN
  omega

theorem nuN_inj {a b : Int} {s t : ByteArray} (hs : askB a b s = true) (ht : askB a b t = true) (h : nuN a b s = nuN a b t) : s = t :=
  numI hs ht (by rw [← nuN_cast hs, ← nuN_cast ht, h])

theorem cnN_cast {a b : Int} (hg : goodB a b = true) : ((cnN a b : Nat) : Int) = pw b a.toNat := by
  have := good_yes hg
  have h := pw_bd6 (b := b) (by omega) (by omega) (k := a.toNat) (by omega)
  unfold cnN
  omega

theorem numAt_digL {b : Int} {x : Int} {n : Nat} (h2 : 2 ≤ b) (h0 : 0 ≤ x) (hx : x < pw b n) : ∀ k, k ≤ n → numAt b (digL b x n) k = x / pw b (n - k)
  | 0, _ => by rw [Nat.sub_zero, Int.ediv_eq_zero_of_lt h0 hx]; rfl
  | k + 1, hk => by
    rw [numAt, numAt_digL h2 h0 hx k (by omega), digL_at (show k < n by omega), show n - 1 - k = n - (k + 1) by omega]
    obtain ⟨i, hi⟩ : ∃ i, n - k = i + 1 := ⟨n - k - 1, by omega⟩
    have e : n - (k + 1) = i := by omega
    rw [hi, e, pw_succ, ← Int.ediv_ediv_of_nonneg (by unfold pw; exact Int.pow_nonneg (by omega))]
    have := Int.mul_ediv_add_emod (x / pw b i) b
    rw [Int.mul_comm] at this
    exact this

theorem cd_good {a b : Int} {i : Nat} (hg : goodB a b = true) : Good a b (digL b i a.toNat) := by
  have hg' := good_yes hg
  refine ⟨by rw [digL_length]; omega, fun j hj => ?_⟩
  rw [digL_length] at hj
  rw [digL_at hj]
  exact ⟨Int.emod_nonneg _ (by omega), Int.emod_lt_of_pos _ (by omega)⟩

theorem cd_ask {a b : Int} {i : Nat} (hg : goodB a b = true) : askB a b (cdN a b i) = true := ask_of hg (cd_good hg)

theorem cd_dg {a b : Int} {i : Nat} (hg : goodB a b = true) : dg (cdN a b i) = digL b i a.toNat := dg_textOf ((cd_good hg).digits (good_yes hg).2.2.2)

theorem nu_cd {a b : Int} {i : Nat} (hg : goodB a b = true) (hi : i < cnN a b) : nuN a b (cdN a b i) = i := by
  have hg' := good_yes hg
  have hc := cnN_cast hg
  have hz : numZ a b (cdN a b i) = (i : Int) := by
    rw [numZ_yes (cd_ask hg), cd_dg hg]
    have hsz : (cdN a b i).size = a.toNat := by unfold cdN; rw [textOf_size, digL_length]
    rw [hsz, numAt_digL (by omega) (by omega) (by omega) _ (Nat.le_refl _), Nat.sub_self, pw_zero, Int.ediv_one]
  unfold nuN
  rw [hz]
  omega

theorem cd_nu {a b : Int} {s : ByteArray} (hs : askB a b s = true) : cdN a b (nuN a b s) = s :=
  nuN_inj (cd_ask (asked hs).good) hs (nu_cd (asked hs).good (nuN_lt hs))

/-- The way of the turn of number j: forth, then back, wheel by wheel. -/
def byW (j : Nat) : Int := if j % 2 = 0 then 1 else -1

/-- The turn that takes it back. -/
def ivW (j : Nat) : Nat := if j % 2 = 0 then j + 1 else j - 1

/-- The code behind a turn. -/
def mvW (b : Int) (s : ByteArray) (j : Nat) : ByteArray := textOf (stepD b (dg s) ((j / 2 : Nat) : Int) (byW j))

theorem byW_turn {a : Int} {j : Nat} (hj : j < 2 * a.toNat) : turnB a ((j / 2 : Nat) : Int) (byW j) = true := by
  unfold turnB inB byW
  split <;> simp <;> omega

theorem mvW_ask {a b : Int} {s : ByteArray} {j : Nat} (hs : askB a b s = true) (hj : j < 2 * a.toNat) : askB a b (mvW b s j) = true :=
  ask_of (asked hs).good ((Good.of (asked hs)).step (asked hs).b2 (byW_turn hj))

theorem mvW_dg {a b : Int} {s : ByteArray} {j : Nat} (hs : askB a b s = true) (hj : j < 2 * a.toNat) : dg (mvW b s j) = stepD b (dg s) ((j / 2 : Nat) : Int) (byW j) :=
  dg_textOf (((Good.of (asked hs)).step (asked hs).b2 (byW_turn hj)).digits (asked hs).b10)

theorem ivW_lt {m j : Nat} (hj : j < 2 * m) : ivW j < 2 * m := by unfold ivW; split <;> omega

theorem ivW_two (j : Nat) : ivW (ivW j) = j := by
  unfold ivW
  by_cases h : j % 2 = 0
  · rw [if_pos h, if_neg (by omega)]; omega
  · rw [if_neg h, if_pos (by omega)]; omega

theorem ivW_div (j : Nat) : ivW j / 2 = j / 2 := by unfold ivW; split <;> omega

theorem ivW_by (j : Nat) : byW (ivW j) = - byW j := by
  unfold ivW byW
  by_cases h : j % 2 = 0
  · rw [if_pos h, if_pos h, if_neg (by omega)]
  · rw [if_neg h, if_neg h, if_pos (by omega)]; rfl

theorem addI_back {b x y : Int} (h0 : 0 ≤ x) (h1 : x < b) : addI b (addI b x y) (-y) = x := by
  unfold addI
  rw [Int.emod_add_emod, Int.add_neg_cancel_right, Int.emod_eq_of_lt h0 h1]

theorem mvW_back {a b : Int} {s : ByteArray} {j : Nat} (hs : askB a b s = true) (hj : j < 2 * a.toNat) : mvW b (mvW b s j) (ivW j) = s := by
  have ha := asked hs
  have hsz : a.toNat = s.size := by have := ha.size; omega
  have hk : j / 2 < s.size := by omega
  refine Eq.trans ?_ (ask_text ha)
  show textOf _ = _
  congr 1
  rw [mvW_dg hs hj, ivW_div, ivW_by]
  generalize hds : dg s = ds
  have hl : ds.length = s.size := by rw [← hds, dg_length]
  have hd := ha.low (j / 2) hk
  rw [hds] at hd
  apply List.ext_getElem
  · rw [stepD_length, stepD_length]
  · intro i i1 i2
    have e1 := stepD_at b (stepD b ds ((j / 2 : Nat) : Int) (byW j)) ((j / 2 : Nat) : Int) (-byW j) (j := i) (by rw [stepD_length]; omega)
    have e2 := stepD_at b ds ((j / 2 : Nat) : Int) (byW j) (j := i) (by omega)
    have e3 := stepD_at b ds ((j / 2 : Nat) : Int) (byW j) (j := j / 2) (by omega)
    rw [Int.toNat_natCast] at e1 e2 e3
    rw [if_pos rfl] at e3
    have key : (stepD b (stepD b ds ((j / 2 : Nat) : Int) (byW j)) ((j / 2 : Nat) : Int) (-byW j)).getD i 0 = ds.getD i 0 := by
      rw [e1]
      by_cases h : i = j / 2
      · rw [if_pos h, e3, addI_back hd.1 hd.2, h]
      · rw [if_neg h, e2, if_neg h]
    simpa only [List.getD, List.getElem?_eq_getElem i1, List.getElem?_eq_getElem i2, Option.getD_some] using key

/-- The codes of a lock, led from one to the other by turns. -/
theorem grfW (a b : Int) : Grf (mvW b) (2 * a.toNat) (fun s => askB a b s = true) ivW where
  keep := fun _ _ hx hj => mvW_ask hx hj
  back := fun _ _ hx hj => mvW_back hx hj
  lt := fun _ hj => ivW_lt hj
  two := fun j _ => ivW_two j

/-- The text is one of the list. -/
def inS (ts : List ByteArray) (s : ByteArray) : Bool := ts.any fun t => decide (t = s)

theorem inS_iff {ts : List ByteArray} {s : ByteArray} : inS ts s = true ↔ s ∈ ts := by
  unfold inS
  rw [List.any_eq_true]
  constructor
  · rintro ⟨t, ht, h⟩
    rw [decide_eq_true_iff] at h
    rwa [← h]
  · exact fun h => ⟨s, h, decide_eq_true rfl⟩

theorem inS_yes {ts : List ByteArray} {s : ByteArray} (h : s ∈ ts) : inS ts s = true := inS_iff.2 h

theorem inS_no {ts : List ByteArray} {s : ByteArray} (h : s ∉ ts) : inS ts s = false := by
  rw [Bool.eq_false_iff]
  exact fun h2 => h (inS_iff.1 h2)

/-- A code that is not dead. -/
def alB (a b : Int) (ts : List ByteArray) (x : ByteArray) : Bool := askB a b x && !inS ts x

theorem alB_ask {a b : Int} {ts : List ByteArray} {x : ByteArray} (h : alB a b ts x = true) : askB a b x = true := by
  unfold alB at h
  rw [Bool.and_eq_true] at h
  exact h.1

theorem alB_of {a b : Int} {ts : List ByteArray} {x : ByteArray} (h : askB a b x = true) : alB a b ts x = !inS ts x := by unfold alB; rw [h]; rfl

/-- How many ways of so many turns lead to a code: those with the fewest alone. -/
def wyZ (a b : Int) (ts : List ByteArray) (s : ByteArray) (k : Nat) (x : ByteArray) : Nat := wy (mvW b) (2 * a.toNat) ivW (alB a b ts) s k x

theorem nodup_few : ∀ (n : Nat) (l : List Nat), l.Nodup → (∀ x, x ∈ l → x < n) → l.length ≤ n
  | 0, l, _, h => by
    rcases l with _ | ⟨x, l⟩
    · simp
    · exact absurd (h x (List.mem_cons_self ..)) (by omega)
  | n + 1, l, hn, h => by
    by_cases hm : n ∈ l
    · have := nodup_few n (l.erase n) (hn.erase n) fun x hx => by
        have h1 := (hn.mem_erase_iff).1 hx
        have := h x h1.2
        omega
      rw [List.length_erase_of_mem hm] at this
      omega
    · have := nodup_few n l hn fun x hx => by
        have := h x hx
        have : x ≠ n := fun e => hm (e ▸ hx)
        omega
      omega

theorem nodup_on {α β : Type} {f : α → β} {L : List α} (hn : L.Nodup) (h : ∀ x, x ∈ L → ∀ y, y ∈ L → f x = f y → x = y) : (L.map f).Nodup := by
  rw [List.Nodup, List.pairwise_map]
  exact hn.imp_of_mem (fun hx hy hne e => hne (h _ hx _ hy e))

/-- Codes of a lock, none twice: no more than there are. -/
theorem codes_few {a b : Int} {L : List ByteArray} (hn : L.Nodup) (h : ∀ x, x ∈ L → askB a b x = true) : L.length ≤ cnN a b := by
  have := nodup_few (cnN a b) (L.map (nuN a b)) (nodup_on hn fun x hx y hy e => nuN_inj (h x hx) (h y hy) e) (fun i hi => by
    obtain ⟨x, hx, rfl⟩ := List.mem_map.1 hi
    exact nuN_lt (h x hx))
  rwa [List.length_map] at this

theorem wyZ_lt {a b : Int} {ts : List ByteArray} {s x : ByteArray} {k : Nat} (hx : askB a b x = true) (h : 0 < wyZ a b ts s k x) : k < cnN a b := by
  obtain ⟨L, h1, h2, h3⟩ := wy_chain (grfW a b) k x hx h
  have := codes_few h2 fun y hy => (h3 y hy).1
  omega

/-- The fewest turns to a code, or -1. -/
def lvZ (a b : Int) (ts : List ByteArray) (s x : ByteArray) : Int :=
  match (List.range (cnN a b)).find? fun k => decide (0 < wyZ a b ts s k x) with
  | some k => (k : Int)
  | none => -1

theorem lvZ_some {a b : Int} {ts : List ByteArray} {s x : ByteArray} {k : Nat} (hx : askB a b x = true) (h : 0 < wyZ a b ts s k x) : lvZ a b ts s x = k := by
  unfold lvZ
  rcases e : (List.range (cnN a b)).find? fun k => decide (0 < wyZ a b ts s k x) with _ | i
  · have := List.find?_eq_none.1 e k (List.mem_range.2 (wyZ_lt hx h))
    exact absurd (decide_eq_true h) this
  · have h1 := List.find?_some e
    rw [decide_eq_true_iff] at h1
    have : i = k := wy_one h1 h
    rw [this]

theorem lvZ_none {a b : Int} {ts : List ByteArray} {s x : ByteArray} (h : ∀ k, wyZ a b ts s k x = 0) : lvZ a b ts s x = -1 := by
  unfold lvZ
  have : (List.range (cnN a b)).find? (fun k => decide (0 < wyZ a b ts s k x)) = none := by
    rw [List.find?_eq_none]
    intro k _
    rw [h k]
    simp
  rw [this]

theorem lvZ_cases {a b : Int} {ts : List ByteArray} {s x : ByteArray} (hx : askB a b x = true) : (∃ k : Nat, 0 < wyZ a b ts s k x ∧ lvZ a b ts s x = k) ∨ ((∀ k, wyZ a b ts s k x = 0) ∧ lvZ a b ts s x = -1) := by
  by_cases h : ∃ k, 0 < wyZ a b ts s k x
  · obtain ⟨k, hk⟩ := h
    exact .inl ⟨k, hk, lvZ_some hx hk⟩
  · have hz : ∀ k, wyZ a b ts s k x = 0 := fun k => by
      rcases Nat.eq_zero_or_pos (wyZ a b ts s k x) with h1 | h1
      · exact h1
      · exact absurd ⟨k, h1⟩ h
    exact .inr ⟨hz, lvZ_none hz⟩

end Go.Proofs.Ytilnjlcljjpnmaa
