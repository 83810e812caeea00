/- The order of codes as texts is that of their numbers. No conditions beyond those of each lemma. -/
import Derived.Test.YtilnjlcljjpnmaaNm
import Derived.Laws.Strings
namespace Go.Proofs.Ytilnjlcljjpnmaa

/-- The number that digits tell behind others. -/
def hv (b acc : Int) : List Int → Int
  | [] => acc
  | d :: ds => hv b (acc * b + d) ds

theorem hv_snoc (b : Int) (xs : List Int) (d : Int) : ∀ acc, hv b acc (xs ++ [d]) = hv b acc xs * b + d := by
  induction xs with
  | nil => intro acc; rfl
  | cons x xs ih => intro acc; exact ih _

theorem numAt_hv (b : Int) (ds : List Int) : ∀ k, k ≤ ds.length → numAt b ds k = hv b 0 (ds.take k)
  | 0, _ => rfl
  | k + 1, h => by
    rw [numAt, List.take_succ_eq_append_getElem (by omega), hv_snoc, numAt_hv b ds k (by omega)]
    simp [List.getD, List.getElem?_eq_getElem (show k < ds.length by omega)]

theorem hv_lt {b : Int} : ∀ {xs ys : List Int} {p q : Int}, xs.length = ys.length → (∀ x, x ∈ xs → 0 ≤ x ∧ x < b) → (∀ y, y ∈ ys → 0 ≤ y ∧ y < b) → p < q → hv b p xs < hv b q ys
  | [], [], _, _, _, _, _, h => h
  | x :: xs, y :: ys, p, q, hl, hx, hy, h => by
    show hv b (p * b + x) xs < hv b (q * b + y) ys
    refine hv_lt (by simpa using hl) (fun z hz => hx z (List.mem_cons_of_mem _ hz)) (fun z hz => hy z (List.mem_cons_of_mem _ hz)) ?_
    have h1 := hx x (List.mem_cons_self ..)
    have h2 := hy y (List.mem_cons_self ..)
    have h3 := Int.mul_le_mul_of_nonneg_right (show p + 1 ≤ q from h) (show 0 ≤ b by omega)
    rw [Int.add_mul, Int.one_mul] at h3
    omega

/-- A letter as a digit. -/
def dgt (c : UInt8) : Int := (c.toNat : Int) - 48

theorem hv_less {b : Int} : ∀ {x y : List UInt8} {p : Int}, x.length = y.length → (∀ c, c ∈ x → 0 ≤ dgt c ∧ dgt c < b) → (∀ c, c ∈ y → 0 ≤ dgt c ∧ dgt c < b) → Op.bytesLess x y = decide (hv b p (x.map dgt) < hv b p (y.map dgt))
  | [], [], p, _, _, _ => by simp [Op.bytesLess, hv]
  | c :: x, d :: y, p, hl, hx, hy => by
    have hx' : ∀ z, z ∈ x → 0 ≤ dgt z ∧ dgt z < b := fun z hz => hx z (List.mem_cons_of_mem _ hz)
    have hy' : ∀ z, z ∈ y → 0 ≤ dgt z ∧ dgt z < b := fun z hz => hy z (List.mem_cons_of_mem _ hz)
    have hl' : x.length = y.length := by simpa using hl
    have mx : ∀ z, z ∈ x.map dgt → 0 ≤ z ∧ z < b := fun z hz => by obtain ⟨u, hu, rfl⟩ := List.mem_map.1 hz; exact hx' u hu
    have my : ∀ z, z ∈ y.map dgt → 0 ≤ z ∧ z < b := fun z hz => by obtain ⟨u, hu, rfl⟩ := List.mem_map.1 hz; exact hy' u hu
    rw [Op.bytesLess]
    show _ = decide (hv b (p * b + dgt c) (x.map dgt) < hv b (p * b + dgt d) (y.map dgt))
    rcases Nat.lt_trichotomy c.toNat d.toNat with h | h | h
    · have h1 : (decide (c < d)) = true := decide_eq_true (UInt8.lt_iff_toNat_lt.2 h)
      rw [h1, Bool.true_or, decide_eq_true]
      exact hv_lt (by simpa using hl') mx my (by unfold dgt; omega)
    · have e : c = d := UInt8.toNat_inj.1 h
      subst e
      rw [hv_less (p := p * b + dgt c) hl' hx' hy']
      have h1 : (decide (c < c)) = false := decide_eq_false (by rw [UInt8.lt_iff_toNat_lt]; omega)
      rw [h1]
      simp
    · have h1 : (decide (c < d)) = false := decide_eq_false (by rw [UInt8.lt_iff_toNat_lt]; omega)
      have h2 : (c == d) = false := by
        rw [beq_eq_false_iff_ne]
        intro e
        subst e
        omega
      rw [h1, h2, Bool.false_and, Bool.false_or, eq_comm, decide_eq_false]
      have := hv_lt (b := b) (xs := y.map dgt) (ys := x.map dgt) (p := p * b + dgt d) (q := p * b + dgt c) (by simpa using hl'.symm) my mx (by unfold dgt; omega)
      omega

theorem num_hv {a b : Int} {s : ByteArray} (hs : askB a b s = true) : numZ a b s = hv b 0 (s.data.toList.map dgt) := by
  rw [numZ_yes hs, numAt_hv b (dg s) s.size (by rw [dg_length]; exact Nat.le_refl _), List.take_of_length_le (by rw [dg_length]; exact Nat.le_refl _)]
  rfl

theorem ask_dgt {a b : Int} {s : ByteArray} (hs : askB a b s = true) : ∀ c, c ∈ s.data.toList → 0 ≤ dgt c ∧ dgt c < b := fun c hc => by
  obtain ⟨i, hi, rfl⟩ := List.getElem_of_mem hc
  have := (asked hs).low i (by simpa using hi)
  simp only [dg, List.getD, List.getElem?_map, List.getElem?_eq_getElem hi, Option.map_some, Option.getD_some] at this
  exact this

theorem less_nu {a b : Int} {s t : ByteArray} (hs : askB a b s = true) (ht : askB a b t = true) : Op.bytesLess s.toList t.toList = decide (nuN a b s < nuN a b t) := by
  rw [ByteArray.toList_eq, ByteArray.toList_eq, hv_less (b := b) (p := 0) (by
    have := (asked hs).size; have := (asked ht).size
    show s.data.toList.length = t.data.toList.length
    rw [Array.length_toList, Array.length_toList]
    show s.size = t.size
    omega) (ask_dgt hs) (ask_dgt ht), ← num_hv hs, ← num_hv ht]
  have h1 := nuN_cast hs
  have h2 := nuN_cast ht
  by_cases h : nuN a b s < nuN a b t
  · rw [decide_eq_true h, decide_eq_true (by omega)]
  · rw [decide_eq_false h, decide_eq_false (by omega)]

end Go.Proofs.Ytilnjlcljjpnmaa
