/- Lists of texts in order, each one once: what sorting and compacting leave, and what putting in one by one leaves. Plain facts on lists; no conditions beyond those of each. -/
import Derived.Test.YtjghodfdejdjoaaStrs
import Derived.Test.YtjghodfdejdjoaaShelf
import Derived.Sort.OwnSorted
import Derived.Sort.Grow
import Derived.Lib.OwnBridge
namespace Go.Proofs.Ytjghodfdejdjoaa
open Go.ChangeShapes Go.WideShapes Go.ChangeAt Go.RowKit Go.Joins

/-- In order, each one once. -/
def Rising (l : List (List UInt8)) : Prop := l.Pairwise (· < ·)

theorem lt_irr (x : List UInt8) : ¬ x < x := List.lt_irrefl x

theorem lt_tr {x y z : List UInt8} (h : x < y) (g : y < z) : x < z := List.lt_trans h g

theorem lt_or {x y : List UInt8} (h : ¬ x < y) (g : x ≠ y) : y < x := by
  have h1 : y ≤ x := List.not_lt.1 h
  rcases Classical.em (y < x) with h2 | h2
  · exact h2
  · exact absurd (List.le_antisymm (List.not_lt.1 h2) h1) g

theorem rising_eq : ∀ (l m : List (List UInt8)), Rising l → Rising m → (∀ x, x ∈ l ↔ x ∈ m) → l = m
  | [], [], _, _, _ => rfl
  | [], y :: m, _, _, h => absurd ((h y).2 List.mem_cons_self) (by simp)
  | x :: l, [], _, _, h => absurd ((h x).1 List.mem_cons_self) (by simp)
  | x :: l, y :: m, hl, hm, h => by
    unfold Rising at hl hm
    rw [List.pairwise_cons] at hl hm
    have hxy : x = y := by
      rcases List.mem_cons.1 ((h x).1 List.mem_cons_self) with e | e
      · exact e
      · rcases List.mem_cons.1 ((h y).2 List.mem_cons_self) with f | f
        · exact f.symm
        · exact absurd (lt_tr (hm.1 x e) (hl.1 y f)) (lt_irr _)
    subst hxy
    rw [rising_eq l m hl.2 hm.2 (fun z => ?_)]
    constructor
    · intro hz
      rcases List.mem_cons.1 ((h z).1 (List.mem_cons_of_mem _ hz)) with e | e
      · subst e; exact absurd (hl.1 z hz) (lt_irr _)
      · exact e
    · intro hz
      rcases List.mem_cons.1 ((h z).2 (List.mem_cons_of_mem _ hz)) with e | e
      · subst e; exact absurd (hm.1 z hz) (lt_irr _)
      · exact e

theorem compact_part (zs : List (List UInt8)) (hs : zs.Pairwise (· ≤ ·)) : ∀ m, m ≤ zs.length →
    Rising (Lib.compactUpTo zs.toArray m) ∧ (∀ x, x ∈ Lib.compactUpTo zs.toArray m ↔ x ∈ zs.take m) ∧ (∀ x, x ∈ Lib.compactUpTo zs.toArray m → 0 < m ∧ x ≤ zs[m - 1]!)
  | 0, _ => by
    refine ⟨by simp [Rising, Lib.compactUpTo], by simp [Lib.compactUpTo], by simp [Lib.compactUpTo]⟩
  | m + 1, hm => by
    obtain ⟨h1, h2, h3⟩ := compact_part zs hs m (by omega)
    have hget : zs.toArray[m]! = zs[m] := by simp [getElem!_pos, show m < zs.length by omega]
    have hget' : zs[m]! = zs[m] := by simp [getElem!_pos, show m < zs.length by omega]
    have htk : zs.take (m + 1) = zs.take m ++ [zs[m]] := List.take_succ_eq_append_getElem (by omega)
    have hle : 0 < m → zs[m - 1]! ≤ zs[m] := fun h0 => by
      rw [getElem!_pos zs (m - 1) (by omega)]
      exact List.pairwise_iff_getElem.1 hs (m - 1) m (by omega) (by omega) (by omega)
    rw [Lib.compactUpTo_succ, hget, htk]
    by_cases hk : Lib.keeps zs.toArray m = true
    · rw [if_pos hk]
      have hlt : ∀ x, x ∈ Lib.compactUpTo zs.toArray m → x < zs[m] := fun x hx => by
        obtain ⟨h0, hx'⟩ := h3 x hx
        have hne : zs[m] ≠ zs[m - 1]! := by
          unfold Lib.keeps at hk
          have := of_decide_eq_true hk
          rcases this with e | e
          · omega
          · rw [hget] at e
            intro e2; apply e; rw [e2]; simp [getElem!_pos, show m - 1 < zs.length by omega]
        have h4 : zs[m - 1]! < zs[m] := lt_or (List.not_lt.2 (hle h0)) hne
        exact List.lt_of_le_of_lt hx' h4
      refine ⟨?_, ?_, ?_⟩
      · unfold Rising
        rw [List.pairwise_append]
        exact ⟨h1, List.pairwise_singleton _ _, fun x hx y hy => by rw [List.mem_singleton.1 hy]; exact hlt x hx⟩
      · intro x; rw [List.mem_append, List.mem_append, h2]
      · intro x hx
        refine ⟨by omega, ?_⟩
        rw [Nat.add_sub_cancel, hget']
        rcases List.mem_append.1 hx with h | h
        · exact List.le_of_lt (hlt x h)
        · rw [List.mem_singleton.1 h]; exact List.le_refl _
    · rw [if_neg hk, List.append_nil]
      have hm0 : 0 < m := by
        rcases Nat.eq_zero_or_pos m with h | h
        · subst h; exact absurd (by simp [Lib.keeps]) hk
        · exact h
      have he : zs[m] = zs[m - 1]! := by
        rcases Classical.em (zs[m] = zs[m - 1]!) with h | h
        · exact h
        · refine absurd ?_ hk
          unfold Lib.keeps
          refine decide_eq_true (.inr ?_)
          rw [hget]
          intro e2; apply h; rw [e2]; simp [getElem!_pos, show m - 1 < zs.length by omega]
      refine ⟨h1, fun x => ?_, fun x hx => ⟨by omega, ?_⟩⟩
      · rw [List.mem_append, h2, List.mem_singleton]
        refine ⟨.inl, fun h => h.elim id fun e => ?_⟩
        rw [e, he, getElem!_pos zs (m - 1) (by omega)]
        exact List.mem_take_iff_getElem.2 ⟨m - 1, by omega, rfl⟩
      · rw [Nat.add_sub_cancel, hget', he]
        exact (h3 x hx).2

/-- What sorting and compacting leave. -/
def tidy (ss : List (List UInt8)) : List (List UInt8) := Lib.compact (ss.mergeSort fun x y => decide (x ≤ y))

theorem tidy_rising (ss : List (List UInt8)) : Rising (tidy ss) := by
  have hs : (ss.mergeSort fun x y => decide (x ≤ y)).Pairwise (· ≤ ·) := by
    refine (List.pairwise_mergeSort (le := fun x y => decide (x ≤ y)) (fun x y z h1 h2 => ?_) (fun x y => ?_) ss).imp (fun h => of_decide_eq_true h)
    · exact decide_eq_true (List.le_trans (of_decide_eq_true h1) (of_decide_eq_true h2))
    · have := List.le_total x y
      simpa using this
  exact (compact_part _ hs _ (Nat.le_refl _)).1

theorem tidy_mem (ss : List (List UInt8)) (x : List UInt8) : x ∈ tidy ss ↔ x ∈ ss := by
  have hs : (ss.mergeSort fun x y => decide (x ≤ y)).Pairwise (· ≤ ·) := by
    refine (List.pairwise_mergeSort (le := fun x y => decide (x ≤ y)) (fun x y z h1 h2 => ?_) (fun x y => ?_) ss).imp (fun h => of_decide_eq_true h)
    · exact decide_eq_true (List.le_trans (of_decide_eq_true h1) (of_decide_eq_true h2))
    · have := List.le_total x y
      simpa using this
  rw [tidy, Lib.compact, (compact_part _ hs _ (Nat.le_refl _)).2.1, List.take_length]
  exact List.mem_mergeSort

theorem tidy_le (ss : List (List UInt8)) : (tidy ss).length ≤ ss.length := by
  have := Lib.compact_length_le (ss.mergeSort fun x y => decide (x ≤ y))
  rw [List.length_mergeSort] at this
  exact this

/-- Put in where it belongs. -/
theorem put_in {R : List (List UInt8)} {x : List UInt8} {k : Nat} (hR : Rising R) (hk : k ≤ R.length) (hlow : ∀ j (h : j < k), R[j] < x) (hhigh : ∀ h : k < R.length, ¬ R[k] < x ∧ R[k] ≠ x) :
    Rising (R.take k ++ [x] ++ R.drop k) ∧ ∀ y, y ∈ R.take k ++ [x] ++ R.drop k ↔ y ∈ R ∨ y = x := by
  unfold Rising at hR ⊢
  have hsp := List.take_append_drop k R
  have hp := hR
  rw [← hsp, List.pairwise_append] at hp
  have hlo : ∀ y, y ∈ R.take k → y < x := fun y hy => by
    obtain ⟨j, hj, rfl⟩ := List.mem_take_iff_getElem.1 hy
    exact hlow j (by omega)
  have hhi : ∀ y, y ∈ R.drop k → x < y := fun y hy => by
    obtain ⟨j, hj, rfl⟩ := List.mem_iff_getElem.1 hy
    rw [List.length_drop] at hj
    rw [List.getElem_drop]
    have hx : x < R[k] := lt_or (hhigh (by omega)).1 (hhigh (by omega)).2
    rcases Nat.eq_zero_or_pos j with h0 | h0
    · subst h0; exact hx
    · exact lt_tr hx (List.pairwise_iff_getElem.1 hR k (k + j) (by omega) (by omega) (by omega))
  refine ⟨?_, fun y => ?_⟩
  · rw [List.append_assoc, List.pairwise_append, List.pairwise_append]
    refine ⟨hp.1, ⟨List.pairwise_singleton _ _, hp.2.1, fun a ha b hb => by rw [List.mem_singleton.1 ha]; exact hhi b hb⟩, fun a ha b hb => ?_⟩
    rcases List.mem_append.1 hb with h | h
    · rw [List.mem_singleton.1 h]; exact hlo a ha
    · exact lt_tr (hlo a ha) (hhi b h)
  · have hm : y ∈ R ↔ y ∈ R.take k ∨ y ∈ R.drop k := by rw [← List.mem_append, hsp]
    rw [hm, List.mem_append, List.mem_append, List.mem_singleton]
    constructor
    · rintro ((h | h) | h)
      · exact .inl (.inl h)
      · exact .inr h
      · exact .inl (.inr h)
    · rintro ((h | h) | h)
      · exact .inl (.inl h)
      · exact .inr h
      · exact .inl (.inr h)

/-- The bytes of texts. -/
def keyL (ts : List ByteArray) : List (List UInt8) := ts.map (·.data.toList)

def ofKey (l : List (List UInt8)) : List ByteArray := l.map fun x => ⟨x.toArray⟩

theorem keyL_ofKey (l : List (List UInt8)) : keyL (ofKey l) = l := by
  unfold keyL ofKey
  rw [List.map_map]
  exact (List.map_congr_left (fun x _ => by simp)).trans (List.map_id l)

theorem ofKey_keyL (ts : List ByteArray) : ofKey (keyL ts) = ts := by
  unfold keyL ofKey
  rw [List.map_map]
  exact (List.map_congr_left (fun x _ => by simp)).trans (List.map_id ts)

theorem sv_key (ts : List ByteArray) : sv ts = (keyL ts).map encStr := (Lib.map_encStr ts).symm

theorem sv_ofKey (l : List (List UInt8)) : sv (ofKey l) = l.map encStr := by rw [sv_key, keyL_ofKey]

open Go.Sort in
/-- The end of the program's list: what the two contracts leave. -/
theorem tidied {B : Nat} {w0 w1 : World} {base g cap n nn q : Nat} {e : TypeId} {os : Array Obj} {ss : List (List UInt8)} (hown : w1.ownsRow base e 1 (.slice (some ⟨g, 0, none⟩) n cap) n (ss.map encStr)) (hbel : Below B w0 w1) (hB : B ≤ base) (hbg : base ≤ g) (hlen : ss.length = n) :
    (putRow encStr (Sort.ahead (Sort.grow (putRow encStr (Sort.ahead w1 nn) g 0 (ss.mergeSort fun x y => decide (x ≤ y)).toArray) os) q) g 0 (Lib.compact (ss.mergeSort fun x y => decide (x ≤ y)) ++ List.replicate (n - (Lib.compact (ss.mergeSort fun x y => decide (x ≤ y))).length) []).toArray).ownsRow base e 1 (.slice (some ⟨g, 0, none⟩) (tidy ss).length cap) (tidy ss).length ((tidy ss).map encStr) ∧
    Below B w0 (putRow encStr (Sort.ahead (Sort.grow (putRow encStr (Sort.ahead w1 nn) g 0 (ss.mergeSort fun x y => decide (x ≤ y)).toArray) os) q) g 0 (Lib.compact (ss.mergeSort fun x y => decide (x ≤ y)) ++ List.replicate (n - (Lib.compact (ss.mergeSort fun x y => decide (x ≤ y))).length) []).toArray) := by
  have hl2 : (ss.mergeSort fun x y => decide (x ≤ y)).length = ss.length := List.length_mergeSort ss
  have hle := Lib.compact_length_le (ss.mergeSort fun x y => decide (x ≤ y))
  subst hlen
  unfold tidy
  rcases hown.2 with ⟨h0, _⟩ | ⟨g', cap', cur, hv, hbase, hb, h1, h2, h3, h4⟩
  · cases h0
  cases hv
  have hs := ownsRow_sorted (n := nn) (os := os) (ts := ss.mergeSort fun x y => decide (x ≤ y)) hl2 hbase hb h1 h2 h3
  have hc := Lib.ownsRow_putRow (q := q) (k := (Lib.compact (ss.mergeSort fun x y => decide (x ≤ y))).length) (ys := Lib.compact (ss.mergeSort fun x y => decide (x ≤ y)) ++ List.replicate (ss.length - (Lib.compact (ss.mergeSort fun x y => decide (x ≤ y))).length) []) hs (by simp; omega) (by omega)
  rw [List.take_left] at hc
  exact ⟨hc, Lib.below_putRow (hbel.grown (grownBy_sorted _) (Nat.le_trans hB (Nat.le_trans hbase (Nat.le_of_lt (Array.getElem?_eq_some_iff.1 hb).1))) (fun j hj => by cases hj; exact Nat.le_trans hB hbase)) (Nat.le_trans hB hbg)⟩

end Go.Proofs.Ytjghodfdejdjoaa
