/- Words as texts: told again and again, without their greatest last digits, one greater. No conditions beyond those of each lemma. -/
import Derived.Test.YteolmplbgmfhmaaDoorRm
import Derived.Lib.Repeat
import Derived.Lib.TrimByte
namespace Go.Proofs.YteolmplbgmfhmaaDoor

/-- The letter of a digit. -/
def byt (d : Int) : UInt8 := UInt8.ofNat (48 + d).toNat

theorem textOf_list (ds : List Int) : (textOf ds).data.toList = ds.map byt := by
  unfold textOf
  rw [strOfNums_data, List.map_map]
  rfl

theorem textOf_append (xs ys : List Int) : textOf (xs ++ ys) = textOf xs ++ textOf ys := by
  refine bytes_ext ?_
  rw [ByteArray.data_append, Array.toList_append, textOf_list, textOf_list, textOf_list, List.map_append]

theorem textOf_nil : textOf [] = ByteArray.empty := rfl

theorem textOf_one (d : Int) : textOf [d] = ⟨#[byt d]⟩ := rfl

theorem byt_inj {d e : Int} (h0 : 0 ≤ d) (h9 : d ≤ 9) (k0 : 0 ≤ e) (k9 : e ≤ 9) (h : byt d = byt e) : d = e := by
  unfold byt at h
  have := congrArg UInt8.toNat h
  rw [UInt8.toNat_ofNat', UInt8.toNat_ofNat'] at this
  omega

theorem byt_small {d : Int} (h0 : 0 ≤ d) (h9 : d ≤ 9) : (byt d).toNat < 128 := by
  unfold byt
  rw [UInt8.toNat_ofNat']
  omega

theorem repeatL_at (l : List UInt8) (hl : 1 ≤ l.length) : ∀ (c j : Nat), j < c * l.length → (Lib.repeatL l c)[j]? = l[j % l.length]?
  | 0, j, h => by omega
  | c + 1, j, h => by
    rw [Lib.repeatL]
    by_cases hj : j < l.length
    · rw [List.getElem?_append_left hj, Nat.mod_eq_of_lt hj]
    · rw [List.getElem?_append_right (by omega), repeatL_at l hl c (j - l.length) (by rw [Nat.succ_mul] at h; omega)]
      congr 1
      rw [Nat.mod_eq_sub_mod (a := j) (by omega)]

theorem repW_length (n : Nat) (w : List Int) : (repW n w).length = n := by unfold repW; rw [List.length_map, List.length_range]

theorem repW_at {n : Nat} {w : List Int} {j : Nat} (h : j < n) : (repW n w).getD j 0 = w.getD (j % w.length) 0 := by
  unfold repW
  simp [List.getD, h]

theorem repeat_text {n : Nat} {w : List Int} (h : 1 ≤ w.length) : (⟨(Lib.repeatL (textOf w).data.toList n).toArray⟩ : ByteArray).extract 0 n = textOf (repW n w) := by
  refine bytes_ext ?_
  rw [ByteArray.data_extract, Array.toList_extract, textOf_list, textOf_list]
  simp only [List.extract, Nat.sub_zero, List.drop_zero]
  have hl : (w.map byt).length = w.length := List.length_map _
  have hn : n ≤ n * w.length := by
    have := Nat.mul_le_mul_left n h
    omega
  apply List.ext_getElem?
  intro j
  by_cases hj : j < n
  · rw [List.getElem?_take_of_lt hj, repeatL_at _ (by rw [hl]; exact h) n j (by rw [hl]; omega), hl, List.getElem?_map, List.getElem?_map]
    unfold repW
    rw [List.getElem?_map, List.getElem?_range hj]
    have hm : j % w.length < w.length := Nat.mod_lt _ h
    simp [List.getD, List.getElem?_eq_getElem hm]
  · rw [List.getElem?_eq_none (by rw [List.length_take]; omega), List.getElem?_eq_none (by rw [List.length_map, repW_length]; omega)]

theorem drop_text {m : Int} (h0 : 0 ≤ m) (h9 : m ≤ 9) : ∀ (l : List Int), (∀ x ∈ l, 0 ≤ x ∧ x ≤ 9) → (l.map byt).dropWhile (· == byt m) = (l.dropWhile (· == m)).map byt
  | [], _ => rfl
  | x :: l, hr => by
    obtain ⟨x0, x9⟩ := hr x List.mem_cons_self
    rw [List.map_cons, List.dropWhile_cons, List.dropWhile_cons]
    by_cases hx : x = m
    · subst hx
      rw [if_pos (beq_self_eq_true _), if_pos (beq_self_eq_true _)]
      exact drop_text h0 h9 l fun y hy => hr y (List.mem_cons_of_mem _ hy)
    · rw [if_neg (by rw [beq_iff_eq]; exact fun e => hx (byt_inj x0 x9 h0 h9 e)), if_neg (by rw [beq_iff_eq]; exact hx), List.map_cons]

theorem trim_text {m : Int} {w : List Int} (hd : Digits w) (h0 : 0 ≤ m) (h9 : m ≤ 9) : (⟨(Lib.trimRightB (textOf w).data.toList (byt m)).toArray⟩ : ByteArray) = textOf (trimW m w) := by
  refine bytes_ext ?_
  rw [textOf_list, textOf_list]
  show ((w.map byt).reverse.dropWhile (· == byt m)).reverse = ((w.reverse.dropWhile (· == m)).reverse).map byt
  have hr : ∀ x ∈ w.reverse, 0 ≤ x ∧ x ≤ 9 := fun x hx => by
    obtain ⟨i, hi, rfl⟩ := List.getElem_of_mem (List.mem_reverse.1 hx)
    have := hd i hi
    rwa [List.getD, List.getElem?_eq_getElem hi] at this
  have h := drop_text h0 h9 w.reverse hr
  rw [List.map_reverse] at h
  rw [h, List.map_reverse]

theorem trimW_le (m : Int) (w : List Int) : (trimW m w).length ≤ w.length := by
  unfold trimW
  rw [List.length_reverse]
  have := (List.dropWhile_sublist (l := w.reverse) (· == m)).length_le
  rw [List.length_reverse] at this
  exact this

theorem trimW_mem {m : Int} {w : List Int} {d : Int} (h : d ∈ trimW m w) : d ∈ w := by
  unfold trimW at h
  rw [List.mem_reverse] at h
  exact List.mem_reverse.1 ((List.dropWhile_sublist _).mem h)

theorem repW_low {b : Int} {n : Nat} {w : List Int} (h : Low b w) (h1 : 1 ≤ w.length) : Low b (repW n w) := fun j hj => by
  rw [repW_length] at hj
  rw [repW_at hj]
  exact h _ (Nat.mod_lt _ h1)

theorem nxW_low {b : Int} {n : Nat} {w : List Int} (h : Low b w) (h1 : 1 ≤ w.length) : Low b (nxW b n w) := low_of fun d hd => by
  unfold nxW at hd
  exact low_mem (repW_low h h1) (trimW_mem hd)

theorem nxW_le {b : Int} {n : Nat} {w : List Int} : (nxW b n w).length ≤ n := by
  have := trimW_le (b - 1) (repW n w)
  rw [repW_length] at this
  exact this

theorem incW_length {w : List Int} (h : w ≠ []) : (incW w).length = w.length := by
  have : 0 < w.length := List.length_pos_iff.2 h
  unfold incW
  rw [List.length_append, List.length_dropLast, List.length_singleton]
  omega

theorem incW_at {w : List Int} (h : w ≠ []) {j : Nat} (hj : j < w.length) : (incW w).getD j 0 = if j = w.length - 1 then w.getD (w.length - 1) 0 + 1 else w.getD j 0 := by
  have h0 : 0 < w.length := List.length_pos_iff.2 h
  unfold incW
  by_cases e : j = w.length - 1
  · subst e
    rw [if_pos rfl, List.getD, List.getElem?_append_right (by rw [List.length_dropLast]; exact Nat.le_refl _), List.length_dropLast, Nat.sub_self]
    simp [List.getD, List.getLast?_eq_getElem?]
  · rw [if_neg e, List.getD, List.getElem?_append_left (by rw [List.length_dropLast]; omega), List.getElem?_dropLast, if_pos (by omega)]
    rfl

end Go.Proofs.YteolmplbgmfhmaaDoor
