/- The text of pins: what it is. No conditions. -/
import Derived.Test.YtgdjbclkdnmebaaDoorJa
import Derived.Test.YtgdjbclkdnmebaaDoorVe
import Derived.Lib.Join
namespace Go.Proofs.YtgdjbclkdnmebaaDoor
open Go.ChangeShapes Go.WideShapes Go.ChangeAt Go.RowKit Go.Joins

theorem bytes_extJ {x y : ByteArray} (h : x.data.toList = y.data.toList) : x = y := by
  cases x; cases y; simp only [ByteArray.mk.injEq]; exact Array.toList_inj.1 h

theorem join_end (sep : List UInt8) (xs : List (List UInt8)) (h : xs ≠ []) (y : List UInt8) : Lib.join (xs ++ [y]) sep = Lib.join xs sep ++ (sep ++ y) := by
  cases xs with
  | nil => exact absurd rfl h
  | cons x r =>
    rw [List.cons_append, Lib.join_cons, Lib.join_cons]
    unfold Lib.joinTail
    rw [List.map_append, List.flatten_append, List.append_assoc]
    simp

/-- The text through the first k lists. -/
def pxU (d : Int) (ks : List (List Int)) : Nat → ByteArray
  | 0 => numB d ++ ⟨#[61]⟩
  | k + 1 => (if k = 0 then pxU d ks k else pxU d ks k ++ ⟨#[44]⟩) ++ textOf (ks.getD k [])

theorem pxU_succ (d : Int) (ks : List (List Int)) (k : Nat) : pxU d ks (k + 1) = (if k = 0 then pxU d ks k else pxU d ks k ++ ⟨#[44]⟩) ++ textOf (ks.getD k []) := rfl

def pxP (ks : List (List Int)) (k : Nat) : List ByteArray := (ks.take k).map textOf

theorem pxP_succ {ks : List (List Int)} {k : Nat} (h : k < ks.length) : pxP ks (k + 1) = pxP ks k ++ [textOf (ks.getD k [])] := by
  unfold pxP
  rw [List.take_succ_eq_append_getElem h, List.map_append]
  simp [List.getD, List.getElem?_eq_getElem h]

theorem pxP_length {ks : List (List Int)} {k : Nat} (h : k ≤ ks.length) : (pxP ks k).length = k := by
  unfold pxP
  rw [List.length_map, List.length_take]; omega

/-- What stands behind the sign. -/
def pxJ (ks : List (List Int)) (k : Nat) : ByteArray := ⟨(Lib.join ((pxP ks k).map (·.data.toList)) (⟨#[44]⟩ : ByteArray).data.toList).toArray⟩

theorem pxU_join {d : Int} {ks : List (List Int)} (k : Nat) (h1 : 1 ≤ k) (h : k ≤ ks.length) : pxU d ks k = numB d ++ ⟨#[61]⟩ ++ pxJ ks k := by
  induction k with
  | zero => omega
  | succ k ih =>
    rw [pxU_succ]
    by_cases e : k = 0
    · subst e
      rw [if_pos rfl]
      show numB d ++ ⟨#[61]⟩ ++ _ = _
      congr 1
      refine bytes_extJ ?_
      show _ = Lib.join ((pxP ks 1).map (·.data.toList)) _
      rw [pxP_succ (by omega)]
      show _ = Lib.join ((pxP ks 0 ++ [textOf (ks.getD 0 [])]).map _) _
      rw [show pxP ks 0 = [] from rfl, List.nil_append, List.map_cons, List.map_nil, Lib.join_one]
    · rw [if_neg e, ih (by omega) (by omega)]
      refine bytes_extJ ?_
      have hj : (pxJ ks (k + 1)).data.toList = (pxJ ks k).data.toList ++ ([44] ++ (textOf (ks.getD k [])).data.toList) := by
        show Lib.join ((pxP ks (k + 1)).map (·.data.toList)) _ = Lib.join ((pxP ks k).map (·.data.toList)) _ ++ _
        rw [pxP_succ (by omega), List.map_append]
        refine join_end _ _ (fun h => ?_) _
        have := congrArg List.length h
        rw [List.length_map, pxP_length (by omega)] at this
        exact e this
      simp only [ByteArray.data_append, Array.toList_append]
      rw [hj]
      simp only [List.append_assoc]

/-- The text of pins. -/
def pxB (d : Int) (ks : List (List Int)) : ByteArray := if pinsB d ks then pxU d ks ks.length else ⟨#[]⟩

/-- What is asked of a walk over pins that can be. -/
structure PxH (d : Int) (ks : List (List Int)) (n : Nat) : Prop where
  pins : pinsB d ks = true
  len : ks.length = n
  d1 : 1 ≤ d
  d9 : d ≤ 9
  n1 : 1 ≤ n
  n7 : n ≤ 7

theorem pxH {d : Int} {ks : List (List Int)} {n : Nat} (h : pinsB d ks = true) (hl : ks.length = n) : PxH d ks n := by
  have := pinsB_yes h
  exact ⟨h, hl, by omega, by omega, by omega, by omega⟩

theorem PxH.list {d : Int} {ks : List (List Int)} {n : Nat} (h : PxH d ks n) {k : Nat} (hk : k < n) : Digits (ks.getD k []) ∧ (ks.getD k []).length ≤ 9 := by
  have h9 := h.d9
  obtain ⟨_, _, _, _, h5⟩ := pinsB_yes h.pins
  have hr := (h5 k (by rw [h.len]; exact hk)).2
  refine ⟨fun j hj => ?_, ?_⟩
  · have hs := small_at (small_rise (Int.le_refl 0) h9 hr) hj
    omega
  · have := rise_len hr (by omega)
    omega

theorem pxU_size {d : Int} {ks : List (List Int)} {n : Nat} (h : PxH d ks n) : ∀ k, k ≤ n → (pxU d ks k).size ≤ 3 + 10 * k
  | 0, _ => by
    have h1 := numB_size (n := d) (by have := h.d1; omega) (by have := h.d9; omega)
    show (numB d ++ ⟨#[61]⟩).size ≤ _
    rw [ByteArray.size_append]
    show _ + 1 ≤ _
    omega
  | k + 1, hk => by
    have ih := pxU_size h k (by omega)
    have hy := (h.list (show k < n by omega)).2
    rw [pxU_succ, ByteArray.size_append, textOf_size]
    split
    · omega
    · rw [ByteArray.size_append]
      show _ + 1 + _ ≤ _
      omega

theorem PxH.add {d : Int} {ks : List (List Int)} {n : Nat} (h : PxH d ks n) {k : Nat} (hk : k < n) (W : World) :
    (k = 0 → (Op.stringOp .add (pxU d ks k) (textOf (ks.getD k []))).run Tryd.prog W = .ok (.string (pxU d ks (k + 1))) W) ∧
    (k ≠ 0 → (Op.stringOp .add (pxU d ks k) ⟨#[44]⟩).run Tryd.prog W = .ok (.string (pxU d ks k ++ ⟨#[44]⟩)) W ∧ (Op.stringOp .add (pxU d ks k ++ ⟨#[44]⟩) (textOf (ks.getD k []))).run Tryd.prog W = .ok (.string (pxU d ks (k + 1))) W) := by
  have h1 := (h.list hk).2
  have h2 := pxU_size h k (by omega)
  have h3 := h.n7
  have hs : (textOf (ks.getD k [])).size ≤ 9 := by rw [textOf_size]; exact h1
  have h44 : (⟨#[44]⟩ : ByteArray).size = 1 := rfl
  refine ⟨fun e => ?_, fun e => ⟨run_string_add_sum _ _ _ (by rw [h44]; omega), ?_⟩⟩
  · rw [pxU_succ, if_pos e]
    exact run_string_add_sum _ _ _ (by omega)
  · rw [pxU_succ, if_neg e]
    exact run_string_add_sum _ _ _ (by rw [ByteArray.size_append, h44]; omega)

theorem PxH.head {d : Int} {ks : List (List Int)} {n : Nat} (h : PxH d ks n) (W : World) :
    (Op.stringOp .add (numB d) ⟨#[61]⟩).run Tryd.prog W = .ok (.string (pxU d ks 0)) W ∧ (Op.stringOp .add (numB d ++ ⟨#[61]⟩) (pxJ ks n)).run Tryd.prog W = .ok (.string (pxU d ks n)) W ∧ (pxJ ks n).size ≤ 73 := by
  have h1 := numB_size (n := d) (by have := h.d1; omega) (by have := h.d9; omega)
  have h61 : (⟨#[61]⟩ : ByteArray).size = 1 := rfl
  have h2 := pxU_size h n (Nat.le_refl _)
  have h3 := h.n7
  have e := pxU_join (d := d) (ks := ks) n h.n1 (by rw [h.len]; exact Nat.le_refl _)
  have h4 : (pxU d ks n).size = (numB d ++ ⟨#[61]⟩).size + (pxJ ks n).size := by rw [e, ByteArray.size_append]
  have h5 : (numB d ++ ⟨#[61]⟩).size = (numB d).size + 1 := by rw [ByteArray.size_append, h61]
  refine ⟨run_string_add_sum _ _ _ (by rw [h61]; omega), ?_, by omega⟩
  rw [e]
  exact run_string_add_sum _ _ _ (by omega)

end Go.Proofs.YtgdjbclkdnmebaaDoor
