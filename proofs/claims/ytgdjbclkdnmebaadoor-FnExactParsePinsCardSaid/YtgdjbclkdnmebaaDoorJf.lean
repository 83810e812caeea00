/- Which pins a text names. No conditions. -/
import Derived.Test.YtgdjbclkdnmebaaDoorJe
import Derived.Test.YtgdjbclkdnmebaaDoorJc
namespace Go.Proofs.YtgdjbclkdnmebaaDoor
open Go.ChangeShapes Go.WideShapes Go.ChangeAt Go.RowKit Go.Joins

/-- What the program reads out of a text: the number, the text behind the sign, the lists. -/
def ppD (s : ByteArray) : Int := atoiV (Lib.cut s.data.toList [61]).1
def ppT (s : ByteArray) : ByteArray := ⟨(Lib.cut s.data.toList [61]).2.1.toArray⟩
def ppK (s : ByteArray) : List (List Int) := (spA 44 (ppT s)).map dgA

/-- Whether the text is one of pins. -/
def ppB (s : ByteArray) : Bool := pinsB (ppD s) (ppK s) && decide (pxU (ppD s) (ppK s) (ppK s).length = s)
def ppDz (s : ByteArray) : Int := if ppB s then ppD s else 0
def ppKz (s : ByteArray) : List (List Int) := if ppB s then ppK s else []

theorem snoc_ind {α : Type} {P : List α → Prop} (h0 : P []) (h1 : ∀ xs y, P xs → P (xs ++ [y])) (xs : List α) : P xs := by
  have h : ∀ ys : List α, P ys.reverse := fun ys => by
    induction ys with
    | nil => exact h0
    | cons y ys ih => rw [List.reverse_cons]; exact h1 _ _ ih
  have := h xs.reverse
  rwa [List.reverse_reverse] at this

theorem spA_ne (b : UInt8) (s : ByteArray) : 1 ≤ (spA b s).length := by unfold spA; simp

theorem pxU_list {d : Int} {ks : List (List Int)} (h : pinsB d ks = true) : (pxU d ks ks.length).data.toList = (numB d).data.toList ++ 61 :: jn 44 (ks.map fun y => (textOf y).data.toList) := by
  have hp := pinsB_yes h
  rw [pxU_join ks.length (by omega) (Nat.le_refl _), ByteArray.data_append, ByteArray.data_append, Array.toList_append, Array.toList_append, List.append_assoc]
  congr 1
  show 61 :: (pxJ ks ks.length).data.toList = _
  congr 1
  show Lib.join ((pxP ks ks.length).map (·.data.toList)) [44] = _
  unfold pxP
  rw [List.take_length, List.map_map]
  have key : ∀ xs : List (List UInt8), Lib.join xs [44] = jn 44 xs := snoc_ind rfl fun xs y ih => by
    by_cases e : xs = []
    · subst e; rw [List.nil_append, Lib.join_one]; rfl
    · rw [join_end _ _ e, ih, jn_snoc 44 xs e]; rfl
  rw [key]
  rfl

/-- The text of pins names these pins. -/
theorem pp_of {d : Int} {ks : List (List Int)} {s : ByteArray} (h : pinsB d ks = true) (hs : pxU d ks ks.length = s) : ppD s = d ∧ ppK s = ks ∧ ppB s = true ∧ s.size ≤ 100 ∧ ∃ y, spA 61 s = [numB d, y] := by
  have hp := pinsB_yes h
  have hl := pxU_list h
  rw [hs] at hl
  have hd : ∀ y ∈ ks, Digits y := fun y hy => by
    obtain ⟨i, hi, rfl⟩ := List.getElem_of_mem hy
    have := ((pxH h rfl).list hi).1
    rwa [List.getD, List.getElem?_eq_getElem hi] at this
  have hno : (61 : UInt8) ∉ (numB d).data.toList := numB_no (by omega) (by omega) 61 (by decide)
  have hcut := cut_at 61 (numB d).data.toList (jn 44 (ks.map fun y => (textOf y).data.toList)) hno
  rw [← hl] at hcut
  have e1 : ppD s = d := by
    unfold ppD
    rw [hcut]
    exact atoiV_num (by omega) (by omega)
  have eT : (ppT s).data.toList = jn 44 (ks.map fun y => (textOf y).data.toList) := by
    unfold ppT
    rw [hcut]
  have eS : (spA 44 (ppT s)).map (fun p => p.data.toList) = ks.map fun y => (textOf y).data.toList := by
    rw [spA_spl, eT]
    refine spl_jn 44 _ (fun h0 => ?_) (fun p hp' => ?_)
    · have := congrArg List.length h0
      rw [List.length_map, List.length_nil] at this
      omega
    · obtain ⟨y, hy, rfl⟩ := List.mem_map.1 hp'
      exact digit_no (hd y hy) 44 (by decide)
  have e2 : ppK s = ks := by
    have h1 : spA 44 (ppT s) = ks.map textOf := map_ext _ _ (by rw [eS, List.map_map]; rfl)
    unfold ppK
    rw [h1, List.map_map]
    refine (List.map_congr_left (fun y hy => ?_)).trans (List.map_id ks)
    exact dgA_text (hd y hy)
  refine ⟨e1, e2, ?_, ?_, ?_⟩
  · unfold ppB
    rw [e1, e2, h, hs]
    simp
  · have := pxU_size (pxH h rfl) ks.length (Nat.le_refl _)
    rw [hs] at this
    omega
  · have hnj : (61 : UInt8) ∉ jn 44 (ks.map fun y => (textOf y).data.toList) := fun hm => by
      have : ∀ (ps : List (List UInt8)), (∀ p ∈ ps, (61 : UInt8) ∉ p) → (61 : UInt8) ∉ jn 44 ps := snoc_ind (fun _ h => by cases h) fun xs y ih hx hm => by
        by_cases e : xs = []
        · subst e
          exact hx y (by simp) hm
        · rw [jn_snoc 44 xs e] at hm
          rcases List.mem_append.1 hm with hm | hm
          · exact ih (fun p hp => hx p (List.mem_append_left _ hp)) hm
          · rcases List.mem_cons.1 hm with hm | hm
            · exact absurd hm (by decide)
            · exact hx y (by simp) hm
      refine this _ (fun p hp' => ?_) hm
      obtain ⟨y, hy, rfl⟩ := List.mem_map.1 hp'
      exact digit_no (hd y hy) 61 (by decide)
    refine ⟨⟨(jn 44 (ks.map fun y => (textOf y).data.toList)).toArray⟩, map_ext _ _ ?_⟩
    rw [spA_spl, hl, spl_app 61 _ _ hno, spl_part 61 _ hnj]
    rfl

theorem ppB_yes {s : ByteArray} (h : ppB s = true) : pinsB (ppD s) (ppK s) = true ∧ pxU (ppD s) (ppK s) (ppK s).length = s := by
  unfold ppB at h
  rw [Bool.and_eq_true, decide_eq_true_eq] at h
  exact h

/-- What a text of pins has. -/
theorem pp_parts {s : ByteArray} (h : ppB s = true) : s.size ≤ 100 ∧ ∃ y, spA 61 s = [numB (ppD s), y] := by
  obtain ⟨h1, h2⟩ := ppB_yes h
  exact ⟨(pp_of h1 h2).2.2.2.1, (pp_of h1 h2).2.2.2.2⟩

/-- Where the sign stands once, the model cuts as the program does. -/
theorem pp_two {s x y : ByteArray} (hs : spA 61 s = [x, y]) : ppT s = y := by
  have h1 := spA_spl 61 s
  rw [hs] at h1
  have h2 := jn_spl 61 s.data.toList
  have hx : (61 : UInt8) ∉ x.data.toList := spl_mem 61 s.data.toList _ (by rw [← h1]; simp)
  rw [← h1] at h2
  have h3 : s.data.toList = x.data.toList ++ 61 :: y.data.toList := h2.symm
  have hc := cut_at 61 x.data.toList y.data.toList hx
  rw [← h3] at hc
  refine bytes_ext ?_
  show (Lib.cut s.data.toList [61]).2.1 = _
  rw [hc]

/-- What the model sees. -/
theorem pp_seen {s x y : ByteArray} {a : Int} (hs : spA 61 s = [x, y]) (ha : ∀ n, 0 ≤ n → n ≤ 10 → x = numB n → a = n) :
    ppB s = (pinsB a (ppK s) && decide (pxU a (ppK s) (ppK s).length = s)) ∧ (ppB s = true → a = ppD s) := by
  have hyes : ppB s = true → a = ppD s := fun h => by
    obtain ⟨_, y', h1⟩ := pp_parts h
    rw [hs] at h1
    have hp := pinsB_yes (ppB_yes h).1
    injection h1 with e1 _
    exact ha _ (by omega) (by omega) e1
  refine ⟨?_, hyes⟩
  cases h : ppB s with
  | true =>
    obtain rfl := hyes h
    rw [(ppB_yes h).1, (ppB_yes h).2]
    simp
  | false =>
    cases hg : pinsB a (ppK s) with
    | false => rfl
    | true =>
      by_cases he : pxU a (ppK s) (ppK s).length = s
      · have := (pp_of hg he).2.2.1
        rw [h] at this
        cases this
      · rw [decide_eq_false he]
        rfl

/-- How many numbers the parts give. -/
theorem dgs_size (s : ByteArray) : ((spA 44 s).map dgA).length + lensAt ((spA 44 s).map dgA) ((spA 44 s).map dgA).length = s.size + 1 := by
  have key : ∀ ps : List ByteArray, (ps.map dgA).length + lensAt (ps.map dgA) (ps.map dgA).length = (ps.map fun p => p.data.toList.length + 1).sum := by
    intro ps
    induction ps with
    | nil => rfl
    | cons p ps ih =>
      have hc : ∀ (y : List Int) (ks : List (List Int)) (k : Nat), lensAt (y :: ks) (k + 1) = y.length + lensAt ks k := by
        intro y ks k
        induction k with
        | zero => show 0 + _ = _; simp [lensAt]
        | succ k ih => rw [lensAt, ih, lensAt]; simp [List.getD]; omega
      rw [List.map_cons, List.length_cons, hc, List.map_cons, List.sum_cons, ← ih, dgA_length]
      have : p.data.toList.length = p.size := rfl
      omega
  have hj : ∀ (ps : List (List UInt8)), ps ≠ [] → (jn 44 ps).length + 1 = (ps.map fun p => p.length + 1).sum := snoc_ind (fun h => absurd rfl h) fun xs y ih _ => by
    by_cases e : xs = []
    · subst e
      show y.length + 1 = _
      simp
    · rw [jn_snoc 44 xs e, List.length_append, List.length_cons, List.map_append, List.sum_append, ← ih e]
      simp
      omega
  rw [key]
  have h1 := spA_spl 44 s
  have h2 := jn_spl 44 s.data.toList
  rw [← h1] at h2
  have h3 := hj ((spA 44 s).map fun p => p.data.toList) (fun e => by
    have := congrArg List.length e
    rw [List.length_map, List.length_nil] at this
    have := spA_ne 44 s
    omega)
  rw [h2, List.map_map] at h3
  exact h3.symm

theorem ppT_size (s : ByteArray) : (ppT s).size ≤ s.size := (cutC_le s [61]).2

theorem ppT_room (s : ByteArray) (hs : s.size ≤ 1048576) : (ppT s).size + 1 ≤ 1048576 := by
  have hz : s.data.toList.length = s.size := rfl
  show (Lib.cut s.data.toList [61]).2.1.length + 1 ≤ 1048576
  unfold Lib.cut
  split
  · rename_i h
    have := Lib.index_room s.data.toList [61] h
    show (s.data.toList.drop _).length + 1 ≤ _
    rw [List.length_drop]
    simp only [List.length_singleton] at this ⊢
    omega
  · show ([] : List UInt8).length + 1 ≤ _
    simp

theorem ppK_size (s : ByteArray) (hs : s.size ≤ 1048576) : (ppK s).length + lensAt (ppK s) (ppK s).length ≤ 1048576 := by
  have h1 := dgs_size (ppT s)
  have h2 := ppT_room s hs
  unfold ppK
  omega

end Go.Proofs.YtgdjbclkdnmebaaDoor
