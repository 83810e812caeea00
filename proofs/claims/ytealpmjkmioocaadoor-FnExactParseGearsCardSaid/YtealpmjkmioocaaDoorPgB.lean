/- The library's parts of a text at a colon. No conditions. -/
import Derived.Test.YtealpmjkmioocaaDoorPgE
import Derived.Lib.SplitLaws
import Derived.Lib.CountLaws
import Derived.Lib.CutLaws
import Derived.Lib.IndexBytes
import Derived.Lib.IndexLaws
namespace Go.Proofs.YtealpmjkmioocaaDoor

theorem splitB_spl : ∀ (N : Nat) (s : ByteArray), s.size ≤ N → (Lib.splitB ⟨#[58]⟩ 0 (Lib.countB s ⟨#[58]⟩) s).map (fun p => p.data.toList) = spl 58 s.data.toList
  | N, s, hN => by
    have hone : Lib.indexB s ⟨#[58]⟩ = Lib.indexByte s.data.toList 58 := Lib.index_one s.data.toList 58
    have h1 : (⟨#[58]⟩ : ByteArray).size = 1 := rfl
    rcases Lib.indexB_cases s ⟨#[58]⟩ with h | ⟨i, h, hi⟩
    · rw [Lib.splitB_miss _ _ _ _ h]
      rw [hone] at h
      have hno := Lib.indexByte_none h
      refine (spl_part 58 s.data.toList fun hm => ?_).symm
      obtain ⟨j, hj, he⟩ := List.getElem_of_mem hm
      exact hno j (by rw [List.getElem?_eq_getElem hj, he])
    · rw [Lib.countB_hit s _ i (by rw [h1]; omega) h, Nat.add_comm 1, Lib.splitB_hit _ _ _ _ i h]
      rw [h1] at hi ⊢
      rw [hone] at h
      obtain ⟨hs, hno⟩ := Lib.indexByte_some h
      have hsz : s.data.toList.length = s.size := rfl
      have hlt : i < s.data.toList.length := by omega
      have hx : (s.extract (i + 1) s.size).size = s.size - (i + 1) := by rw [ByteArray.size_extract]; omega
      cases N with
      | zero => omega
      | succ N =>
        have ih := splitB_spl N (s.extract (i + 1) s.size) (by rw [hx]; omega)
        have ht : s.data.toList.take s.size = s.data.toList := List.take_of_length_le (by omega)
        rw [List.map_cons, ih, extract_list, extract_list, ht, Nat.add_zero, List.drop_zero]
        have hget : s.data.toList[i] = 58 := by
          rw [List.getElem?_eq_getElem hlt] at hs
          exact Option.some.inj hs
        have hd : s.data.toList = s.data.toList.take i ++ 58 :: s.data.toList.drop (i + 1) := by
          conv => lhs; rw [← List.take_append_drop i s.data.toList, List.drop_eq_getElem_cons hlt, hget]
        have hnm : (58 : UInt8) ∉ s.data.toList.take i := fun hm => by
          obtain ⟨j, hj, he⟩ := List.getElem_of_mem hm
          rw [List.length_take] at hj
          rw [List.getElem_take] at he
          exact hno j (by omega) (by rw [List.getElem?_eq_getElem (by omega), he])
        conv => rhs; rw [hd, spl_app 58 _ _ hnm]

/-- What strings.Split hands back are the model's parts. -/
theorem split_spA (s : ByteArray) : Lib.splitB ⟨#[58]⟩ 0 (Lib.countB s ⟨#[58]⟩) s = spA 58 s :=
  map_ext _ _ (by rw [splitB_spl s.size s (Nat.le_refl _), spA_spl])

/-- The two sides of a lock's text. -/
theorem lk_sides {a b : Int} (h : goodB a b = true) : spA 120 (lkB a b) = [numB a, numB b] := by
  have hg := good_yes h
  refine map_ext _ _ ?_
  rw [spA_spl, lkB_list, spl_app 120 _ _ (numB_no (by omega) (by omega) 120 (by decide)), spl_part 120 _ (numB_no (by omega) (by omega) 120 (by decide))]
  rfl

/-- How long the text of gears is. -/
theorem gt_short {a b : Int} {ks : List (List Int)} (h : gearsB a b ks = true) : (gtU a b ks ks.length).size ≤ 40 := by
  have h1 := gtU_size h ks.length (Nat.le_refl _)
  have h2 := (gearsB_yes h).2.2.2.1
  omega

end Go.Proofs.YtealpmjkmioocaaDoor
