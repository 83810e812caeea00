/- The parts of a text, one after another. No conditions. -/
import Derived.Test.YtealpmjkmioocaaDoorPgR
namespace Go.Proofs.YtealpmjkmioocaaDoor

/-- The parts that are closed behind the first k bytes, and where the open one begins. -/
def spK (b : UInt8) (s : ByteArray) : Nat → List ByteArray × Nat
  | 0 => ([], 0)
  | k + 1 => if s.data.toList.getD k 0 = b then ((spK b s k).1 ++ [s.extract (spK b s k).2 k], k + 1) else spK b s k

/-- All parts. -/
def spA (b : UInt8) (s : ByteArray) : List ByteArray := (spK b s s.size).1 ++ [s.extract (spK b s s.size).2 s.size]

theorem spK_le (b : UInt8) (s : ByteArray) : ∀ k, (spK b s k).2 ≤ k ∧ (spK b s k).1.length ≤ k
  | 0 => ⟨Nat.le_refl _, Nat.le_refl _⟩
  | k + 1 => by
    have ih := spK_le b s k
    unfold spK
    split
    · refine ⟨Nat.le_refl _, ?_⟩
      rw [List.length_append, List.length_singleton]
      omega
    · omega

theorem extract_list (s : ByteArray) (i j : Nat) : (s.extract i j).data.toList = (s.data.toList.take j).drop i := by
  rw [ByteArray.data_extract, Array.toList_extract]
  simp [List.extract, List.drop_take]

theorem spK_spl (b : UInt8) (s : ByteArray) : ∀ k, k ≤ s.size → spl b s.data.toList = (spK b s k).1.map (fun p => p.data.toList) ++ spl b (s.data.toList.drop (spK b s k).2) ∧ b ∉ (s.data.toList.take k).drop (spK b s k).2
  | 0, _ => ⟨rfl, by simp⟩
  | k + 1, hk => by
    obtain ⟨ih1, ih2⟩ := spK_spl b s k (by omega)
    have hle := (spK_le b s k).1
    have hlen : k < s.data.toList.length := hk
    obtain ⟨f, hf⟩ : ∃ f, (spK b s k).2 = f := ⟨_, rfl⟩
    obtain ⟨c, hc⟩ : ∃ c, s.data.toList.getD k 0 = c := ⟨_, rfl⟩
    have hcat : s.data.toList[k] = c := by rw [← hc, List.getD, List.getElem?_eq_getElem hlen]; rfl
    have htake : s.data.toList.take (k + 1) = s.data.toList.take k ++ [c] := by rw [List.take_succ_eq_append_getElem hlen, hcat]
    have hfl : f ≤ (s.data.toList.take k).length := by rw [List.length_take]; omega
    unfold spK
    rw [hf] at ih1 ih2 hle
    rw [hc, hf]
    split
    · rename_i h
      refine ⟨?_, ?_⟩
      · rw [ih1, List.map_append, List.append_assoc]
        congr 1
        have hd : s.data.toList.drop f = (s.data.toList.take k).drop f ++ b :: s.data.toList.drop (k + 1) := by
          conv => lhs; rw [← List.take_append_drop k s.data.toList, List.drop_append_of_le_length hfl, List.drop_eq_getElem_cons hlen, hcat, h]
        rw [hd, spl_app b _ _ ih2]
        show _ = [(s.extract f k).data.toList] ++ _
        rw [extract_list]
        rfl
      · show b ∉ (s.data.toList.take (k + 1)).drop (k + 1)
        rw [List.drop_of_length_le (by rw [List.length_take]; omega)]
        simp
    · rename_i h
      rw [hf]
      refine ⟨ih1, ?_⟩
      rw [htake, List.drop_append_of_le_length hfl]
      intro hm
      rcases List.mem_append.1 hm with hm | hm
      · exact ih2 hm
      · exact h (List.mem_singleton.1 hm).symm

theorem spA_spl (b : UInt8) (s : ByteArray) : (spA b s).map (fun p => p.data.toList) = spl b s.data.toList := by
  obtain ⟨h1, h2⟩ := spK_spl b s s.size (Nat.le_refl _)
  have hl : s.data.toList.length = s.size := rfl
  rw [h1]
  unfold spA
  rw [List.map_append]
  congr 1
  rw [List.take_of_length_le (by omega)] at h2
  rw [spl_part b _ h2]
  show [(s.extract _ _).data.toList] = _
  rw [extract_list, List.take_of_length_le (by omega)]

end Go.Proofs.YtealpmjkmioocaaDoor
