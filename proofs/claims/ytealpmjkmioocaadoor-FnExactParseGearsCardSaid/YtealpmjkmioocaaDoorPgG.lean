/- The text of gears as parts that are put together. No conditions. -/
import Derived.Test.YtealpmjkmioocaaDoorPgD
namespace Go.Proofs.YtealpmjkmioocaaDoor

theorem jn_snoc (b : UInt8) : ∀ (ps : List (List UInt8)), ps ≠ [] → ∀ q, jn b (ps ++ [q]) = jn b ps ++ b :: q
  | [], h, _ => absurd rfl h
  | [p], _, q => rfl
  | p :: r :: ps, _, q => by
    have ih := jn_snoc b (r :: ps) (by simp) q
    show p ++ b :: jn b ((r :: ps) ++ [q]) = (p ++ b :: jn b (r :: ps)) ++ b :: q
    rw [ih]
    simp

/-- The parts of a text of gears. -/
def gtP (a b : Int) (ks : List (List Int)) (k : Nat) : List (List UInt8) := (lkB a b).data.toList :: (ks.take k).map (fun y => (textOf y).data.toList)

theorem gtU_jn (a b : Int) (ks : List (List Int)) : ∀ k, k ≤ ks.length → (gtU a b ks k).data.toList = jn 58 (gtP a b ks k)
  | 0, _ => rfl
  | k + 1, hk => by
    have ih := gtU_jn a b ks k (by omega)
    have hlt : k < ks.length := hk
    have hg : ks.getD k [] = ks[k] := by rw [List.getD, List.getElem?_eq_getElem hlt]; rfl
    have hp : gtP a b ks (k + 1) = gtP a b ks k ++ [(textOf (ks.getD k [])).data.toList] := by
      unfold gtP
      rw [List.take_succ_eq_append_getElem hlt, List.map_append, hg]
      rfl
    rw [gtU_succ, ByteArray.data_append, Array.toList_append, ih, hp, jn_snoc _ _ (by unfold gtP; simp), ByteArray.data_append, Array.toList_append]
    rfl

theorem dgA_dg {s : ByteArray} (h : Digits (dgA s)) : dgA s = dg s ∧ ∀ k (hk : k < s.size), 48 ≤ (s[k].toNat : Int) ∧ (s[k].toNat : Int) ≤ 57 := by
  have hb : ∀ k (hk : k < s.size), 48 ≤ (s[k].toNat : Int) ∧ (s[k].toNat : Int) ≤ 57 := fun k hk => by
    have h1 := h k (by rw [dgA_length]; exact hk)
    rw [dgA_at hk, IntKind.wrap_u8] at h1
    have h2 := s[k].toNat_lt
    omega
  refine ⟨?_, hb⟩
  unfold dgA dg
  refine List.map_congr_left fun c hc => ?_
  obtain ⟨j, hj, rfl⟩ := List.getElem_of_mem hc
  have h1 := hb j hj
  have e : s[j] = s.data.toList[j] := rfl
  rw [e] at h1
  rw [IntKind.wrap_u8]
  omega

/-- A text whose letters are digits is the text of its digits. -/
theorem textOf_dgA {s : ByteArray} (h : Digits (dgA s)) : textOf (dgA s) = s := by
  obtain ⟨h1, h2⟩ := dgA_dg h
  rw [h1]
  have hl : (textOf (dg s)).data.toList = s.data.toList := by
    unfold textOf dg
    rw [strOfNums_data, List.map_map, List.map_map]
    refine (List.map_congr_left (fun c hc => ?_)).trans (List.map_id _)
    obtain ⟨j, hj, rfl⟩ := List.getElem_of_mem hc
    have h3 := (h2 j hj).1
    have e : s[j] = s.data.toList[j] := rfl
    rw [e] at h3
    show UInt8.ofNat (48 + ((s.data.toList[j].toNat : Int) - 48)).toNat = s.data.toList[j]
    rw [show (48 + ((s.data.toList[j].toNat : Int) - 48)).toNat = s.data.toList[j].toNat by omega]
    exact UInt8.ofNat_toNat
  have hd : (textOf (dg s)).data = s.data := Array.toList_inj.1 hl
  generalize textOf (dg s) = u at hd
  cases u; cases s; simp at hd; rw [hd]

end Go.Proofs.YtealpmjkmioocaaDoor
