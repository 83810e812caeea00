/- The parts of a text, as the model makes them. For texts of at most 2^20 bytes. -/
import Derived.Test.YtealpmjkmioocaaDoorPgP
import Derived.Test.YtealpmjkmioocaaDoorStrs
namespace Go.Proofs.YtealpmjkmioocaaDoor
open Go.ChangeShapes Go.WideShapes Go.ChangeAt Go.RowKit Go.Joins

set_option maxRecDepth 100000 in
set_option maxHeartbeats 2000000 in
theorem l1Split_any (s : ByteArray) (b : UInt8) (hl : s.size ≤ 1048576) (w : World) :
    Calls Tryd.prog 18 #[.string s, .int .u8 (b.toNat : Int)] w fun e w' => ∃ A c, e = .returned (.slice A (spA b s).length c) ∧ OwnS w' w.heap.size A (spA b s).length (spA b s) ∧ (spA b s).length ≤ c ∧ Below w.heap.size w w' := by
  obtain ⟨i0, hi, hz0, hz1, hz2⟩ := info_parts info_string
  go_enter Tryd.func18, Tryd.ntmps18
  go_wp2
  go_loopw [5, 6, 7] (fun v f i wr => ∃ k : Nat, k ≤ s.size ∧ i = .int .i64 k ∧ f = .int .i64 ((spK b s k).2 : Nat) ∧ wr.ownsRow w.heap.size 9 1 v (spK b s k).1.length (sv (spK b s k).1) ∧ Below w.heap.size w wr) (fun _ _ i _ => s.size - (intOf i).toNat)
  case atStart => exact ⟨0, by omega, rfl, rfl, World.ownsRow_nil _ _ _ _, Below.refl _ _⟩
  case round =>
    obtain ⟨k, hk, rfl, rfl, hown, hB⟩ := hrel
    have hle := spK_le b s k
    obtain ⟨f, hf⟩ : ∃ f, (spK b s k).2 = f := ⟨_, rfl⟩
    obtain ⟨ps, hps⟩ : ∃ ps, (spK b s k).1 = ps := ⟨_, rfl⟩
    rw [hf, hps] at hle
    rw [hps] at hown
    rw [hf]
    obtain ⟨h1, h2⟩ := hle
    by_cases hlt : k < s.size
    · have hg : s.data.toList.getD k 0 = s[k] := getD_at hlt
      by_cases hit : s[k] = b
      · have hc : s[k].toNat = b.toNat := by rw [hit]
        have hs1 : spK b s (k + 1) = (ps ++ [s.extract f k], k + 1) := by
          conv => lhs; unfold spK
          rw [hg, if_pos hit, hf, hps]
        go_wp2_with (at_builtin; refine wpList_append_own _ rfl _ _ 32 rfl w.heap.size 9 i0 (.string ByteArray.empty) 1 16 Tryd.underlying32 hi hz0 hz1 hz2 rfl (by decide) _ _ _ rfl (hown.alloc _) ⟨wr.heap.size, 0, none⟩ 1 1 [.string (s.extract f k)] rfl rfl (news_of rfl) (by simp [Value.oneCell']) (by unfold maxLen; omega) (by omega) (by have := hB.size; simp; omega) ?_)
        intro v' w1 hown' hgrow _
        have hB' : Below w.heap.size w w1 := (hB.alloc hB.size _).grown hgrow (by have := hB.size; simp; omega) (fun j hj => (hown.lt j hj).1)
        clear hgrow hown
        go_wp2
        go_roundw
        case rel =>
          refine ⟨k + 1, by omega, by go_num, ?_, ?_, hB'⟩
          · rw [hs1]; go_num
          · rw [hs1]
            show w1.ownsRow _ _ _ _ (ps ++ [s.extract f k]).length (sv (ps ++ [s.extract f k]))
            rw [List.length_append, sv_snoc]
            exact hown'
        case measure => simp [intOf]; omega
      · have hc : s[k].toNat ≠ b.toNat := fun e => hit (UInt8.toNat_inj.1 e)
        have hs1 : spK b s (k + 1) = spK b s k := by
          conv => lhs; unfold spK
          rw [hg, if_neg hit]
        go_wp2
        go_roundw
        case rel =>
          refine ⟨k + 1, by omega, by go_num, ?_, ?_, hB⟩
          · rw [hs1, hf]
          · rw [hs1, hps]; exact hown
        case measure => simp [intOf]; omega
    · obtain rfl : k = s.size := by omega
      have hA : spA b s = ps ++ [s.extract f s.size] := by unfold spA; rw [hf, hps]
      go_wp2_with (at_builtin; refine wpList_append_own _ rfl _ _ 32 rfl w.heap.size 9 i0 (.string ByteArray.empty) 1 16 Tryd.underlying32 hi hz0 hz1 hz2 rfl (by decide) _ _ _ rfl (hown.alloc _) ⟨wr.heap.size, 0, none⟩ 1 1 [.string (s.extract f s.size)] rfl rfl (news_of rfl) (by simp [Value.oneCell']) (by unfold maxLen; omega) (by omega) (by have := hB.size; simp; omega) ?_)
      intro v' w1 hown' hgrow _
      have hB' : Below w.heap.size w w1 := (hB.alloc hB.size _).grown hgrow (by have := hB.size; simp; omega) (fun j hj => (hown.lt j hj).1)
      clear hgrow hown
      go_wp2
      go_ret
      rw [← sv_snoc] at hown'
      obtain ⟨A, c, rfl, hO⟩ := own_strs (ts := ps ++ [s.extract f s.size]) hown' (by omega)
      have hcap : ps.length + [s.extract f s.size].length ≤ c := by
        rcases hown'.2 with ⟨_, h0⟩ | ⟨_, _, _, e, _, _, h1, _⟩
        · omega
        · injection e with _ _ e3
          rw [e3]
          exact h1
      rw [hA, List.length_append]
      exact ⟨A, c, rfl, hO, hcap, hB'⟩

end Go.Proofs.YtealpmjkmioocaaDoor
