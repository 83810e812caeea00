/- A number read from a text, as the model reads it. For texts of at most 2^20 bytes. -/
import Derived.Test.YtealpmjkmioocaaDoorPgL
namespace Go.Proofs.YtealpmjkmioocaaDoor
open Go.ChangeShapes Go.WideShapes Go.ChangeAt Go.RowKit Go.Joins

/-- The number that the first bytes write. -/
def rdN (s : ByteArray) : Nat → Int
  | 0 => 0
  | k + 1 => 10 * rdN s k + (((s.data.toList.getD k 0).toNat : Int) - 48)

def dgt (s : ByteArray) (k : Nat) : Prop := ∀ j, j < k → 48 ≤ (s.data.toList.getD j 0).toNat ∧ (s.data.toList.getD j 0).toNat ≤ 57

theorem rdN_bound {s : ByteArray} : ∀ {k : Nat}, k ≤ 6 → dgt s k → 0 ≤ rdN s k ∧ rdN s k + 1 ≤ (10 : Int) ^ k
  | 0, _, _ => ⟨Int.le_refl 0, by show (0 : Int) + 1 ≤ 1; decide⟩
  | k + 1, hk, h => by
    have ih := rdN_bound (k := k) (by omega) (fun j hj => h j (by omega))
    have h1 := h k (by omega)
    have e : (10 : Int) ^ (k + 1) = 10 * 10 ^ k := by rw [Int.pow_succ, Int.mul_comm]
    rw [e]
    show 0 ≤ 10 * rdN s k + _ ∧ 10 * rdN s k + _ + 1 ≤ _
    omega

theorem pow6 {k : Nat} (h : k ≤ 6) : (10 : Int) ^ k ≤ 1000000 := by
  have : k = 0 ∨ k = 1 ∨ k = 2 ∨ k = 3 ∨ k = 4 ∨ k = 5 ∨ k = 6 := by omega
  rcases this with rfl | rfl | rfl | rfl | rfl | rfl | rfl <;> decide

theorem getD_at {s : ByteArray} {k : Nat} (h : k < s.size) : (s.data.toList.getD k 0) = s[k] := by
  have h1 : k < s.data.toList.length := h
  rw [List.getD, List.getElem?_eq_getElem h1]
  rfl

/-- What the text of a small number is. -/
theorem numB_is {n : Int} (h0 : 0 ≤ n) (h10 : n ≤ 10) {s : ByteArray} (hs : s = numB n) :
    1 ≤ s.size ∧ s.size ≤ 6 ∧ ((s.data.toList.getD 0 0).toNat = 48 → s.size = 1) ∧ dgt s s.size ∧ rdN s s.size = n := by
  have hd : s.data.toList = (numB n).data.toList := by rw [hs]
  have hz : s.size = (numB n).data.toList.length := by rw [hs]; rfl
  rcases Int.lt_or_le n 10 with h | h
  · rw [numB_lit h0 (by omega)] at hd hz
    have hz1 : s.size = 1 := hz
    have : n = 0 ∨ n = 1 ∨ n = 2 ∨ n = 3 ∨ n = 4 ∨ n = 5 ∨ n = 6 ∨ n = 7 ∨ n = 8 ∨ n = 9 := by omega
    refine ⟨by omega, by omega, fun _ => hz1, ?_, ?_⟩
    · intro j hj
      obtain rfl : j = 0 := by omega
      rw [hd]
      rcases this with rfl | rfl | rfl | rfl | rfl | rfl | rfl | rfl | rfl | rfl <;> decide
    · rw [hz1]
      show 10 * 0 + (((s.data.toList.getD 0 0).toNat : Int) - 48) = n
      rw [hd]
      rcases this with rfl | rfl | rfl | rfl | rfl | rfl | rfl | rfl | rfl | rfl <;> decide
  · obtain rfl : n = 10 := by omega
    rw [numB_lit10] at hd hz
    have hz2 : s.size = 2 := hz
    refine ⟨by omega, by omega, fun hc => ?_, ?_, ?_⟩
    · rw [hd] at hc
      exact absurd hc (by decide)
    · intro j hj
      have : j = 0 ∨ j = 1 := by omega
      rw [hd]
      rcases this with rfl | rfl <;> decide
    · rw [hz2]
      show 10 * (10 * 0 + (((s.data.toList.getD 0 0).toNat : Int) - 48)) + (((s.data.toList.getD 1 0).toNat : Int) - 48) = 10
      rw [hd]
      decide

set_option maxRecDepth 100000 in
set_option maxHeartbeats 2000000 in
theorem l1Read_any (s : ByteArray) (hl : s.size ≤ 1048576) (w : World) :
    Calls Tryd.prog 19 #[.string s] w fun e w' => ∃ r : Int, e = .returned (.int .i64 r) ∧ (∀ n, 0 ≤ n → n ≤ 10 → s = numB n → r = n) ∧ Below w.heap.size w w' := by
  by_cases h16 : 1 ≤ s.size ∧ s.size ≤ 6
  · obtain ⟨h1, h6⟩ := h16
    have hi0 : 0 < s.size := by omega
    go_enter Tryd.func19, Tryd.ntmps19
    have hin : inB (s.size : Int) 1 6 = true := by unfold inB; rw [decide_eq_true_iff]; omega
    by_cases hz : s[0].toNat = 48 ∧ 1 < s.size
    · go_wp2_with (go_at_call 33; refine (l1In_any _ _ _ _).mono ?_; rw [hin]; rintro e w2 ⟨rfl, rfl⟩)
      go_ret
      refine ⟨_, rfl, fun n h0 h10 hs => ?_, Below.refl _ _⟩
      have := (numB_is h0 h10 hs).2.2.1 (by rw [getD_at hi0]; exact hz.1)
      omega
    · go_wp2_with (go_at_call 33; refine (l1In_any _ _ _ _).mono ?_; rw [hin]; rintro e w2 ⟨rfl, rfl⟩)
      all_goals
        go_loopw [3, 4] (fun n i wr => ∃ k : Nat, k ≤ s.size ∧ i = .int .i64 k ∧ n = .int .i64 (rdN s k) ∧ dgt s k ∧ Below w2.heap.size w2 wr) (fun _ i _ => s.size - (intOf i).toNat)
        case atStart => exact ⟨0, by omega, rfl, rfl, fun j hj => absurd hj (by omega), Below.refl _ _⟩
        case round =>
          obtain ⟨k, hk, rfl, rfl, hd, hB⟩ := hrel
          by_cases hlt : k < s.size
          · have hg : s.data.toList.getD k 0 = s[k] := getD_at hlt
            by_cases hok : 48 ≤ s[k].toNat ∧ s[k].toNat ≤ 57
            · obtain ⟨b1, b2⟩ := rdN_bound (k := k) (by omega) hd
              have b3 := pow6 (k := k) (by omega)
              obtain ⟨o1, o2⟩ := hok
              have e1 : rdN s (k + 1) = 10 * rdN s k + ((s[k].toNat : Int) - 48) := by
                show 10 * rdN s k + (((s.data.toList.getD k 0).toNat : Int) - 48) = _
                rw [hg]
              obtain ⟨z, hzz⟩ : ∃ z, rdN s k = z := ⟨_, rfl⟩
              obtain ⟨u, hu⟩ : ∃ u, s[k].toNat = u := ⟨_, rfl⟩
              rw [hzz] at b1 b2 e1 ⊢
              rw [hu] at o1 o2 e1
              have hw1 : IntKind.i64.wrap (10 * z) = 10 * z := by rw [IntKind.wrap_i64]; omega
              have hw2 : IntKind.u8.wrap ((u : Int) - 48) = (u : Int) - 48 := by rw [IntKind.wrap_u8]; omega
              have hw3 : IntKind.i64.wrap (10 * z + ((u : Int) - 48)) = 10 * z + ((u : Int) - 48) := by rw [IntKind.wrap_i64]; omega
              have hw4 : IntKind.i64.wrap ((u : Int) - 48) = (u : Int) - 48 := by rw [IntKind.wrap_i64]; omega
              go_wp2_with fail
              go_roundw
              case rel =>
                refine ⟨k + 1, by omega, by go_num, ?_, ?_, hB⟩
                · rw [e1]
                · intro j hj
                  rcases Nat.lt_or_ge j k with h | h
                  · exact hd j h
                  · obtain rfl : j = k := by omega
                    rw [hg, hu]
                    exact ⟨o1, o2⟩
              case measure => simp [intOf]; omega
            · go_wp2_with fail
              all_goals
                go_ret
                refine ⟨_, rfl, fun n h0 h10 hs => ?_, hB⟩
                have h9 := (numB_is h0 h10 hs).2.2.2.1 k hlt
                rw [hg] at h9
                exact absurd h9 hok
          · go_wp2_with fail
            go_ret
            obtain rfl : k = s.size := by omega
            exact ⟨_, rfl, fun n h0 h10 hs => (numB_is h0 h10 hs).2.2.2.2, hB⟩
  · have hin : inB (s.size : Int) 1 6 = false := by unfold inB; rw [decide_eq_false_iff_not]; omega
    go_enter Tryd.func19, Tryd.ntmps19
    go_wp2_with (go_at_call 33; refine (l1In_any _ _ _ _).mono ?_; rw [hin]; rintro e w2 ⟨rfl, rfl⟩)
    go_ret
    refine ⟨_, rfl, fun n h0 h10 hs => ?_, Below.refl _ _⟩
    have := numB_is h0 h10 hs
    exact absurd ⟨this.1, this.2.1⟩ h16

end Go.Proofs.YtealpmjkmioocaaDoor
