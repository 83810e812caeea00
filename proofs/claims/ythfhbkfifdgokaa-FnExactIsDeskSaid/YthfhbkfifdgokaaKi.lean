/- The library's Index and Contains at texts. No conditions beyond those of each. -/
import Derived.Test.YthfhbkfifdgokaaKd
import Derived.OwnWalk
namespace Go.Proofs.Ythfhbkfifdgokaa
set_option maxRecDepth 100000
open Go.ChangeShapes Go.WideShapes Go.ChangeAt Go.RowKit Go.Joins

theorem indexS_any (A : Option Addr) (n c : Nat) (ts : List ByteArray) (s : ByteArray) (w : World) (hn : n ≤ maxLen) (hA : ArgS w A n ts) :
    Calls Try.prog 29 #[.slice A n c, .string s] w fun e w' => ∃ i : Int, e = .returned (.int .i64 i) ∧ decide (0 ≤ i) = inS ts s ∧ -1 ≤ i ∧ i ≤ 9223372036854775807 ∧ w = w' := by
  unfold maxLen at hn
  have HL := Lib.hid hA.len
  rcases hA.at_ with h0 | ⟨B, off, rfl, hb, hc⟩
  · subst h0
    have HV : Hid (inS ts s = false) := Lib.hid (by rw [List.length_eq_zero_iff.1 HL.out]; exact inS_no (by simp))
    clear hA
    go_enter Try.func29, Try.ntmps29
    go_wp2_with fail
    go_loop [8] (fun i => i = .int .i64 0) (fun _ => 0)
    case atStart => rfl
    case round =>
      obtain rfl := hrel
      go_wp2_with fail
      go_ret
      exact ⟨-1, rfl, HV.out.symm, by omega, by omega, rfl⟩
  · have HC := Lib.hid hc
    clear hc hA
    go_enter Try.func29, Try.ntmps29
    go_wp2_with fail
    go_loop [8] (fun i => ∃ k : Nat, k ≤ n ∧ i = .int .i64 k ∧ s ∉ ts.take k) (fun i => n - (intOf i).toNat)
    case atStart => exact ⟨0, by omega, rfl, by simp⟩
    case round =>
      obtain ⟨k, hk, rfl, hall⟩ := hrel
      have HAL := Lib.hid hall
      clear hall
      by_cases hlt : k < n
      · have o1 := HC.out k hlt
        have HM : Hid (ts.getD k ByteArray.empty ∈ ts) := Lib.hid (by rw [getD_eq (by rw [HL.out]; exact hlt)]; exact List.getElem_mem _)
        have HS : Hid (ts.getD k ByteArray.empty ≠ s → s ∉ ts.take (k + 1)) := Lib.hid (notin_snoc (by rw [HL.out]; exact hlt) HAL.out)
        generalize ts.getD k ByteArray.empty = x at o1 HM HS
        by_cases he : x = s
        · subst he
          have HV : Hid (inS ts x = true) := Lib.hid (inS_yes HM.out)
          have hb0 : (x.toList == x.toList) = true := by simp
          go_wp2_with fail
          go_ret
          exact ⟨(k : Int), rfl, by rw [HV.out]; exact decide_eq_true (by omega), by omega, by omega, rfl⟩
        · have HN := Lib.hid (HS.out he)
          have hb0 := bytesN he
          have hb1 := bytesN (fun e => he e.symm : s ≠ x)
          go_wp2_with fail
          go_round
          case rel => exact ⟨k + 1, by omega, by go_num, HN.out⟩
          case measure => simp [intOf]; omega
      · have HV : Hid (inS ts s = false) := Lib.hid (inS_no (by
          have := HAL.out
          rwa [List.take_of_length_le (by rw [HL.out]; omega)] at this))
        go_wp2_with fail
        go_ret
        exact ⟨-1, rfl, HV.out.symm, by omega, by omega, rfl⟩

theorem containsS_any (A : Option Addr) (n c : Nat) (ts : List ByteArray) (s : ByteArray) (w : World) (hn : n ≤ maxLen) (hA : ArgS w A n ts) :
    Calls Try.prog 24 #[.slice A n c, .string s] w fun e w' => e = .returned (.bool (inS ts s)) ∧ w = w' := by
  have HX := Lib.hid (fun (W : World) (h : W = w) => (by subst h; exact indexS_any A n c ts s W hn hA : Calls Try.prog 29 #[.slice A n c, .string s] W fun e w' => ∃ i : Int, e = .returned (.int .i64 i) ∧ decide (0 ≤ i) = inS ts s ∧ -1 ≤ i ∧ i ≤ 9223372036854775807 ∧ W = w'))
  clear hn hA
  go_enter Try.func24, Try.ntmps24
  go_wp2_with (go_at_call 29; refine (HX.out _ rfl).mono ?_; rintro e w1 ⟨i, rfl, hi, hi1, hi2, rfl⟩)
  go_ret
  exact ⟨rfl, rfl⟩

end Go.Proofs.Ythfhbkfifdgokaa
