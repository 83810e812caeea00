/- What the program answers when it asks for a code, for a seat whose base leaves it out. No conditions. -/
import Derived.Test.YteolmplbgmfhmaaDoorIsCode
namespace Go.Proofs.YteolmplbgmfhmaaDoor
open Go.ChangeShapes Go.WideShapes Go.ChangeAt Go.RowKit Go.Joins

set_option maxHeartbeats 400000 in
theorem hasCode_any (a b : Int) (s : ByteArray) (w : World) (hs : s.size ≤ maxLen) :
    Calls Tryd.prog 34 #[.agg #[.int .i64 a, .int .i64 b], .string s] w fun e w' => e = .returned (.bool (goodB a b && isCodeB a b s)) ∧ Below w.heap.size w w' := by
  unfold maxLen at hs
  by_cases hg : goodB a b = true
  · have hg' := good_yes hg
    have HG := Lib.hid hg
    clear hg
    obtain ⟨h1, h2, h3, h4⟩ := hg'
    by_cases hl : (s.size : Int) = a
    · subst hl
      go_enter Tryd.func34, Tryd.ntmps34
      go_wp2_with (go_at_call 50; refine (isLock_any _ _ _).mono ?_; rw [HG.out]; rintro e w1 ⟨rfl, hb⟩; obtain ⟨hc, hf, hz⟩ := bcell hb; have hz0 : w.heap.size < w1.heap.size := by (try simp at hz); omega)
      have hB : Below w.heap.size w w1 := by (repeat (first | assumption | exact Below.refl _ _ | (refine Below.alloc ?_ (by first | omega | (simp; done) | (simp; omega)) _) | (refine Below.setCell ?_ (by first | omega | (simp; done) | (simp; omega)) _) | refine bel_drewN ?_ _ | refine bel_drew ?_ | (refine bel_call ?_ (by assumption))))
      have d0 : w1.cell? ⟨w.heap.size, 0, none⟩ = some (.int .i64 s.size) := by rw [hc _ _ (by simp)]; simp
      have d1 : w1.cell? ⟨w.heap.size, 1, none⟩ = some (.int .i64 b) := by rw [hc _ _ (by simp)]; simp
      clear hc hf hz hb hz0
      go_loopw [18] (fun i wr => ∃ k : Nat, k ≤ s.size ∧ i = .int .i64 k ∧ (s.data.toList.take k).all (digitB b) = true ∧ wr.cell? ⟨w.heap.size, 0, none⟩ = some (.int .i64 s.size) ∧ wr.cell? ⟨w.heap.size, 1, none⟩ = some (.int .i64 b) ∧ Below w.heap.size w wr) (fun i _ => s.size - (intOf i).toNat)
      case atStart => exact ⟨0, by omega, rfl, by simp, d0, d1, hB⟩
      case round =>
        clear d0 d1 hB
        obtain ⟨k, hk, rfl, hall, hc0, hc1, hB⟩ := hrel
        have HA := Lib.hid hall
        clear hall
        by_cases hlt : k < s.size
        · have hu : (s[k].toNat : Int) ≤ 255 := by have := s[k].toNat_lt; omega
          by_cases hlo : (s[k].toNat : Int) < 48
          · have HD : Hid (¬ digitB b s[k] = true) := Lib.hid (by unfold digitB; simp; omega)
            go_wp2
            go_quiet (fail)
            go_wp2
            go_ret
            refine ⟨ret_bool ?_, bel_drewN hB _⟩
            have := all_not hlt HD.out
            simp [isCodeB, this]
          · have hlo' : decide ((s[k].toNat : Int) < 48) = false := by simpa using hlo
            by_cases hd : b ≤ (s[k].toNat : Int) - 48
            · have HD : Hid (¬ digitB b s[k] = true) := Lib.hid (by unfold digitB; simp; omega)
              go_wp2
              go_quiet (fail)
              go_wp2
              go_ret
              refine ⟨ret_bool ?_, bel_drewN hB _⟩
              have := all_not hlt HD.out
              simp [isCodeB, this]
            · have HD : Hid (digitB b s[k] = true) := Lib.hid (by unfold digitB; simp; omega)
              go_wp2
              go_quiet (fail)
              go_wp2
              go_roundw
              case rel => exact ⟨k + 1, by omega, by go_num, all_snoc HA.out HD.out, by simp [hc0], by simp [hc1], bel_drewN hB _⟩
              case measure => simp [intOf]; omega
        · go_wp2
          go_ret
          refine ⟨ret_bool ?_, hB⟩
          have e : k = s.size := by omega
          have := HA.out
          rw [e, List.take_of_length_le (by simp)] at this
          simp [isCodeB, this, HG.out]
    · go_enter Tryd.func34, Tryd.ntmps34
      go_wp2_with (go_at_call 50; refine (isLock_any _ _ _).mono ?_; rw [HG.out]; rintro e w1 ⟨rfl, hb⟩; obtain ⟨hc, hf, hz⟩ := bcell hb; have hz0 : w.heap.size < w1.heap.size := by (try simp at hz); omega)
      go_ret
      refine ⟨ret_bool ?_, ?_⟩
      · simp [isCodeB, hl]
      · (repeat (first | assumption | exact Below.refl _ _ | (refine Below.alloc ?_ (by first | omega | (simp; done) | (simp; omega)) _) | (refine Below.setCell ?_ (by first | omega | (simp; done) | (simp; omega)) _) | refine bel_drewN ?_ _ | refine bel_drew ?_ | (refine bel_call ?_ (by assumption))))
  · go_enter Tryd.func34, Tryd.ntmps34
    have HG := Lib.hid hg
    clear hg
    go_wp2_with (go_at_call 50; refine (isLock_any _ _ _).mono ?_; rw [Bool.eq_false_iff.2 HG.out]; rintro e w1 ⟨rfl, hb⟩; obtain ⟨hc, hf, hz⟩ := bcell hb; have hz0 : w.heap.size < w1.heap.size := by (try simp at hz); omega)
    go_ret
    refine ⟨ret_bool ?_, ?_⟩
    · rw [Bool.eq_false_iff.2 HG.out]; rfl
    · (repeat (first | assumption | exact Below.refl _ _ | (refine Below.alloc ?_ (by first | omega | (simp; done) | (simp; omega)) _) | (refine Below.setCell ?_ (by first | omega | (simp; done) | (simp; omega)) _) | refine bel_drewN ?_ _ | refine bel_drew ?_ | (refine bel_call ?_ (by assumption))))



end Go.Proofs.YteolmplbgmfhmaaDoor
