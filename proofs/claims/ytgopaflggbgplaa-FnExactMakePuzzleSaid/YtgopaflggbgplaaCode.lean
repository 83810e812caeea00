/- What the two programs answer for IsCode, and the law on it: for every lock and text both answer alike. No conditions. -/
import Derived.Test.YtgopaflggbgplaaLock
import Derived.Deep.QuietTactic
import Derived.BigQuiet
import Derived.LoopTactic
import Derived.Lib.Hide
namespace Go.Proofs.Ytgopaflggbgplaa
open Go.ChangeShapes Go.WideShapes Go.ChangeAt Go.RowKit Go.Joins

def inB (n lo hi : Int) : Bool := decide (lo ≤ n ∧ n ≤ hi)

theorem l1In_any (n lo hi : Int) (w : World) :
    Calls Try.prog 37 #[.int .i64 n, .int .i64 lo, .int .i64 hi] w fun e w' => e = .returned (.bool (inB n lo hi)) ∧ w' = w := by
  go_enter Try.func37, Try.ntmps37
  go_wp2
  all_goals go_ret
  all_goals refine ⟨ret_bool ?_, rfl⟩
  all_goals (unfold inB; rw [Bool.eq_iff_iff]; simp; try omega)

/-- One letter is a digit below b. -/
def digitB (b : Int) (c : UInt8) : Bool := decide (48 ≤ (c.toNat : Int) ∧ (c.toNat : Int) - 48 < b)

def isCodeB (a b : Int) (s : ByteArray) : Bool := decide ((s.size : Int) = a) && s.data.toList.all (digitB b)

theorem all_snoc {s : ByteArray} {k : Nat} {p : UInt8 → Bool} {h : k < s.size} (ha : (s.data.toList.take k).all p = true) (hd : p s[k] = true) : (s.data.toList.take (k + 1)).all p = true := by
  rw [List.take_succ_eq_append_getElem (by simpa using h), List.all_append, ha]
  have hd' : p (s.data[k]'(by simpa using h)) = true := hd
  simpa using hd'

theorem all_not {s : ByteArray} {k : Nat} {p : UInt8 → Bool} (h : k < s.size) (hd : ¬ p s[k] = true) : s.data.toList.all p = false := by
  rw [List.all_eq_false]
  have e : s[k] = s.data.toList[k]'(by simpa using h) := rfl
  exact ⟨s[k], by rw [e]; exact List.getElem_mem _, hd⟩

theorem whCode_any (a b : Int) (s : ByteArray) (w : World) (hs : s.size ≤ maxLen) (hg : goodB a b = true) :
    Calls Try.prog 36 #[.agg #[.int .i64 a, .int .i64 b], .string s] w fun e w' => e = .returned (.bool (isCodeB a b s)) ∧ Below w.heap.size w w' := by
  have hg' := good_yes hg
  clear hg
  obtain ⟨h1, h2, h3, h4⟩ := hg'
  unfold maxLen at hs
  by_cases hl : (s.size : Int) = a
  · subst hl
    go_enter Try.func36, Try.ntmps36
    go_wp2
    go_loopw [5] (fun i wr => ∃ k : Nat, k ≤ s.size ∧ i = .int .i64 k ∧ (s.data.toList.take k).all (digitB b) = true ∧ wr.cell? ⟨w.heap.size, 0, none⟩ = some (.int .i64 s.size) ∧ wr.cell? ⟨w.heap.size, 1, none⟩ = some (.int .i64 b) ∧ Below w.heap.size w wr) (fun i _ => s.size - (intOf i).toNat)
    case atStart => exact ⟨0, by omega, rfl, rfl, by simp, by simp, by (repeat (first | assumption | exact Below.refl _ _ | (refine Below.alloc ?_ (by first | omega | (simp; done) | (simp; omega)) _) | (refine Below.setCell ?_ (by first | omega | (simp; done) | (simp; omega)) _) | refine bel_drewN ?_ _ | refine bel_drew ?_ | (refine bel_call ?_ (by assumption))))⟩
    case round =>
      obtain ⟨k, hk, rfl, hall, hc0, hc1, hB⟩ := hrel
      have HA := Lib.hid hall
      clear hall
      by_cases hlt : k < s.size
      · have hu : (s[k].toNat : Int) ≤ 255 := by have := s[k].toNat_lt; omega
        by_cases hd : digitB b s[k] = true
        · have HD := Lib.hid hd
          clear hd
          have hin : inB ((s[k].toNat : Int) - 48) 0 (b - 1) = true := by have := HD.out; unfold digitB at this; unfold inB; simp at this ⊢; omega
          go_wp2
          go_quiet ((go_at_call 37; exact Calls.quiet_of_same (l1In_any _ _ _ _)))
          go_wp2
          go_roundw
          case rel => exact ⟨k + 1, by omega, by go_num, all_snoc HA.out HD.out, by simp [hc0], by simp [hc1], bel_drewN hB _⟩
          case measure => simp [intOf]; omega
        · have HD := Lib.hid hd
          clear hd
          have hin : inB ((s[k].toNat : Int) - 48) 0 (b - 1) = false := by have := HD.out; unfold digitB at this; unfold inB; simp at this ⊢; omega
          go_wp2
          go_quiet ((go_at_call 37; exact Calls.quiet_of_same (l1In_any _ _ _ _)))
          go_wp2
          go_ret
          refine ⟨ret_bool ?_, bel_drewN hB _⟩
          have := all_not hlt HD.out
          simp [isCodeB, this]
      · go_wp2
        go_ret
        refine ⟨ret_bool ?_, hB⟩
        have e : k = s.size := by omega
        have := HA.out
        rw [e, List.take_of_length_le (by simp)] at this
        simp [isCodeB, this]
  · go_enter Try.func36, Try.ntmps36
    go_wp2
    go_ret
    refine ⟨ret_bool (by unfold isCodeB; simp [hl]), ?_⟩
    (repeat (first | assumption | exact Below.refl _ _ | (refine Below.alloc ?_ (by first | omega | (simp; done) | (simp; omega)) _) | (refine Below.setCell ?_ (by first | omega | (simp; done) | (simp; omega)) _) | refine bel_drewN ?_ _ | refine bel_drew ?_ | (refine bel_call ?_ (by assumption))))

set_option maxHeartbeats 400000 in
theorem hasCode_any (a b : Int) (s : ByteArray) (w : World) (hs : s.size ≤ maxLen) :
    Calls Try.prog 42 #[.agg #[.int .i64 a, .int .i64 b], .string s] w fun e w' => e = .returned (.bool (goodB a b && isCodeB a b s)) ∧ Below w.heap.size w w' := by
  unfold maxLen at hs
  by_cases hg : goodB a b = true
  · have hg' := good_yes hg
    have HG := Lib.hid hg
    clear hg
    obtain ⟨h1, h2, h3, h4⟩ := hg'
    by_cases hl : (s.size : Int) = a
    · subst hl
      go_enter Try.func42, Try.ntmps42
      go_wp2_with (go_at_call 58; refine (isLock_any _ _ _).mono ?_; rw [HG.out]; rintro e w1 ⟨rfl, hb⟩; obtain ⟨hc, hf, hz⟩ := bcell hb; have hz0 : w.heap.size < w1.heap.size := by (try simp at hz); omega)
      have hB : Below w.heap.size w w1 := by (repeat (first | assumption | exact Below.refl _ _ | (refine Below.alloc ?_ (by first | omega | (simp; done) | (simp; omega)) _) | (refine Below.setCell ?_ (by first | omega | (simp; done) | (simp; omega)) _) | refine bel_drewN ?_ _ | refine bel_drew ?_ | (refine bel_call ?_ (by assumption))))
      have d0 : w1.cell? ⟨w.heap.size, 0, none⟩ = some (.int .i64 s.size) := by rw [hc _ _ (by simp)]; simp
      have d1 : w1.cell? ⟨w.heap.size, 1, none⟩ = some (.int .i64 b) := by rw [hc _ _ (by simp)]; simp
      clear hc hf hz hb hz0
      go_loopw [18] (fun i wr => ∃ k : Nat, k ≤ s.size ∧ i = .int .i64 k ∧ (s.data.toList.take k).all (digitB b) = true ∧ wr.cell? ⟨w.heap.size, 0, none⟩ = some (.int .i64 s.size) ∧ wr.cell? ⟨w.heap.size, 1, none⟩ = some (.int .i64 b) ∧ Below w.heap.size w wr) (fun i _ => s.size - (intOf i).toNat)
      case atStart => exact ⟨0, by omega, rfl, by simp, d0, d1, hB⟩
      case round =>
        clear d0 d1 hB
        obtain ⟨k, hk, rfl, hall, hc0, hc1, hB⟩ := hrel
        have HA := Lib.hid hall
        clear hall
        by_cases hlt : k < s.size
        · have hu : (s[k].toNat : Int) ≤ 255 := by have := s[k].toNat_lt; omega
          by_cases hlo : (s[k].toNat : Int) < 48
          · have HD : Hid (¬ digitB b s[k] = true) := Lib.hid (by unfold digitB; simp; omega)
            go_wp2
            go_quiet (fail)
            go_wp2
            go_ret
            refine ⟨ret_bool ?_, bel_drewN hB _⟩
            have := all_not hlt HD.out
            simp [isCodeB, this]
          · have hlo' : decide ((s[k].toNat : Int) < 48) = false := by simpa using hlo
            by_cases hd : b ≤ (s[k].toNat : Int) - 48
            · have HD : Hid (¬ digitB b s[k] = true) := Lib.hid (by unfold digitB; simp; omega)
              go_wp2
              go_quiet (fail)
              go_wp2
              go_ret
              refine ⟨ret_bool ?_, bel_drewN hB _⟩
              have := all_not hlt HD.out
              simp [isCodeB, this]
            · have HD : Hid (digitB b s[k] = true) := Lib.hid (by unfold digitB; simp; omega)
              go_wp2
              go_quiet (fail)
              go_wp2
              go_roundw
              case rel => exact ⟨k + 1, by omega, by go_num, all_snoc HA.out HD.out, by simp [hc0], by simp [hc1], bel_drewN hB _⟩
              case measure => simp [intOf]; omega
        · go_wp2
          go_ret
          refine ⟨ret_bool ?_, hB⟩
          have e : k = s.size := by omega
          have := HA.out
          rw [e, List.take_of_length_le (by simp)] at this
          simp [isCodeB, this, HG.out]
    · go_enter Try.func42, Try.ntmps42
      go_wp2_with (go_at_call 58; refine (isLock_any _ _ _).mono ?_; rw [HG.out]; rintro e w1 ⟨rfl, hb⟩; obtain ⟨hc, hf, hz⟩ := bcell hb; have hz0 : w.heap.size < w1.heap.size := by (try simp at hz); omega)
      go_ret
      refine ⟨ret_bool ?_, ?_⟩
      · simp [isCodeB, hl]
      · (repeat (first | assumption | exact Below.refl _ _ | (refine Below.alloc ?_ (by first | omega | (simp; done) | (simp; omega)) _) | (refine Below.setCell ?_ (by first | omega | (simp; done) | (simp; omega)) _) | refine bel_drewN ?_ _ | refine bel_drew ?_ | (refine bel_call ?_ (by assumption))))
  · go_enter Try.func42, Try.ntmps42
    have HG := Lib.hid hg
    clear hg
    go_wp2_with (go_at_call 58; refine (isLock_any _ _ _).mono ?_; rw [Bool.eq_false_iff.2 HG.out]; rintro e w1 ⟨rfl, hb⟩; obtain ⟨hc, hf, hz⟩ := bcell hb; have hz0 : w.heap.size < w1.heap.size := by (try simp at hz); omega)
    go_ret
    refine ⟨ret_bool ?_, ?_⟩
    · rw [Bool.eq_false_iff.2 HG.out]; rfl
    · (repeat (first | assumption | exact Below.refl _ _ | (refine Below.alloc ?_ (by first | omega | (simp; done) | (simp; omega)) _) | (refine Below.setCell ?_ (by first | omega | (simp; done) | (simp; omega)) _) | refine bel_drewN ?_ _ | refine bel_drew ?_ | (refine bel_call ?_ (by assumption))))
end Go.Proofs.Ytgopaflggbgplaa
