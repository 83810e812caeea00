/- A lock of few codes and a text of its digits: what both programs ask first. No conditions. -/
import Derived.Test.YteolmplbgmfhmaaRm
import Derived.Lib.OthersKept
import Derived.LoopTactic
import Derived.Deep.QuietTactic
import Derived.BigQuiet
namespace Go.Proofs.Yteolmplbgmfhmaa
open Go.ChangeShapes Go.WideShapes Go.ChangeAt Go.RowKit Go.Joins

/-- How many codes a lock of few codes has. -/
def rlZ (a b : Int) : Int := if riB a b then countZ a b else 0

theorem rlZ_yes {n : Nat} {b : Int} (h : riB n b = true) : rlZ n b = pw b n := by unfold rlZ; rw [h, if_pos rfl, countZ_yes (riB_good h)]

theorem rlZ_no {a b : Int} (h : riB a b = false) : rlZ a b = 0 := by unfold rlZ; rw [h]; rfl

theorem rlZ_cn {n : Nat} {b : Int} (h : riB n b = true) : rlZ n b = (cnN n b : Int) := by
  have := cnN_cast (riB_good h)
  rw [Int.toNat_natCast] at this
  rw [rlZ_yes h, this]

theorem ringLength_any (a b : Int) (w : World) :
    Calls Try.prog 39 #[.agg #[.int .i64 a, .int .i64 b]] w fun e w' => e = .returned (.tuple #[.int .i64 (rlZ a b), .bool (riB a b)]) ∧ Below w.heap.size w w' := by
  by_cases hg : goodB a b = true
  · have HG := Lib.hid hg
    obtain ⟨n, rfl⟩ : ∃ n : Nat, a = n := ⟨a.toNat, by have := good_yes hg; omega⟩
    obtain ⟨h1, h2, h3, h4⟩ := good_yes hg
    obtain ⟨p1, p2⟩ := pw_bd6 h3 h4 (k := n) (by omega)
    clear hg
    by_cases hp : pw b n ≤ 1000
    · have HY := Lib.hid (riB_of HG.out hp)
      go_enter Try.func39, Try.ntmps39
      go_wp2_with (go_at_call 59; refine (count_any _ _ _).mono ?_; rw [HG.out, countZ_yes HG.out]; rintro e w1 ⟨rfl, hb⟩; obtain ⟨hc, hf, hz⟩ := bcell hb; have hz0 : w.heap.size < w1.heap.size := by (try simp at hz); omega)
      go_ret2
      refine ⟨by rw [HY.out, rlZ_yes HY.out]; rfl, ?_⟩
      (repeat (first | assumption | exact Below.refl _ _ | (refine Below.alloc ?_ (by first | omega | (simp; done) | (simp; omega)) _) | (refine Below.setCell ?_ (by first | omega | (simp; done) | (simp; omega)) _) | refine bel_drewN ?_ _ | refine bel_drew ?_ | (refine bel_call ?_ (by assumption))))
    · have HY := Lib.hid (riB_not HG.out (by omega))
      go_enter Try.func39, Try.ntmps39
      go_wp2_with (go_at_call 59; refine (count_any _ _ _).mono ?_; rw [HG.out, countZ_yes HG.out]; rintro e w1 ⟨rfl, hb⟩; obtain ⟨hc, hf, hz⟩ := bcell hb; have hz0 : w.heap.size < w1.heap.size := by (try simp at hz); omega)
      go_ret2
      refine ⟨by rw [HY.out, rlZ_no HY.out]; rfl, ?_⟩
      (repeat (first | assumption | exact Below.refl _ _ | (refine Below.alloc ?_ (by first | omega | (simp; done) | (simp; omega)) _) | (refine Below.setCell ?_ (by first | omega | (simp; done) | (simp; omega)) _) | refine bel_drewN ?_ _ | refine bel_drew ?_ | (refine bel_call ?_ (by assumption))))
  · have HG := Lib.hid (Bool.eq_false_iff.2 hg)
    have HY := Lib.hid (riB_no HG.out)
    clear hg
    go_enter Try.func39, Try.ntmps39
    go_wp2_with (go_at_call 59; refine (count_any _ _ _).mono ?_; rw [HG.out]; rintro e w1 ⟨rfl, hb⟩; obtain ⟨hc, hf, hz⟩ := bcell hb; have hz0 : w.heap.size < w1.heap.size := by (try simp at hz); omega)
    go_ret2
    refine ⟨by rw [HY.out, rlZ_no HY.out]; rfl, ?_⟩
    (repeat (first | assumption | exact Below.refl _ _ | (refine Below.alloc ?_ (by first | omega | (simp; done) | (simp; omega)) _) | (refine Below.setCell ?_ (by first | omega | (simp; done) | (simp; omega)) _) | refine bel_drewN ?_ _ | refine bel_drew ?_ | (refine bel_call ?_ (by assumption))))

theorem riGood_any (a b : Int) (w : World) :
    Calls Try.prog 37 #[.agg #[.int .i64 a, .int .i64 b]] w fun e w' => e = .returned (.bool (riB a b)) ∧ Below w.heap.size w w' := by
  by_cases hg : goodB a b = true
  · have HG := Lib.hid hg
    obtain ⟨n, rfl⟩ : ∃ n : Nat, a = n := ⟨a.toNat, by have := good_yes hg; omega⟩
    obtain ⟨h1, h2, h3, h4⟩ := good_yes hg
    obtain ⟨p1, p2⟩ := pw_bd6 h3 h4 (k := n) (by omega)
    clear hg
    by_cases hp : pw b n ≤ 1000
    · have HY := Lib.hid (riB_of HG.out hp)
      go_enter Try.func37, Try.ntmps37
      go_wp2_with (first | (go_at_call 65; refine (whGood_any _ _ _).mono ?_; rw [HG.out]; rintro e w1 ⟨rfl, hb⟩; obtain ⟨hc, hf, hz⟩ := bcell hb; have hz0 : w.heap.size < w1.heap.size := by (try simp at hz); omega) | (go_at_call 53; refine (whCount_any _ _ _ HG.out).mono ?_; rintro e w1 ⟨rfl, hb⟩; obtain ⟨hc, hf, hz⟩ := bcell hb; have hz0 : w.heap.size < w1.heap.size := by (try simp at hz); omega))
      go_ret
      refine ⟨ret_bool (by rw [HY.out]; try simp [hp]), ?_⟩
      (repeat (first | assumption | exact Below.refl _ _ | (refine Below.alloc ?_ (by first | omega | (simp; done) | (simp; omega)) _) | (refine Below.setCell ?_ (by first | omega | (simp; done) | (simp; omega)) _) | refine bel_drewN ?_ _ | refine bel_drew ?_ | (refine bel_call ?_ (by assumption))))
    · have HY := Lib.hid (riB_not HG.out (by omega))
      go_enter Try.func37, Try.ntmps37
      go_wp2_with (first | (go_at_call 65; refine (whGood_any _ _ _).mono ?_; rw [HG.out]; rintro e w1 ⟨rfl, hb⟩; obtain ⟨hc, hf, hz⟩ := bcell hb; have hz0 : w.heap.size < w1.heap.size := by (try simp at hz); omega) | (go_at_call 53; refine (whCount_any _ _ _ HG.out).mono ?_; rintro e w1 ⟨rfl, hb⟩; obtain ⟨hc, hf, hz⟩ := bcell hb; have hz0 : w.heap.size < w1.heap.size := by (try simp at hz); omega))
      go_ret
      refine ⟨ret_bool (by rw [HY.out]; try (simp; omega)), ?_⟩
      (repeat (first | assumption | exact Below.refl _ _ | (refine Below.alloc ?_ (by first | omega | (simp; done) | (simp; omega)) _) | (refine Below.setCell ?_ (by first | omega | (simp; done) | (simp; omega)) _) | refine bel_drewN ?_ _ | refine bel_drew ?_ | (refine bel_call ?_ (by assumption))))
  · have HG := Lib.hid (Bool.eq_false_iff.2 hg)
    have HY := Lib.hid (riB_no HG.out)
    clear hg
    go_enter Try.func37, Try.ntmps37
    go_wp2_with (first | (go_at_call 65; refine (whGood_any _ _ _).mono ?_; rw [HG.out]; rintro e w1 ⟨rfl, hb⟩; obtain ⟨hc, hf, hz⟩ := bcell hb; have hz0 : w.heap.size < w1.heap.size := by (try simp at hz); omega))
    go_ret
    refine ⟨ret_bool (by rw [HY.out]), ?_⟩
    (repeat (first | assumption | exact Below.refl _ _ | (refine Below.alloc ?_ (by first | omega | (simp; done) | (simp; omega)) _) | (refine Below.setCell ?_ (by first | omega | (simp; done) | (simp; omega)) _) | refine bel_drewN ?_ _ | refine bel_drew ?_ | (refine bel_call ?_ (by assumption))))

theorem iter_cell {w : World} {k j o : Nat} {s : ByteArray} {pos : Nat} (h : j < k) : (w.iterAt k s pos).cell? ⟨j, o, none⟩ = w.cell? ⟨j, o, none⟩ :=
  (Lib.below_iterAt (Below.refl k w) (Nat.le_refl _) s pos).cell (p := ⟨j, o, none⟩) h

theorem iter_frozen {w : World} {k j o : Nat} {s : ByteArray} {pos : Nat} (h : j < k) : (w.iterAt k s pos).frozen? ⟨j, o, none⟩ = w.frozen? ⟨j, o, none⟩ :=
  (Lib.below_iterAt (Below.refl k w) (Nat.le_refl _) s pos).frozen (p := ⟨j, o, none⟩) h

theorem iterPos_at {w : World} {k pos : Nat} {s : ByteArray} (h : w.heap[k]? = some (.stringIter s pos)) : w.iterPos k = pos := by simp [World.iterPos, h]

theorem digit_ascii {b : Int} {c : UInt8} (hb : b ≤ 10) (h : digitB b c = true) : c.toNat < 128 := by
  unfold digitB at h
  have := of_decide_eq_true h
  omega

theorem high_not {b : Int} {c : UInt8} (hb : b ≤ 10) (h : ¬ c.toNat < 128) : ¬ digitB b c = true := fun h2 => h (digit_ascii hb h2)


theorem hasDigits_any (n : Nat) (b : Int) (s : ByteArray) (w : World) (hs : s.size ≤ maxLen) (hg : goodB n b = true) :
    Calls Try.prog 70 #[.agg #[.int .i64 n, .int .i64 b], .string s] w fun e w' => e = .returned (.bool (allD b s)) ∧ Below w.heap.size w w' := by
  obtain ⟨h1, h2, h3, h4⟩ := good_yes hg
  clear hg
  unfold maxLen at hs
  go_enter Try.func70, Try.ntmps70
  go_wp2
  go_loopw [] (fun wr => ∃ pos : Nat, pos ≤ s.size ∧ wr.heap[w.heap.size + 1]? = some (.stringIter s pos) ∧ (s.data.toList.take pos).all (digitB b) = true ∧ wr.cell? ⟨w.heap.size, 1, none⟩ = some (.int .i64 b) ∧ Below w.heap.size w wr) (fun wr => s.size - wr.iterPos (w.heap.size + 1))
  case atStart =>
    refine ⟨0, by omega, ?_, rfl, by simp [World.iter], ?_⟩
    · have := World.iter_heap (w.alloc (.cells #[.int .i64 n, .int .i64 b] 26)) s 0
      simpa using this
    · exact ((Below.refl _ w).alloc (Nat.le_refl _) _).alloc (by simp) _
  case round =>
    obtain ⟨pos, hpos, hit, hall, hc1, hB⟩ := hrel
    have HA := Lib.hid hall
    clear hall
    have hsz : w.heap.size + 1 < wr.heap.size := (Array.getElem?_eq_some_iff.1 hit).1
    by_cases hp : pos < s.size
    · by_cases ha : (s[pos]'hp).toNat < 128
      · have hnx : ∀ ty, (Instr.next (.pointer (some ⟨w.heap.size + 1, 0, none⟩)) true ty).run Try.prog wr = _ := fun ty => Lib.run_next_ascii_at wr (w.heap.size + 1) s pos ty hit hp ha
        have hit2 := Lib.iterAt_heap wr (w.heap.size + 1) s pos (pos + 1) hit
        have hB2 := Lib.below_iterAt hB (k := w.heap.size + 1) (by omega) s (pos + 1)
        have hc2 : (wr.iterAt (w.heap.size + 1) s (pos + 1)).cell? ⟨w.heap.size, 1, none⟩ = some (.int .i64 b) := by rw [iter_cell (by omega)]; exact hc1
        by_cases hlo : ((s[pos]'hp).toNat : Int) < 48
        · have HD : Hid (¬ digitB b s[pos] = true) := Lib.hid (by unfold digitB; simp; omega)
          go_wp2
          go_ret
          refine ⟨ret_bool ?_, hB2⟩
          exact (all_not hp HD.out).symm
        · by_cases hd : b ≤ ((s[pos]'hp).toNat : Int) - 48
          · have HD : Hid (¬ digitB b s[pos] = true) := Lib.hid (by unfold digitB; simp; omega)
            go_wp2
            go_ret
            refine ⟨ret_bool ?_, hB2⟩
            exact (all_not hp HD.out).symm
          · have HD : Hid (digitB b s[pos] = true) := Lib.hid (by unfold digitB; simp; omega)
            go_wp2
            go_roundw
            case rel => exact ⟨pos + 1, by omega, hit2, all_snoc HA.out HD.out, hc2, hB2⟩
            case measure => rw [iterPos_at hit2, iterPos_at hit]; omega
      · have hnx : ∀ ty, (Instr.next (.pointer (some ⟨w.heap.size + 1, 0, none⟩)) true ty).run Try.prog wr = _ := fun ty => Lib.run_next_any_at wr (w.heap.size + 1) s pos ty hit hp
        have hB2 := Lib.below_iterAt hB (k := w.heap.size + 1) (by omega) s (pos + (Utf8.decode s pos).2)
        have hc2 : (wr.iterAt (w.heap.size + 1) s (pos + (Utf8.decode s pos).2)).cell? ⟨w.heap.size, 1, none⟩ = some (.int .i64 b) := by rw [iter_cell (by omega)]; exact hc1
        obtain ⟨hr1, hr2⟩ := decode_high s pos hp (by omega)
        have hr3 := decode_le s pos
        have HD : Hid (¬ digitB b s[pos] = true) := Lib.hid (high_not h4 ha)
        go_wp2
        go_ret
        refine ⟨ret_bool ?_, hB2⟩
        exact (all_not hp HD.out).symm
    · have hnx : ∀ ty, (Instr.next (.pointer (some ⟨w.heap.size + 1, 0, none⟩)) true ty).run Try.prog wr = _ := fun ty => Lib.run_next_end_at wr (w.heap.size + 1) s pos ty hit hp
      go_wp2
      go_ret
      refine ⟨ret_bool ?_, hB⟩
      have e : pos = s.size := by omega
      have := HA.out
      rw [e, List.take_of_length_le (by simp)] at this
      exact this.symm

theorem riText_any (n : Nat) (b : Int) (s : ByteArray) (w : World) (hs : s.size ≤ maxLen) (hg : goodB n b = true) :
    Calls Try.prog 66 #[.agg #[.int .i64 n, .int .i64 b], .string s] w fun e w' => e = .returned (.bool (allD b s)) ∧ Below w.heap.size w w' := by
  obtain ⟨h1, h2, h3, h4⟩ := good_yes hg
  clear hg
  unfold maxLen at hs
  go_enter Try.func66, Try.ntmps66
  go_wp2
  go_loopw [] (fun wr => ∃ pos : Nat, pos ≤ s.size ∧ wr.heap[w.heap.size + 1]? = some (.stringIter s pos) ∧ (s.data.toList.take pos).all (digitB b) = true ∧ wr.cell? ⟨w.heap.size, 1, none⟩ = some (.int .i64 b) ∧ Below w.heap.size w wr) (fun wr => s.size - wr.iterPos (w.heap.size + 1))
  case atStart =>
    refine ⟨0, by omega, ?_, rfl, by simp [World.iter], ?_⟩
    · have := World.iter_heap (w.alloc (.cells #[.int .i64 n, .int .i64 b] 26)) s 0
      simpa using this
    · exact ((Below.refl _ w).alloc (Nat.le_refl _) _).alloc (by simp) _
  case round =>
    obtain ⟨pos, hpos, hit, hall, hc1, hB⟩ := hrel
    have HA := Lib.hid hall
    clear hall
    have hsz : w.heap.size + 1 < wr.heap.size := (Array.getElem?_eq_some_iff.1 hit).1
    by_cases hp : pos < s.size
    · have hu : ((s[pos]'hp).toNat : Int) ≤ 255 := by have := (s[pos]'hp).toNat_lt; omega
      have hnx : ∀ ty, (Instr.next (.pointer (some ⟨w.heap.size + 1, 0, none⟩)) true ty).run Try.prog wr = _ := fun ty => Lib.run_next_any_at wr (w.heap.size + 1) s pos ty hit hp
      have hit2 := Lib.iterAt_heap wr (w.heap.size + 1) s pos (pos + (Utf8.decode s pos).2) hit
      have hB2 := Lib.below_iterAt hB (k := w.heap.size + 1) (by omega) s (pos + (Utf8.decode s pos).2)
      have hc2 : (wr.iterAt (w.heap.size + 1) s (pos + (Utf8.decode s pos).2)).cell? ⟨w.heap.size, 1, none⟩ = some (.int .i64 b) := by rw [iter_cell (by omega)]; exact hc1
      by_cases hd : digitB b s[pos] = true
      · have HD := Lib.hid hd
        have HW : Hid ((Utf8.decode s pos).2 = 1) := Lib.hid (by rw [decode_ascii s pos hp (digit_ascii h4 hd)])
        have hin : inB ((s[pos].toNat : Int) - 48) 0 (b - 1) = true := by have := HD.out; unfold digitB at this; unfold inB; simp at this ⊢; omega
        clear hd
        go_wp2
        go_quiet ((go_at_call 44; exact Calls.quiet_of_same (l1In_any _ _ _ _)))
        go_wp2
        go_roundw
        case rel => exact ⟨pos + 1, by omega, by rw [show pos + 1 = pos + (Utf8.decode s pos).2 by rw [HW.out]]; exact hit2, all_snoc HA.out HD.out, hc2, bel_drewN hB2 _⟩
        case measure =>
          have e : ∀ m, ((wr.iterAt (w.heap.size + 1) s (pos + (Utf8.decode s pos).2)).drewN m).iterPos (w.heap.size + 1) = pos + (Utf8.decode s pos).2 := fun m => iterPos_at (w := World.drewN _ m) hit2
          have := HW.out
          rw [e, iterPos_at hit]
          omega
      · have HD := Lib.hid hd
        have hin : inB ((s[pos].toNat : Int) - 48) 0 (b - 1) = false := by have := HD.out; unfold digitB at this; unfold inB; simp at this ⊢; omega
        clear hd
        go_wp2
        go_quiet ((go_at_call 44; exact Calls.quiet_of_same (l1In_any _ _ _ _)))
        go_wp2
        go_ret
        refine ⟨ret_bool ?_, bel_drewN hB2 _⟩
        exact (all_not hp HD.out).symm
    · have hnx : ∀ ty, (Instr.next (.pointer (some ⟨w.heap.size + 1, 0, none⟩)) true ty).run Try.prog wr = _ := fun ty => Lib.run_next_end_at wr (w.heap.size + 1) s pos ty hit hp
      go_wp2
      go_ret
      refine ⟨ret_bool ?_, hB⟩
      have e : pos = s.size := by omega
      have := HA.out
      rw [e, List.take_of_length_le (by simp)] at this
      exact this.symm

/-- There are a lock of few codes and a text of its digits. -/
def txB (a b : Int) (s : ByteArray) : Bool := riB a b && decide (s.size ≤ 1500) && allD b s

theorem txB_no {a b : Int} {s : ByteArray} (h : riB a b = false) : txB a b s = false := by unfold txB; rw [h]; rfl

theorem txB_long {a b : Int} {s : ByteArray} (h : ¬ s.size ≤ 1500) : txB a b s = false := by unfold txB; rw [decide_eq_false h, Bool.and_false]; rfl

theorem txB_yes {a b : Int} {s : ByteArray} (h : riB a b = true) (hs : s.size ≤ 1500) : txB a b s = allD b s := by unfold txB; rw [h, decide_eq_true hs]; rfl

set_option maxHeartbeats 1000000 in
theorem hasText_any (a b : Int) (s : ByteArray) (w : World) (hs : s.size ≤ maxLen) :
    Calls Try.prog 58 #[.agg #[.int .i64 a, .int .i64 b], .string s] w fun e w' => e = .returned (.bool (txB a b s)) ∧ Below w.heap.size w w' := by
  have HS := Lib.hid hs
  unfold maxLen at hs
  by_cases hg : riB a b = true
  · have HG := Lib.hid hg
    obtain ⟨n, rfl⟩ : ∃ n : Nat, a = n := ⟨a.toNat, by have := good_yes (riB_good hg); omega⟩
    clear hg
    by_cases hz5 : s.size ≤ 1500
    · go_enter Try.func58, Try.ntmps58
      go_wp2_with (first | (go_at_call 39; refine (ringLength_any _ _ _).mono ?_; rw [HG.out]; rintro e w1 ⟨rfl, hb⟩; obtain ⟨hc, hf, hz⟩ := bcell hb; have hz0 : w.heap.size < w1.heap.size := by (try simp at hz); omega) | (go_at_call 70; refine (hasDigits_any _ _ _ _ HS.out (riB_good HG.out)).mono ?_; rintro e w1 ⟨rfl, hb⟩; obtain ⟨hc, hf, hz⟩ := bcell hb; have hz0 : w.heap.size < w1.heap.size := by (try simp at hz); omega))
      go_ret
      refine ⟨ret_bool (by rw [txB_yes HG.out hz5]), ?_⟩
      (repeat (first | assumption | exact Below.refl _ _ | (refine Below.alloc ?_ (by first | omega | (simp; done) | (simp; omega)) _) | (refine Below.setCell ?_ (by first | omega | (simp; done) | (simp; omega)) _) | refine bel_drewN ?_ _ | refine bel_drew ?_ | (refine bel_call ?_ (by assumption))))
    · go_enter Try.func58, Try.ntmps58
      go_wp2_with (first | (go_at_call 39; refine (ringLength_any _ _ _).mono ?_; rw [HG.out]; rintro e w1 ⟨rfl, hb⟩; obtain ⟨hc, hf, hz⟩ := bcell hb; have hz0 : w.heap.size < w1.heap.size := by (try simp at hz); omega))
      go_ret
      refine ⟨ret_bool (by rw [txB_long hz5]), ?_⟩
      (repeat (first | assumption | exact Below.refl _ _ | (refine Below.alloc ?_ (by first | omega | (simp; done) | (simp; omega)) _) | (refine Below.setCell ?_ (by first | omega | (simp; done) | (simp; omega)) _) | refine bel_drewN ?_ _ | refine bel_drew ?_ | (refine bel_call ?_ (by assumption))))
  · have HG := Lib.hid (Bool.eq_false_iff.2 hg)
    clear hg
    go_enter Try.func58, Try.ntmps58
    go_wp2_with (first | (go_at_call 39; refine (ringLength_any _ _ _).mono ?_; rw [HG.out]; rintro e w1 ⟨rfl, hb⟩; obtain ⟨hc, hf, hz⟩ := bcell hb; have hz0 : w.heap.size < w1.heap.size := by (try simp at hz); omega))
    go_ret
    refine ⟨ret_bool (by rw [txB_no HG.out]), ?_⟩
    (repeat (first | assumption | exact Below.refl _ _ | (refine Below.alloc ?_ (by first | omega | (simp; done) | (simp; omega)) _) | (refine Below.setCell ?_ (by first | omega | (simp; done) | (simp; omega)) _) | refine bel_drewN ?_ _ | refine bel_drew ?_ | (refine bel_call ?_ (by assumption))))

set_option maxHeartbeats 1000000 in
theorem riAsked_any (a b : Int) (s : ByteArray) (w : World) (hs : s.size ≤ maxLen) :
    Calls Try.prog 56 #[.agg #[.int .i64 a, .int .i64 b], .string s] w fun e w' => e = .returned (.bool (txB a b s)) ∧ Below w.heap.size w w' := by
  have HS := Lib.hid hs
  unfold maxLen at hs
  by_cases hg : riB a b = true
  · have HG := Lib.hid hg
    obtain ⟨n, rfl⟩ : ∃ n : Nat, a = n := ⟨a.toNat, by have := good_yes (riB_good hg); omega⟩
    clear hg
    by_cases hz5 : s.size ≤ 1500
    · go_enter Try.func56, Try.ntmps56
      go_wp2_with (first | (go_at_call 37; refine (riGood_any _ _ _).mono ?_; rw [HG.out]; rintro e w1 ⟨rfl, hb⟩; obtain ⟨hc, hf, hz⟩ := bcell hb; have hz0 : w.heap.size < w1.heap.size := by (try simp at hz); omega) | (go_at_call 66; refine (riText_any _ _ _ _ HS.out (riB_good HG.out)).mono ?_; rintro e w1 ⟨rfl, hb⟩; obtain ⟨hc, hf, hz⟩ := bcell hb; have hz0 : w.heap.size < w1.heap.size := by (try simp at hz); omega))
      go_ret
      refine ⟨ret_bool (by rw [txB_yes HG.out hz5]), ?_⟩
      (repeat (first | assumption | exact Below.refl _ _ | (refine Below.alloc ?_ (by first | omega | (simp; done) | (simp; omega)) _) | (refine Below.setCell ?_ (by first | omega | (simp; done) | (simp; omega)) _) | refine bel_drewN ?_ _ | refine bel_drew ?_ | (refine bel_call ?_ (by assumption))))
    · go_enter Try.func56, Try.ntmps56
      go_wp2_with (first | (go_at_call 37; refine (riGood_any _ _ _).mono ?_; rw [HG.out]; rintro e w1 ⟨rfl, hb⟩; obtain ⟨hc, hf, hz⟩ := bcell hb; have hz0 : w.heap.size < w1.heap.size := by (try simp at hz); omega))
      go_ret
      refine ⟨ret_bool (by rw [txB_long hz5]), ?_⟩
      (repeat (first | assumption | exact Below.refl _ _ | (refine Below.alloc ?_ (by first | omega | (simp; done) | (simp; omega)) _) | (refine Below.setCell ?_ (by first | omega | (simp; done) | (simp; omega)) _) | refine bel_drewN ?_ _ | refine bel_drew ?_ | (refine bel_call ?_ (by assumption))))
  · have HG := Lib.hid (Bool.eq_false_iff.2 hg)
    clear hg
    go_enter Try.func56, Try.ntmps56
    go_wp2_with (first | (go_at_call 37; refine (riGood_any _ _ _).mono ?_; rw [HG.out]; rintro e w1 ⟨rfl, hb⟩; obtain ⟨hc, hf, hz⟩ := bcell hb; have hz0 : w.heap.size < w1.heap.size := by (try simp at hz); omega))
    go_ret
    refine ⟨ret_bool (by rw [txB_no HG.out]), ?_⟩
    (repeat (first | assumption | exact Below.refl _ _ | (refine Below.alloc ?_ (by first | omega | (simp; done) | (simp; omega)) _) | (refine Below.setCell ?_ (by first | omega | (simp; done) | (simp; omega)) _) | refine bel_drewN ?_ _ | refine bel_drew ?_ | (refine bel_call ?_ (by assumption))))

end Go.Proofs.Yteolmplbgmfhmaa
