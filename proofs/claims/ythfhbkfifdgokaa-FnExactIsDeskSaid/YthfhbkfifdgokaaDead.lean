/- The law on AreDead: for every lock and list of texts both programs answer alike: whether they are dead codes of a lock that has few codes. For lists that can be. -/
import Derived.Test.YthfhbkfifdgokaaSs
import Derived.Laws.Strings
namespace Go.Proofs.Ythfhbkfifdgokaa
open Go.ChangeShapes Go.WideShapes Go.ChangeAt Go.RowKit Go.Joins

/-- A lock of few codes. -/
def searchB (a b : Int) : Bool := goodB a b && decide (countZ a b ≤ 1000)

theorem searchB_good {a b : Int} (h : searchB a b = true) : goodB a b = true ∧ countZ a b ≤ 1000 := by
  unfold searchB at h
  simpa using h

/-- The text at a place is a code, and behind the one ahead of it. -/
def deadAt (a b : Int) (ts : List ByteArray) (i : Nat) : Bool :=
  isCodeB a b (ts.getD i ByteArray.empty) && (decide (i = 0) || Op.bytesLess (ts.getD (i - 1) ByteArray.empty).toList (ts.getD i ByteArray.empty).toList)

/-- Dead codes. -/
def deadB (a b : Int) (ts : List ByteArray) : Bool := decide (ts.length ≤ 60) && (List.range ts.length).all (deadAt a b ts)

def areZ (a b : Int) (ts : List ByteArray) : Bool := searchB a b && deadB a b ts

theorem upto_snoc {p : Nat → Bool} {k : Nat} (h : (List.range k).all p = true) (hk : p k = true) : (List.range (k + 1)).all p = true := by
  rw [List.range_succ, List.all_append, h]; simp [hk]

theorem upto_not {p : Nat → Bool} {k n : Nat} (hk : k < n) (h : p k = false) : (List.range n).all p = false := by
  rw [List.all_eq_false]
  exact ⟨k, List.mem_range.2 hk, by rw [h]; simp⟩

/-- Two numbers boxed. -/
def b2F (a b : Int) (j : Nat) : Value := (#[.int .i64 a, .int .i64 b] : Array Value).toList.getD j undef

theorem box_new {W : World} {a b : Int} {t : TypeId} {g : Nat} (hg : g = W.heap.size) : Cells (W.alloc (.cells #[.int .i64 a, .int .i64 b] t)) g 2 (b2F a b) := by
  subst hg
  refine ⟨by simp, fun j hj => ?_⟩
  rw [World.cell?_alloc_new, World.frozen?_alloc_new]
  refine ⟨?_, rfl⟩
  have : j = 0 ∨ j = 1 := by omega
  rcases this with rfl | rfl <;> rfl

theorem deSmall_any (a b : Int) (w : World) :
    Calls Try.prog 30 #[.agg #[.int .i64 a, .int .i64 b]] w fun e w' => e = .returned (.bool (searchB a b)) ∧ Below w.heap.size w w' := by
  by_cases hg : goodB a b = true
  · have HG := Lib.hid hg
    have hg' := good_yes hg
    obtain ⟨n, rfl⟩ : ∃ n : Nat, a = n := ⟨a.toNat, by omega⟩
    have HV : Hid (searchB n b = decide (pw b n ≤ 1000)) := Lib.hid (by unfold searchB; rw [hg, countZ_yes hg]; rfl)
    clear hg hg'
    go_enter Try.func30, Try.ntmps30
    go_wp2_with (first | (go_at_call 35; refine (whGood_any _ _ _).mono ?_; rw [HG.out]; rintro e w1 ⟨rfl, hb⟩; obtain ⟨hc, hf, hz⟩ := bcell hb; have hz0 : w.heap.size < w1.heap.size := by (try simp at hz); omega) | (go_at_call 36; refine (whCount_any _ _ _ HG.out).mono ?_; rintro e w1 ⟨rfl, hb⟩; obtain ⟨hc, hf, hz⟩ := bcell hb; have hz0 : w.heap.size < w1.heap.size := by (try simp at hz); omega))
    go_ret
    refine ⟨ret_bool HV.out.symm, ?_⟩
    (repeat (first | assumption | exact Below.refl _ _ | (refine Below.alloc ?_ (by first | omega | (simp; done) | (simp; omega)) _) | (refine Below.setCell ?_ (by first | omega | (simp; done) | (simp; omega)) _) | refine bel_drewN ?_ _ | refine bel_drew ?_ | (refine bel_call ?_ (by assumption))))
  · have HG := Lib.hid (Bool.eq_false_iff.2 hg)
    have HV : Hid (searchB a b = false) := Lib.hid (by unfold searchB; rw [HG.out]; rfl)
    clear hg
    go_enter Try.func30, Try.ntmps30
    go_wp2_with (first | (go_at_call 35; refine (whGood_any _ _ _).mono ?_; rw [HG.out]; rintro e w1 ⟨rfl, hb⟩; obtain ⟨hc, hf, hz⟩ := bcell hb; have hz0 : w.heap.size < w1.heap.size := by (try simp at hz); omega))
    go_ret
    refine ⟨ret_bool HV.out.symm, ?_⟩
    (repeat (first | assumption | exact Below.refl _ _ | (refine Below.alloc ?_ (by first | omega | (simp; done) | (simp; omega)) _) | (refine Below.setCell ?_ (by first | omega | (simp; done) | (simp; omega)) _) | refine bel_drewN ?_ _ | refine bel_drew ?_ | (refine bel_call ?_ (by assumption))))

theorem isSearched_any (a b : Int) (w : World) :
    Calls Try.prog 27 #[.agg #[.int .i64 a, .int .i64 b]] w fun e w' => e = .returned (.bool (searchB a b)) ∧ Below w.heap.size w w' := by
  by_cases hg : goodB a b = true
  · have HG := Lib.hid hg
    have HV : Hid (searchB a b = decide (countZ a b ≤ 1000)) := Lib.hid (by unfold searchB; rw [hg]; rfl)
    clear hg
    go_enter Try.func27, Try.ntmps27
    go_wp2_with (first | (go_at_call 34; refine (count_any _ _ _).mono ?_; rw [HG.out]; rintro e w1 ⟨rfl, hb⟩; obtain ⟨hc, hf, hz⟩ := bcell hb; have hz0 : w.heap.size < w1.heap.size := by (try simp at hz); omega))
    go_ret
    refine ⟨ret_bool HV.out.symm, ?_⟩
    (repeat (first | assumption | exact Below.refl _ _ | (refine Below.alloc ?_ (by first | omega | (simp; done) | (simp; omega)) _) | (refine Below.setCell ?_ (by first | omega | (simp; done) | (simp; omega)) _) | refine bel_drewN ?_ _ | refine bel_drew ?_ | (refine bel_call ?_ (by assumption))))
  · have HG := Lib.hid (Bool.eq_false_iff.2 hg)
    have HV : Hid (searchB a b = false) := Lib.hid (by unfold searchB; rw [HG.out]; rfl)
    clear hg
    go_enter Try.func27, Try.ntmps27
    go_wp2_with (first | (go_at_call 34; refine (count_any _ _ _).mono ?_; rw [HG.out]; rintro e w1 ⟨rfl, hb⟩; obtain ⟨hc, hf, hz⟩ := bcell hb; have hz0 : w.heap.size < w1.heap.size := by (try simp at hz); omega))
    go_ret
    refine ⟨ret_bool HV.out.symm, ?_⟩
    (repeat (first | assumption | exact Below.refl _ _ | (refine Below.alloc ?_ (by first | omega | (simp; done) | (simp; omega)) _) | (refine Below.setCell ?_ (by first | omega | (simp; done) | (simp; omega)) _) | refine bel_drewN ?_ _ | refine bel_drew ?_ | (refine bel_call ?_ (by assumption))))

set_option maxHeartbeats 1000000 in
theorem deList_any (a b : Int) (A : Option Addr) (n c : Nat) (ts : List ByteArray) (w : World) (hn : n ≤ maxLen) (hg : goodB a b = true) (hA : ArgS w A n ts) :
    Calls Try.prog 31 #[.agg #[.int .i64 a, .int .i64 b], .slice A n c] w fun e w' => e = .returned (.bool (deadB a b ts)) ∧ Below w.heap.size w w' := by
  unfold maxLen at hn
  have HG := Lib.hid hg
  have HL := Lib.hid hA.len
  by_cases h60 : n ≤ 60
  · have HB0 := Lib.hid (box_new (W := w) (a := a) (b := b) (t := 23) rfl)
    rcases hA.at_ with h0 | ⟨B, off, rfl, hb, hc⟩
    · subst h0
      have HV : Hid (deadB a b ts = true) := Lib.hid (by unfold deadB; rw [HL.out]; rfl)
      clear hA hg
      go_enter Try.func31, Try.ntmps31
      go_wp2_with fail
      go_loop [12] (fun i => i = .int .i64 0) (fun _ => 0)
      case atStart => rfl
      case round =>
        obtain rfl := hrel
        go_wp2_with fail
        go_ret
        refine ⟨ret_bool HV.out.symm, ?_⟩
        (repeat (first | assumption | exact Below.refl _ _ | (refine Below.alloc ?_ (by first | omega | (simp; done) | (simp; omega)) _) | (refine Below.setCell ?_ (by first | omega | (simp; done) | (simp; omega)) _) | refine bel_drewN ?_ _ | refine bel_drew ?_ | (refine bel_call ?_ (by assumption))))
    · have HC := Lib.hid hc
      have HZ := Lib.hid hA.sz
      clear hc hA hg
      go_enter Try.func31, Try.ntmps31
      go_wp2_with fail
      go_loopw [12] (fun i wr => ∃ k : Nat, k ≤ n ∧ i = .int .i64 k ∧ (List.range k).all (deadAt a b ts) = true ∧ Cells wr w.heap.size 2 (b2F a b) ∧ Below w.heap.size w wr) (fun i _ => n - (intOf i).toNat)
      case atStart => exact ⟨0, by omega, rfl, rfl, HB0.out, by (repeat (first | assumption | exact Below.refl _ _ | (refine Below.alloc ?_ (by first | omega | (simp; done) | (simp; omega)) _) | (refine Below.setCell ?_ (by first | omega | (simp; done) | (simp; omega)) _) | refine bel_drewN ?_ _ | refine bel_drew ?_ | (refine bel_call ?_ (by assumption))))⟩
      case round =>
        obtain ⟨k, hk, rfl, hall, hbx, hB⟩ := hrel
        have HAL := Lib.hid hall
        have HBX := Lib.hid hbx
        clear hall hbx HB0
        by_cases hlt : k < n
        · have l0 : wr.cell? ⟨w.heap.size, 0, none⟩ = some (.int .i64 a) := HBX.out.cell (show 0 < 2 by omega)
          have l1 : wr.cell? ⟨w.heap.size, 1, none⟩ = some (.int .i64 b) := HBX.out.cell (show 1 < 2 by omega)
          have o1 : wr.cell? ⟨B, off + k, none⟩ = some (.string (ts.getD k ByteArray.empty)) := by rw [hB.cell (p := ⟨B, off + k, none⟩) hb]; exact HC.out k hlt
          have HS := Lib.hid (HZ.out k hlt)
          have HD : Hid (deadAt a b ts k = (isCodeB a b (ts.getD k ByteArray.empty) && (decide (k = 0) || Op.bytesLess (ts.getD (k - 1) ByteArray.empty).toList (ts.getD k ByteArray.empty).toList))) := Lib.hid rfl
          have HO : Hid (∀ W, Below wr.heap.size wr W → 0 < k → W.cell? ⟨B, off + (k - 1), none⟩ = some (.string (ts.getD (k - 1) ByteArray.empty))) := Lib.hid (fun W hW h0 => by
            rw [(bel_call hB hW).cell (p := ⟨B, off + (k - 1), none⟩) hb]; exact HC.out (k - 1) (by omega))
          have HE : Hid (deadAt a b ts k = false → deadB a b ts = false) := Lib.hid (fun h => by unfold deadB; rw [HL.out, upto_not hlt h, Bool.and_false])
          have hadd : (off : Int) + ((k : Int) - 1) = ((off + (k - 1) : Nat) : Int) ∨ k = 0 := by omega
          clear hadd
          generalize ts.getD k ByteArray.empty = s at o1 HS HD
          generalize ts.getD (k - 1) ByteArray.empty = t at HD HO
          by_cases hcode : isCodeB a b s = true
          · have HCO := Lib.hid hcode
            clear hcode
            by_cases h0 : 0 < k
            · obtain ⟨m, rfl⟩ : ∃ m, k = m + 1 := ⟨k - 1, by omega⟩
              have hm1 : ((m + 1 : Nat) : Int) - 1 = (m : Int) := by omega
              have hm2 : IntKind.i64.wrap (((m + 1 : Nat) : Int) - 1) = (m : Int) := by rw [hm1]; exact IntWalk.i64_in _ (by omega)
              by_cases hlss : Op.bytesLess t.toList s.toList = true
              · have HR : Hid (deadAt a b ts (m + 1) = true) := Lib.hid (by rw [HD.out, HCO.out, hlss]; simp)
                go_wp2_with (go_at_call 32; refine (whCode_any _ _ _ _ HS.out HG.out).mono ?_; rw [HCO.out]; rintro e w3 ⟨rfl, hb3⟩; have o2 := HO.out _ hb3 h0; rw [show m + 1 - 1 = m by omega] at o2)
                go_roundw
                case rel => exact ⟨m + 1 + 1, by omega, by go_num, upto_snoc HAL.out HR.out, HBX.out.call hb3, bel_call hB hb3⟩
                case measure => simp [intOf]; omega
              · have hlss' := Bool.eq_false_iff.2 hlss
                have HR : Hid (deadAt a b ts (m + 1) = false) := Lib.hid (by rw [HD.out, HCO.out, hlss']; simp)
                clear hlss
                go_wp2_with (go_at_call 32; refine (whCode_any _ _ _ _ HS.out HG.out).mono ?_; rw [HCO.out]; rintro e w3 ⟨rfl, hb3⟩; have o2 := HO.out _ hb3 h0; rw [show m + 1 - 1 = m by omega] at o2)
                go_ret
                exact ⟨ret_bool (HE.out HR.out).symm, bel_call hB hb3⟩
            · obtain rfl : k = 0 := by omega
              rw [Nat.add_zero] at o1
              have HR : Hid (deadAt a b ts 0 = true) := Lib.hid (by rw [HD.out, HCO.out]; simp)
              go_wp2_with (go_at_call 32; refine (whCode_any _ _ _ _ HS.out HG.out).mono ?_; rw [HCO.out]; rintro e w3 ⟨rfl, hb3⟩)
              go_roundw
              case rel => exact ⟨0 + 1, by omega, by go_num, upto_snoc HAL.out HR.out, HBX.out.call hb3, bel_call hB hb3⟩
              case measure => simp [intOf]; omega
          · have HCO := Lib.hid (Bool.eq_false_iff.2 hcode)
            have HR : Hid (deadAt a b ts k = false) := Lib.hid (by rw [HD.out, HCO.out]; simp)
            clear hcode
            go_wp2_with (go_at_call 32; refine (whCode_any _ _ _ _ HS.out HG.out).mono ?_; rw [HCO.out]; rintro e w3 ⟨rfl, hb3⟩)
            go_ret
            exact ⟨ret_bool (HE.out HR.out).symm, bel_call hB hb3⟩
        · obtain rfl : k = n := by omega
          go_wp2_with fail
          go_ret
          exact ⟨ret_bool (by unfold deadB; rw [HL.out, HAL.out]; simp [h60]), hB⟩
  · have HV : Hid (deadB a b ts = false) := Lib.hid (by unfold deadB; rw [HL.out, decide_eq_false h60]; rfl)
    clear hA hg
    go_enter Try.func31, Try.ntmps31
    go_wp2_with fail
    go_ret
    refine ⟨ret_bool HV.out.symm, ?_⟩
    (repeat (first | assumption | exact Below.refl _ _ | (refine Below.alloc ?_ (by first | omega | (simp; done) | (simp; omega)) _) | (refine Below.setCell ?_ (by first | omega | (simp; done) | (simp; omega)) _) | refine bel_drewN ?_ _ | refine bel_drew ?_ | (refine bel_call ?_ (by assumption))))

set_option maxHeartbeats 1000000 in
theorem areDead_any (a b : Int) (A : Option Addr) (n c : Nat) (ts : List ByteArray) (w : World) (hn : n ≤ maxLen) (hA : ArgS w A n ts) :
    Calls Try.prog 22 #[.agg #[.int .i64 a, .int .i64 b], .slice A n c] w fun e w' => e = .returned (.tuple #[.bool (areZ a b ts), .bool (searchB a b)]) ∧ Below w.heap.size w w' := by
  unfold maxLen at hn
  by_cases hs : searchB a b = false
  · have HS := Lib.hid hs
    have HV : Hid (areZ a b ts = false) := Lib.hid (by unfold areZ; rw [HS.out]; rfl)
    clear hA hs
    go_enter Try.func22, Try.ntmps22
    go_wp2_with (go_at_call 27; refine (isSearched_any _ _ _).mono ?_; rw [HS.out]; rintro e w1 ⟨rfl, hb⟩; obtain ⟨hc, hf, hz⟩ := bcell hb; have hz0 : w.heap.size < w1.heap.size := by (try simp at hz); omega)
    go_ret2
    refine ⟨by rw [HS.out, HV.out]; rfl, ?_⟩
    (repeat (first | assumption | exact Below.refl _ _ | (refine Below.alloc ?_ (by first | omega | (simp; done) | (simp; omega)) _) | (refine Below.setCell ?_ (by first | omega | (simp; done) | (simp; omega)) _) | refine bel_drewN ?_ _ | refine bel_drew ?_ | (refine bel_call ?_ (by assumption))))
  have HSE : Hid (searchB a b = true) := Lib.hid (by simpa using hs)
  have HZE : Hid (areZ a b ts = deadB a b ts) := Lib.hid (by unfold areZ; rw [HSE.out]; rfl)
  have HG := Lib.hid (searchB_good HSE.out).1
  clear hs
  have HL := Lib.hid hA.len
  by_cases h60 : n ≤ 60
  · have HB0 := Lib.hid (box_new (W := w) (a := a) (b := b) (t := 23) rfl)
    rcases hA.at_ with h0 | ⟨B, off, rfl, hb, hc⟩
    · subst h0
      have HV : Hid (deadB a b ts = true) := Lib.hid (by unfold deadB; rw [HL.out]; rfl)
      clear hA
      go_enter Try.func22, Try.ntmps22
      go_wp2_with (go_at_call 27; refine (isSearched_any _ _ _).mono ?_; rw [HSE.out]; rintro e w1 ⟨rfl, hb⟩; obtain ⟨hc, hf, hz⟩ := bcell hb; have hz0 : w.heap.size < w1.heap.size := by (try simp at hz); omega)
      go_loop [16] (fun i => i = .int .i64 0) (fun _ => 0)
      case atStart => rfl
      case round =>
        obtain rfl := hrel
        go_wp2_with fail
        go_ret2
        refine ⟨by rw [HSE.out, HZE.out, HV.out]; rfl, ?_⟩
        (repeat (first | assumption | exact Below.refl _ _ | (refine Below.alloc ?_ (by first | omega | (simp; done) | (simp; omega)) _) | (refine Below.setCell ?_ (by first | omega | (simp; done) | (simp; omega)) _) | refine bel_drewN ?_ _ | refine bel_drew ?_ | (refine bel_call ?_ (by assumption))))
    · have HC := Lib.hid hc
      have HZ := Lib.hid hA.sz
      clear hc hA
      go_enter Try.func22, Try.ntmps22
      go_wp2_with (go_at_call 27; refine (isSearched_any _ _ _).mono ?_; rw [HSE.out]; rintro e w1 ⟨rfl, hb1⟩)
      go_loopw [16] (fun i wr => ∃ k : Nat, k ≤ n ∧ i = .int .i64 k ∧ (List.range k).all (deadAt a b ts) = true ∧ Cells wr w.heap.size 2 (b2F a b) ∧ Below w.heap.size w wr) (fun i _ => n - (intOf i).toNat)
      case atStart => exact ⟨0, by omega, rfl, rfl, HB0.out.call hb1, bel_call ((Below.refl _ _).alloc (Nat.le_refl _) _) hb1⟩
      case round =>
        obtain ⟨k, hk, rfl, hall, hbx, hB⟩ := hrel
        have HAL := Lib.hid hall
        have HBX := Lib.hid hbx
        clear hall hbx HB0 hb1
        by_cases hlt : k < n
        · have l0 : wr.cell? ⟨w.heap.size, 0, none⟩ = some (.int .i64 a) := HBX.out.cell (show 0 < 2 by omega)
          have l1 : wr.cell? ⟨w.heap.size, 1, none⟩ = some (.int .i64 b) := HBX.out.cell (show 1 < 2 by omega)
          have o1 : wr.cell? ⟨B, off + k, none⟩ = some (.string (ts.getD k ByteArray.empty)) := by rw [hB.cell (p := ⟨B, off + k, none⟩) hb]; exact HC.out k hlt
          have HS := Lib.hid (HZ.out k hlt)
          have HD : Hid (deadAt a b ts k = (isCodeB a b (ts.getD k ByteArray.empty) && (decide (k = 0) || Op.bytesLess (ts.getD (k - 1) ByteArray.empty).toList (ts.getD k ByteArray.empty).toList))) := Lib.hid rfl
          have HO : Hid (∀ W, Below wr.heap.size wr W → 0 < k → W.cell? ⟨B, off + (k - 1), none⟩ = some (.string (ts.getD (k - 1) ByteArray.empty))) := Lib.hid (fun W hW h0 => by
            rw [(bel_call hB hW).cell (p := ⟨B, off + (k - 1), none⟩) hb]; exact HC.out (k - 1) (by omega))
          have HE : Hid (deadAt a b ts k = false → deadB a b ts = false) := Lib.hid (fun h => by unfold deadB; rw [HL.out, upto_not hlt h, Bool.and_false])
          have hadd : (off : Int) + ((k : Int) - 1) = ((off + (k - 1) : Nat) : Int) ∨ k = 0 := by omega
          clear hadd
          generalize ts.getD k ByteArray.empty = s at o1 HS HD
          generalize ts.getD (k - 1) ByteArray.empty = t at HD HO
          by_cases hcode : isCodeB a b s = true
          · have HCO := Lib.hid hcode
            clear hcode
            by_cases h0 : 0 < k
            · obtain ⟨m, rfl⟩ : ∃ m, k = m + 1 := ⟨k - 1, by omega⟩
              have hm1 : ((m + 1 : Nat) : Int) - 1 = (m : Int) := by omega
              have hm2 : IntKind.i64.wrap (((m + 1 : Nat) : Int) - 1) = (m : Int) := by rw [hm1]; exact IntWalk.i64_in _ (by omega)
              by_cases hlss : Op.bytesLess t.toList s.toList = true
              · have HR : Hid (deadAt a b ts (m + 1) = true) := Lib.hid (by rw [HD.out, HCO.out, hlss]; simp)
                go_wp2_with (go_at_call 23; refine (hasCode_any _ _ _ _ HS.out).mono ?_; rw [HG.out, HCO.out]; rintro e w3 ⟨rfl, hb3⟩; have o2 := HO.out _ hb3 h0; rw [show m + 1 - 1 = m by omega] at o2)
                go_roundw
                case rel => exact ⟨m + 1 + 1, by omega, by go_num, upto_snoc HAL.out HR.out, HBX.out.call hb3, bel_call hB hb3⟩
                case measure => simp [intOf]; omega
              · have hlss' := Bool.eq_false_iff.2 hlss
                have HR : Hid (deadAt a b ts (m + 1) = false) := Lib.hid (by rw [HD.out, HCO.out, hlss']; simp)
                clear hlss
                go_wp2_with (go_at_call 23; refine (hasCode_any _ _ _ _ HS.out).mono ?_; rw [HG.out, HCO.out]; rintro e w3 ⟨rfl, hb3⟩; have o2 := HO.out _ hb3 h0; rw [show m + 1 - 1 = m by omega] at o2)
                go_ret2
                exact ⟨by rw [HSE.out, HZE.out, HE.out HR.out]; rfl, bel_call hB hb3⟩
            · obtain rfl : k = 0 := by omega
              rw [Nat.add_zero] at o1
              have HR : Hid (deadAt a b ts 0 = true) := Lib.hid (by rw [HD.out, HCO.out]; simp)
              go_wp2_with (go_at_call 23; refine (hasCode_any _ _ _ _ HS.out).mono ?_; rw [HG.out, HCO.out]; rintro e w3 ⟨rfl, hb3⟩)
              go_roundw
              case rel => exact ⟨0 + 1, by omega, by go_num, upto_snoc HAL.out HR.out, HBX.out.call hb3, bel_call hB hb3⟩
              case measure => simp [intOf]; omega
          · have HCO := Lib.hid (Bool.eq_false_iff.2 hcode)
            have HR : Hid (deadAt a b ts k = false) := Lib.hid (by rw [HD.out, HCO.out]; simp)
            clear hcode
            go_wp2_with (go_at_call 23; refine (hasCode_any _ _ _ _ HS.out).mono ?_; rw [HG.out, HCO.out]; rintro e w3 ⟨rfl, hb3⟩)
            go_ret2
            exact ⟨by rw [HSE.out, HZE.out, HE.out HR.out]; rfl, bel_call hB hb3⟩
        · obtain rfl : k = n := by omega
          go_wp2_with fail
          go_ret2
          exact ⟨by rw [HSE.out, HZE.out]; unfold deadB; rw [HL.out, HAL.out]; simp [h60], hB⟩
  · have HV : Hid (deadB a b ts = false) := Lib.hid (by unfold deadB; rw [HL.out, decide_eq_false h60]; rfl)
    clear hA
    go_enter Try.func22, Try.ntmps22
    go_wp2_with (go_at_call 27; refine (isSearched_any _ _ _).mono ?_; rw [HSE.out]; rintro e w1 ⟨rfl, hb⟩; obtain ⟨hc, hf, hz⟩ := bcell hb; have hz0 : w.heap.size < w1.heap.size := by (try simp at hz); omega)
    go_ret2
    refine ⟨by rw [HSE.out, HZE.out, HV.out]; rfl, ?_⟩
    (repeat (first | assumption | exact Below.refl _ _ | (refine Below.alloc ?_ (by first | omega | (simp; done) | (simp; omega)) _) | (refine Below.setCell ?_ (by first | omega | (simp; done) | (simp; omega)) _) | refine bel_drewN ?_ _ | refine bel_drew ?_ | (refine bel_call ?_ (by assumption))))

end Go.Proofs.Ythfhbkfifdgokaa
