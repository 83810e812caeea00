/- Fewest turns around dead codes, and detours, as the program tells them. For lists that can be. -/
import Derived.Test.YtilnjlcljjpnmaaFa
namespace Go.Proofs.Ytilnjlcljjpnmaa
open Go.ChangeShapes Go.WideShapes Go.ChangeAt Go.RowKit Go.Joins

theorem faT_len {a b : Int} {ts : List ByteArray} {s t : ByteArray} : (((faT a b ts s t).length : Nat) : Int) = faZ a b ts s t ∧ (faT a b ts s t).length ≤ 1000 := by
  by_cases h : faB a b ts s t = true
  · have h2 := h
    unfold faB at h2
    rw [Bool.and_eq_true] at h2
    have hp := dkB_parts (dtB_parts h2.1).1
    have hq := dkB_parts (dtB_parts h2.1).2
    have e := lvZ_sym (a := a) (b := b) (ts := ts) hp.2.2.2.2.2.2 hq.2.2.2.2.2.2
    have h0 : 0 ≤ lvZ a b ts s t := by have := h2.2; unfold rcB at this; exact of_decide_eq_true this
    have hbd := lv_bd (a := a) (b := b) (ts := ts) (s := s) hq.2.2.2.2.1
    have hM := hp.2.2.2.1
    unfold faT
    rw [h, if_pos rfl, tuW_length, ptW_length, (faB_yes h).1, ← e]
    omega
  · have h' := Bool.eq_false_iff.2 h
    rw [faT_no h', (faB_no h').1]
    exact ⟨rfl, by simp⟩

set_option maxRecDepth 100000 in
theorem fewestAround_any (a b : Int) (A : Option Addr) (n c : Nat) (ts : List ByteArray) (s t : ByteArray) (w : World) (hn : n ≤ maxLen) (hs : s.size ≤ maxLen) (ht : t.size ≤ maxLen) (hA : ArgS w A n ts) :
    Calls Try.prog 25 #[.agg #[.int .i64 a, .int .i64 b], .slice A n c, .string s, .string t] w fun e w' => e = .returned (.tuple #[.int .i64 (faZ a b ts s t), .bool (faB a b ts s t)]) ∧ Below w.heap.size w w' := by
  have HA := Lib.hid hA
  have HN := Lib.hid hn
  have HS := Lib.hid hs
  have HT := Lib.hid ht
  have X0 := Lib.hid (show Below w.heap.size w (w.alloc (.cells #[.int .i64 a, .int .i64 b] 28)) from (Below.refl _ _).alloc (Nat.le_refl _) _)
  clear hA hn hs ht
  go_enter Try.func25, Try.ntmps25
  go_wp2_with fail
  refine (firstAround_any _ _ _ _ _ ts _ _ _ HN.out HS.out HT.out (HA.out.below X0.out)).mono ?_
  rintro e w1 ⟨A1, c1, rfl, _, hb1⟩
  obtain ⟨h1, h2⟩ := faT_len (a := a) (b := b) (ts := ts) (s := s) (t := t)
  have HL := Lib.hid h1
  clear h1
  generalize (faT a b ts s t).length = q at HL h2 ⊢
  go_wp2_with fail
  go_ret2
  exact ⟨by rw [← HL.out]; rfl, bel_call X0.out hb1⟩

set_option maxRecDepth 100000 in
set_option maxHeartbeats 1000000 in
theorem detour_any (a b : Int) (A : Option Addr) (n c : Nat) (ts : List ByteArray) (s t : ByteArray) (w : World) (hn : n ≤ maxLen) (hs : s.size ≤ maxLen) (ht : t.size ≤ maxLen) (hA : ArgS w A n ts) :
    Calls Try.prog 35 #[.agg #[.int .i64 a, .int .i64 b], .slice A n c, .string s, .string t] w fun e w' => e = .returned (.tuple #[.int .i64 (doZ a b ts s t), .bool (faB a b ts s t)]) ∧ Below w.heap.size w w' := by
  have HA := Lib.hid hA
  have HN := Lib.hid hn
  have HS := Lib.hid hs
  have HT := Lib.hid ht
  have C0 := Lib.hid (box_new (W := w) (a := a) (b := b) (t := 28) rfl)
  have X0 := Lib.hid (show Below w.heap.size w (w.alloc (.cells #[.int .i64 a, .int .i64 b] 28)) from (Below.refl _ _).alloc (Nat.le_refl _) _)
  clear hA hn hs ht
  by_cases hd : faB a b ts s t = true
  · have HD := Lib.hid hd
    have HW := Lib.hid (faB_yes hd).1
    have HV := Lib.hid (faB_yes hd).2
    have hdt : dtB a b ts s t = true := by unfold faB at hd; rw [Bool.and_eq_true] at hd; exact hd.1
    have hbd := lv_bd (a := a) (b := b) (ts := ts) (s := s) (dkB_parts (dtB_parts hdt).2).2.2.2.2.1
    have hM := (dkB_parts (dtB_parts hdt).1).2.2.2.1
    have hfb := few_bd a b s t
    clear hd hdt
    go_enter Try.func35, Try.ntmps35
    generalize lvZ a b ts s t = y at HW HV hbd
    go_wp2_with (first
      | (go_at_call 25; refine (fewestAround_any _ _ _ _ _ ts _ _ _ HN.out HS.out HT.out (HA.out.below X0.out)).mono ?_; rw [HD.out, HW.out]; rintro e w1 ⟨rfl, hb1⟩; have X1 := Lib.hid (bel_call X0.out hb1); have C1 := Lib.hid (C0.out.call hb1); have k0 : w1.cell? ⟨w.heap.size, 0, none⟩ = some (.int .i64 a) := C1.out.cell (show 0 < 2 by omega); have k1 : w1.cell? ⟨w.heap.size, 1, none⟩ = some (.int .i64 b) := C1.out.cell (show 1 < 2 by omega); clear hb1)
      | (go_at_call 75; refine (fewest_any _ _ _ _ _ HS.out HT.out).mono ?_; rintro e w2 ⟨rfl, hb2⟩))
    go_ret2
    exact ⟨by rw [HV.out, HD.out]; rfl, bel_call X1.out hb2⟩
  · have HD := Lib.hid (Bool.eq_false_iff.2 hd)
    have HW := Lib.hid (faB_no HD.out).1
    have HV := Lib.hid (faB_no HD.out).2
    clear hd
    go_enter Try.func35, Try.ntmps35
    go_wp2_with (go_at_call 25; refine (fewestAround_any _ _ _ _ _ ts _ _ _ HN.out HS.out HT.out (HA.out.below X0.out)).mono ?_; rw [HD.out, HW.out]; rintro e w1 ⟨rfl, hb1⟩; have X1 := Lib.hid (bel_call X0.out hb1); clear hb1)
    go_ret2
    exact ⟨by rw [HV.out, HD.out]; rfl, X1.out⟩

end Go.Proofs.Ytilnjlcljjpnmaa
