/- Whether a code cuts, as the model tells it. For lists that can be. -/
import Derived.Test.YtilnjlcljjpnmaaDw
import Derived.Test.YtilnjlcljjpnmaaCu
namespace Go.Proofs.Ytilnjlcljjpnmaa
open Go.ChangeShapes Go.WideShapes Go.ChangeAt Go.RowKit Go.Joins

set_option maxRecDepth 100000 in
set_option maxHeartbeats 4000000 in
theorem specCutting_any (a b : Int) (g n : Nat) (ts : List ByteArray) (s : ByteArray) (w : World) (hn : n ≤ maxLen) (hs : s.size ≤ maxLen) (hA : ArgS w (some ⟨g, 0, none⟩) n ts) :
    Calls Try.prog 55 #[.agg #[.int .i64 a, .int .i64 b], .slice (some ⟨g, 0, none⟩) n n, .string s] w fun e w' => e = .returned (.tuple #[.bool (cuB a b ts s), .bool (dkB a b ts s)]) ∧ Below w.heap.size w w' := by
  have HA := Lib.hid hA
  have HN := Lib.hid hn
  have HS := Lib.hid hs
  have HLN := Lib.hid hA.len
  have C0 := Lib.hid (box_new (W := w) (a := a) (b := b) (t := 28) rfl)
  have X0 := Lib.hid (show Below w.heap.size w (w.alloc (.cells #[.int .i64 a, .int .i64 b] 28)) from (Below.refl _ _).alloc (Nat.le_refl _) _)
  clear hA hn hs
  by_cases hd : dkB a b ts s = true
  · have HD := Lib.hid hd
    have HP := Lib.hid (dkB_parts hd)
    obtain ⟨an, hae⟩ : ∃ an : Nat, a = an := ⟨a.toNat, by have := good_yes HP.out.2.2.1; omega⟩
    subst hae
    have hn60 : n ≤ 60 := by
      have h := HP.out.2.1
      unfold deadB at h
      rw [Bool.and_eq_true, decide_eq_true_iff, HLN.out] at h
      exact h.1
    have HV : Hid (cuB an b ts s = decide (paN an b ts < paN an b (s :: ts))) := Lib.hid (by unfold cuB; rw [hd, Bool.true_and])
    clear hd
    go_enter Try.func55, Try.ntmps55
    go_wp2_with (go_at_call 76; refine (deAsked_any _ _ _ _ _ ts _ _ HN.out HS.out (HA.out.below X0.out)).mono ?_; rw [HD.out]; rintro e w1 ⟨rfl, hb1⟩; have X1 := Lib.hid (bel_call X0.out hb1); have C1 := Lib.hid (C0.out.call hb1); have k0 : w1.cell? ⟨w.heap.size, 0, none⟩ = some (.int .i64 (an : Int)) := C1.out.cell (show 0 < 2 by omega); have k1 : w1.cell? ⟨w.heap.size, 1, none⟩ = some (.int .i64 b) := C1.out.cell (show 1 < 2 by omega); clear hb1)
    go_region_with (first
      | (go_at_call 87; refine (deWith_any _ _ _ ts s _ (by omega) (Nat.le_refl _) (by omega) HS.out (HA.out.below (bel_drew X1.out))).mono ?_; rintro e w2 ⟨us, g', c', rfl, hmem, harg, hb2⟩
         have HB2 := Lib.hid (below_undrew hb2)
         have HARG := Lib.hid harg
         have HPE := Lib.hid (paN_al (a := (an : Int)) (b := b) (alB_more hmem))
         have X2 := Lib.hid (bel_call X1.out HB2.out)
         have C2 := Lib.hid (C1.out.call HB2.out)
         have j0 : w2.cell? ⟨w.heap.size, 0, none⟩ = some (.int .i64 (an : Int)) := C2.out.cell (show 0 < 2 by omega)
         have j1 : w2.cell? ⟨w.heap.size, 1, none⟩ = some (.int .i64 b) := C2.out.cell (show 1 < 2 by omega)
         clear hb2 hmem harg)
      | (have hx3 := X3.out; clear hx3; go_at_call 85; refine (deParts_any _ _ _ _ _ ts _ HN.out (HA.out.below X3.out) HP.out.2.2.1 HP.out.2.2.2.1).mono ?_; rintro e w4 ⟨rfl, hb4⟩
         have X4 := Lib.hid (bel_call X3.out hb4)
         clear hb4)
      | (go_at_call 85; refine (deParts_any _ _ _ _ _ us _ (by unfold maxLen; omega) HARG.out HP.out.2.2.1 HP.out.2.2.2.1).mono ?_; rintro e w3 ⟨rfl, hb3⟩
         have X3 := Lib.hid (bel_call X2.out hb3)
         have C3 := Lib.hid (C2.out.call hb3)
         have i0 : w3.cell? ⟨w.heap.size, 0, none⟩ = some (.int .i64 (an : Int)) := C3.out.cell (show 0 < 2 by omega)
         have i1 : w3.cell? ⟨w.heap.size, 1, none⟩ = some (.int .i64 b) := C3.out.cell (show 1 < 2 by omega)
         clear hb3))
    all_goals
      rw [HPE.out]
      go_wp2_with fail
      go_ret2
      exact ⟨by rw [HV.out, HD.out]; first | done | rfl, X4.out⟩
  · have HD := Lib.hid (Bool.eq_false_iff.2 hd)
    have HV : Hid (cuB a b ts s = false) := Lib.hid (by unfold cuB; rw [HD.out]; rfl)
    clear hd
    go_enter Try.func55, Try.ntmps55
    go_wp2_with (go_at_call 76; refine (deAsked_any _ _ _ _ _ ts _ _ HN.out HS.out (HA.out.below X0.out)).mono ?_; rw [HD.out]; rintro e w1 ⟨rfl, hb1⟩; have X1 := Lib.hid (bel_call X0.out hb1); clear hb1)
    go_ret2
    exact ⟨by rw [HV.out, HD.out]; first | done | rfl, X1.out⟩

end Go.Proofs.Ytilnjlcljjpnmaa
