/- The turn that meets a dead code, and the code behind a way, as both programs tell them. For lists that can be. -/
import Derived.Test.YtilnjlcljjpnmaaWk
namespace Go.Proofs.Ytilnjlcljjpnmaa
open Go.ChangeShapes Go.WideShapes Go.ChangeAt Go.RowKit Go.Joins

theorem turns_arg {w : World} {g n : Nat} {us : List (Int × Int)} (hl : us.length = n) (hC : Cells w g (n * 2) (turnF us)) : ArgT w (some ⟨g, 0, none⟩) n us := argT_own hl hC

set_option maxRecDepth 100000 in
set_option maxHeartbeats 2000000 in
theorem specMeets_any (a b : Int) (A : Option Addr) (n c : Nat) (ts : List ByteArray) (s : ByteArray) (g m d : Nat) (us : List (Int × Int)) (w : World) (hn : n ≤ maxLen) (hs : s.size ≤ maxLen) (hA : ArgS w A n ts) (hl : us.length = m) (hm : m ≤ 1048576) (hC : Cells w g (m * 2) (turnF us)) :
    Calls Try.prog 50 #[.agg #[.int .i64 a, .int .i64 b], .slice A n c, .string s, .slice (some ⟨g, 0, none⟩) m d] w fun e w' => e = .returned (.tuple #[.int .i64 (mtZ a b ts s us), .bool (mtB a b ts s us)]) ∧ Below w.heap.size w w' := by
  have HA := Lib.hid hA
  have HN := Lib.hid hn
  have HS := Lib.hid hs
  have HL := Lib.hid hl
  have HC := Lib.hid hC
  have C0 := Lib.hid (box_new (W := w) (a := a) (b := b) (t := 28) rfl)
  have X0 := Lib.hid (show Below w.heap.size w (w.alloc (.cells #[.int .i64 a, .int .i64 b] 28)) from (Below.refl _ _).alloc (Nat.le_refl _) _)
  clear hA hn hs hl hC
  by_cases hd : dkB a b ts s = true
  · have HD := Lib.hid hd
    have hg := good_yes (dkB_parts hd).2.2.1
    have HAS := Lib.hid (dkB_parts hd).2.2.2.2.1
    clear hd
    by_cases ht : turnsB a us = true
    · have HT := Lib.hid ht
      have HW : Hid (wkB a b ts s us = true) := Lib.hid (by unfold wkB; rw [HD.out, ht]; rfl)
      clear ht
      go_enter Try.func50, Try.ntmps50
      go_wp2_with (first
        | (go_at_call 76; refine (deAsked_any _ _ _ _ _ ts _ _ HN.out HS.out (HA.out.below X0.out)).mono ?_; rw [HD.out]; rintro e w1 ⟨rfl, hb1⟩; have X1 := Lib.hid (bel_call X0.out hb1); have C1 := Lib.hid (C0.out.call hb1); have k0 : w1.cell? ⟨w.heap.size, 0, none⟩ = some (.int .i64 a) := C1.out.cell (show 0 < 2 by omega); have k1 : w1.cell? ⟨w.heap.size, 1, none⟩ = some (.int .i64 b) := C1.out.cell (show 1 < 2 by omega); clear hb1)
        | (go_at_call 92; refine (whTurns_any _ _ us _ _ _ _ HL.out hm (by omega) (by omega) (HC.out.call X1.out)).mono ?_; rw [HT.out]; rintro e w2 ⟨rfl, hb2⟩; have X2 := Lib.hid (bel_call X1.out hb2); have C2 := Lib.hid (C1.out.call hb2); have j0 : w2.cell? ⟨w.heap.size, 0, none⟩ = some (.int .i64 a) := C2.out.cell (show 0 < 2 by omega); have j1 : w2.cell? ⟨w.heap.size, 1, none⟩ = some (.int .i64 b) := C2.out.cell (show 1 < 2 by omega); clear hb2))
      refine (deWalk_any _ _ _ _ _ ts _ _ _ _ us _ HN.out (HA.out.below X2.out) HAS.out hm (turns_arg HL.out (HC.out.call X2.out)) HT.out).mono ?_
      rintro e w3 ⟨h3, hb3⟩
      have X3 := Lib.hid (bel_call X2.out hb3)
      clear hb3
      rcases h3 with ⟨hlt, t, rfl⟩ | ⟨he, rfl⟩
      · have HV : Hid (mtB a b ts s us = true ∧ waB a b ts s us = false) := Lib.hid (by unfold mtB waB; rw [HW.out, HL.out, decide_eq_true hlt]; exact ⟨rfl, rfl⟩)
        have HK : Hid (mtZ a b ts s us = ((stpW b (alB a b ts) s us : Nat) : Int) ∧ waZ a b ts s us = ⟨#[]⟩) := Lib.hid (by unfold mtZ waZ; rw [HV.out.1, HV.out.2]; exact ⟨rfl, rfl⟩)
        generalize stpW b (alB a b ts) s us = q at hlt HK
        go_wp2_with fail
        go_ret2
        exact ⟨by rw [HV.out.1, HK.out.1]; rfl, X3.out⟩
      · have HV : Hid (mtB a b ts s us = false ∧ waB a b ts s us = true) := Lib.hid (by unfold mtB waB; rw [HW.out, HL.out, he, decide_eq_false (Nat.lt_irrefl _)]; exact ⟨rfl, rfl⟩)
        have HK : Hid (mtZ a b ts s us = 0 ∧ waZ a b ts s us = bhW b s us m) := Lib.hid (by unfold mtZ waZ; rw [HV.out.1, HV.out.2, HL.out]; exact ⟨rfl, rfl⟩)
        clear he
        go_wp2_with fail
        go_ret2
        exact ⟨by rw [HV.out.1, HK.out.1]; rfl, X3.out⟩
    · have HT := Lib.hid (Bool.eq_false_iff.2 ht)
      have HV : Hid (mtB a b ts s us = false ∧ waB a b ts s us = false) := Lib.hid (by unfold mtB waB wkB; rw [HT.out, Bool.and_false]; exact ⟨rfl, rfl⟩)
      have HK : Hid (mtZ a b ts s us = 0 ∧ waZ a b ts s us = ⟨#[]⟩) := Lib.hid (by unfold mtZ waZ; rw [HV.out.1, HV.out.2]; exact ⟨rfl, rfl⟩)
      clear ht
      go_enter Try.func50, Try.ntmps50
      go_wp2_with (first
        | (go_at_call 76; refine (deAsked_any _ _ _ _ _ ts _ _ HN.out HS.out (HA.out.below X0.out)).mono ?_; rw [HD.out]; rintro e w1 ⟨rfl, hb1⟩; have X1 := Lib.hid (bel_call X0.out hb1); have C1 := Lib.hid (C0.out.call hb1); have k0 : w1.cell? ⟨w.heap.size, 0, none⟩ = some (.int .i64 a) := C1.out.cell (show 0 < 2 by omega); have k1 : w1.cell? ⟨w.heap.size, 1, none⟩ = some (.int .i64 b) := C1.out.cell (show 1 < 2 by omega); clear hb1)
        | (go_at_call 92; refine (whTurns_any _ _ us _ _ _ _ HL.out hm (by omega) (by omega) (HC.out.call X1.out)).mono ?_; rw [HT.out]; rintro e w2 ⟨rfl, hb2⟩; have X2 := Lib.hid (bel_call X1.out hb2); have C2 := Lib.hid (C1.out.call hb2); have j0 : w2.cell? ⟨w.heap.size, 0, none⟩ = some (.int .i64 a) := C2.out.cell (show 0 < 2 by omega); have j1 : w2.cell? ⟨w.heap.size, 1, none⟩ = some (.int .i64 b) := C2.out.cell (show 1 < 2 by omega); clear hb2))
      go_ret2
      exact ⟨by rw [HV.out.1, HK.out.1]; rfl, X2.out⟩
  · have HD := Lib.hid (Bool.eq_false_iff.2 hd)
    have HV : Hid (mtB a b ts s us = false ∧ waB a b ts s us = false) := Lib.hid (by unfold mtB waB wkB; rw [HD.out]; exact ⟨rfl, rfl⟩)
    have HK : Hid (mtZ a b ts s us = 0 ∧ waZ a b ts s us = ⟨#[]⟩) := Lib.hid (by unfold mtZ waZ; rw [HV.out.1, HV.out.2]; exact ⟨rfl, rfl⟩)
    clear hd
    go_enter Try.func50, Try.ntmps50
    go_wp2_with (go_at_call 76; refine (deAsked_any _ _ _ _ _ ts _ _ HN.out HS.out (HA.out.below X0.out)).mono ?_; rw [HD.out]; rintro e w1 ⟨rfl, hb1⟩; have X1 := Lib.hid (bel_call X0.out hb1); have C1 := Lib.hid (C0.out.call hb1); have k0 : w1.cell? ⟨w.heap.size, 0, none⟩ = some (.int .i64 a) := C1.out.cell (show 0 < 2 by omega); have k1 : w1.cell? ⟨w.heap.size, 1, none⟩ = some (.int .i64 b) := C1.out.cell (show 1 < 2 by omega); clear hb1)
    go_ret2
    exact ⟨by rw [HV.out.1, HK.out.1]; rfl, X1.out⟩

set_option maxRecDepth 100000 in
set_option maxHeartbeats 2000000 in
theorem specWalk_any (a b : Int) (A : Option Addr) (n c : Nat) (ts : List ByteArray) (s : ByteArray) (g m d : Nat) (us : List (Int × Int)) (w : World) (hn : n ≤ maxLen) (hs : s.size ≤ maxLen) (hA : ArgS w A n ts) (hl : us.length = m) (hm : m ≤ 1048576) (hC : Cells w g (m * 2) (turnF us)) :
    Calls Try.prog 53 #[.agg #[.int .i64 a, .int .i64 b], .slice A n c, .string s, .slice (some ⟨g, 0, none⟩) m d] w fun e w' => e = .returned (.tuple #[.string (waZ a b ts s us), .bool (waB a b ts s us)]) ∧ Below w.heap.size w w' := by
  have HA := Lib.hid hA
  have HN := Lib.hid hn
  have HS := Lib.hid hs
  have HL := Lib.hid hl
  have HC := Lib.hid hC
  have C0 := Lib.hid (box_new (W := w) (a := a) (b := b) (t := 28) rfl)
  have X0 := Lib.hid (show Below w.heap.size w (w.alloc (.cells #[.int .i64 a, .int .i64 b] 28)) from (Below.refl _ _).alloc (Nat.le_refl _) _)
  clear hA hn hs hl hC
  by_cases hd : dkB a b ts s = true
  · have HD := Lib.hid hd
    have hg := good_yes (dkB_parts hd).2.2.1
    have HAS := Lib.hid (dkB_parts hd).2.2.2.2.1
    clear hd
    by_cases ht : turnsB a us = true
    · have HT := Lib.hid ht
      have HW : Hid (wkB a b ts s us = true) := Lib.hid (by unfold wkB; rw [HD.out, ht]; rfl)
      clear ht
      go_enter Try.func53, Try.ntmps53
      go_wp2_with (first
        | (go_at_call 76; refine (deAsked_any _ _ _ _ _ ts _ _ HN.out HS.out (HA.out.below X0.out)).mono ?_; rw [HD.out]; rintro e w1 ⟨rfl, hb1⟩; have X1 := Lib.hid (bel_call X0.out hb1); have C1 := Lib.hid (C0.out.call hb1); have k0 : w1.cell? ⟨w.heap.size, 0, none⟩ = some (.int .i64 a) := C1.out.cell (show 0 < 2 by omega); have k1 : w1.cell? ⟨w.heap.size, 1, none⟩ = some (.int .i64 b) := C1.out.cell (show 1 < 2 by omega); clear hb1)
        | (go_at_call 92; refine (whTurns_any _ _ us _ _ _ _ HL.out hm (by omega) (by omega) (HC.out.call X1.out)).mono ?_; rw [HT.out]; rintro e w2 ⟨rfl, hb2⟩; have X2 := Lib.hid (bel_call X1.out hb2); have C2 := Lib.hid (C1.out.call hb2); have j0 : w2.cell? ⟨w.heap.size, 0, none⟩ = some (.int .i64 a) := C2.out.cell (show 0 < 2 by omega); have j1 : w2.cell? ⟨w.heap.size, 1, none⟩ = some (.int .i64 b) := C2.out.cell (show 1 < 2 by omega); clear hb2))
      refine (deWalk_any _ _ _ _ _ ts _ _ _ _ us _ HN.out (HA.out.below X2.out) HAS.out hm (turns_arg HL.out (HC.out.call X2.out)) HT.out).mono ?_
      rintro e w3 ⟨h3, hb3⟩
      have X3 := Lib.hid (bel_call X2.out hb3)
      clear hb3
      rcases h3 with ⟨hlt, t, rfl⟩ | ⟨he, rfl⟩
      · have HV : Hid (mtB a b ts s us = true ∧ waB a b ts s us = false) := Lib.hid (by unfold mtB waB; rw [HW.out, HL.out, decide_eq_true hlt]; exact ⟨rfl, rfl⟩)
        have HK : Hid (mtZ a b ts s us = ((stpW b (alB a b ts) s us : Nat) : Int) ∧ waZ a b ts s us = ⟨#[]⟩) := Lib.hid (by unfold mtZ waZ; rw [HV.out.1, HV.out.2]; exact ⟨rfl, rfl⟩)
        generalize stpW b (alB a b ts) s us = q at hlt HK
        go_wp2_with fail
        go_ret2
        exact ⟨by rw [HV.out.2, HK.out.2]; rfl, X3.out⟩
      · have HV : Hid (mtB a b ts s us = false ∧ waB a b ts s us = true) := Lib.hid (by unfold mtB waB; rw [HW.out, HL.out, he, decide_eq_false (Nat.lt_irrefl _)]; exact ⟨rfl, rfl⟩)
        have HK : Hid (mtZ a b ts s us = 0 ∧ waZ a b ts s us = bhW b s us m) := Lib.hid (by unfold mtZ waZ; rw [HV.out.1, HV.out.2, HL.out]; exact ⟨rfl, rfl⟩)
        clear he
        go_wp2_with fail
        go_ret2
        exact ⟨by rw [HV.out.2, HK.out.2]; rfl, X3.out⟩
    · have HT := Lib.hid (Bool.eq_false_iff.2 ht)
      have HV : Hid (mtB a b ts s us = false ∧ waB a b ts s us = false) := Lib.hid (by unfold mtB waB wkB; rw [HT.out, Bool.and_false]; exact ⟨rfl, rfl⟩)
      have HK : Hid (mtZ a b ts s us = 0 ∧ waZ a b ts s us = ⟨#[]⟩) := Lib.hid (by unfold mtZ waZ; rw [HV.out.1, HV.out.2]; exact ⟨rfl, rfl⟩)
      clear ht
      go_enter Try.func53, Try.ntmps53
      go_wp2_with (first
        | (go_at_call 76; refine (deAsked_any _ _ _ _ _ ts _ _ HN.out HS.out (HA.out.below X0.out)).mono ?_; rw [HD.out]; rintro e w1 ⟨rfl, hb1⟩; have X1 := Lib.hid (bel_call X0.out hb1); have C1 := Lib.hid (C0.out.call hb1); have k0 : w1.cell? ⟨w.heap.size, 0, none⟩ = some (.int .i64 a) := C1.out.cell (show 0 < 2 by omega); have k1 : w1.cell? ⟨w.heap.size, 1, none⟩ = some (.int .i64 b) := C1.out.cell (show 1 < 2 by omega); clear hb1)
        | (go_at_call 92; refine (whTurns_any _ _ us _ _ _ _ HL.out hm (by omega) (by omega) (HC.out.call X1.out)).mono ?_; rw [HT.out]; rintro e w2 ⟨rfl, hb2⟩; have X2 := Lib.hid (bel_call X1.out hb2); have C2 := Lib.hid (C1.out.call hb2); have j0 : w2.cell? ⟨w.heap.size, 0, none⟩ = some (.int .i64 a) := C2.out.cell (show 0 < 2 by omega); have j1 : w2.cell? ⟨w.heap.size, 1, none⟩ = some (.int .i64 b) := C2.out.cell (show 1 < 2 by omega); clear hb2))
      go_ret2
      exact ⟨by rw [HV.out.2, HK.out.2]; rfl, X2.out⟩
  · have HD := Lib.hid (Bool.eq_false_iff.2 hd)
    have HV : Hid (mtB a b ts s us = false ∧ waB a b ts s us = false) := Lib.hid (by unfold mtB waB wkB; rw [HD.out]; exact ⟨rfl, rfl⟩)
    have HK : Hid (mtZ a b ts s us = 0 ∧ waZ a b ts s us = ⟨#[]⟩) := Lib.hid (by unfold mtZ waZ; rw [HV.out.1, HV.out.2]; exact ⟨rfl, rfl⟩)
    clear hd
    go_enter Try.func53, Try.ntmps53
    go_wp2_with (go_at_call 76; refine (deAsked_any _ _ _ _ _ ts _ _ HN.out HS.out (HA.out.below X0.out)).mono ?_; rw [HD.out]; rintro e w1 ⟨rfl, hb1⟩; have X1 := Lib.hid (bel_call X0.out hb1); have C1 := Lib.hid (C0.out.call hb1); have k0 : w1.cell? ⟨w.heap.size, 0, none⟩ = some (.int .i64 a) := C1.out.cell (show 0 < 2 by omega); have k1 : w1.cell? ⟨w.heap.size, 1, none⟩ = some (.int .i64 b) := C1.out.cell (show 1 < 2 by omega); clear hb1)
    go_ret2
    exact ⟨by rw [HV.out.2, HK.out.2]; rfl, X1.out⟩

set_option maxRecDepth 100000 in
set_option maxHeartbeats 2000000 in
theorem meets_any (a b : Int) (A : Option Addr) (n c : Nat) (ts : List ByteArray) (s : ByteArray) (g m d : Nat) (us : List (Int × Int)) (w : World) (hn : n ≤ maxLen) (hs : s.size ≤ maxLen) (hA : ArgS w A n ts) (hl : us.length = m) (hm : m ≤ 1048576) (hC : Cells w g (m * 2) (turnF us)) :
    Calls Try.prog 52 #[.agg #[.int .i64 a, .int .i64 b], .slice A n c, .string s, .slice (some ⟨g, 0, none⟩) m d] w fun e w' => e = .returned (.tuple #[.int .i64 (mtZ a b ts s us), .bool (mtB a b ts s us)]) ∧ Below w.heap.size w w' := by
  have HA := Lib.hid hA
  have HN := Lib.hid hn
  have HS := Lib.hid hs
  have HL := Lib.hid hl
  have HC := Lib.hid hC
  have C0 := Lib.hid ((box_new (W := w) (a := a) (b := b) (t := 28) rfl).alloc (.cells #[.string s] 9))
  have X0 := Lib.hid (show Below w.heap.size w ((w.alloc (.cells #[.int .i64 a, .int .i64 b] 28)).alloc (.cells #[.string s] 9)) by (repeat (first | assumption | exact Below.refl _ _ | (refine Below.alloc ?_ (by first | omega | (simp; done) | (simp; omega)) _) | (refine Below.setCell ?_ (by first | omega | (simp; done) | (simp; omega)) _) | refine bel_drewN ?_ _ | refine bel_drew ?_ | (refine bel_call ?_ (by assumption)))))
  have E0 := Lib.hid (argS_one (W := w.alloc (.cells #[.int .i64 a, .int .i64 b] 28)) (s := s) (t := 9) (g := w.heap.size + 1) (by simp) hs)
  clear hA hn hs hl hC
  go_enter Try.func52, Try.ntmps52
  go_wp2_with fail
  refine (mazeOf_any _ _ _ _ _ ts _ _ _ [s] _ HN.out (HA.out.below X0.out) (by unfold maxLen; omega) E0.out).mono ?_
  rintro e w1 h1
  rcases h1 with ⟨hd, B, rfl, hB, hlv, hb1⟩ | ⟨hd, rfl, hb1⟩
  · rw [mzB_one] at hd
    unfold mzV
    have HD := Lib.hid hd
    have HAS := Lib.hid (dkB_parts hd).2.2.2.2.1
    have X1 := Lib.hid ((bel_call X0.out hb1).alloc (bel_call X0.out hb1).size (.cells #[.int .i64 a, .int .i64 b, .map (some B)] 72))
    have C1 := Lib.hid ((C0.out.call hb1).alloc (.cells #[.int .i64 a, .int .i64 b, .map (some B)] 72))
    have M1 := Lib.hid (m3_new (W := w1) (a := a) (b := b) (v := .map (some B)) (t := 72) rfl)
    have L1 := Lib.hid (hlv.call ((Below.refl _ _).alloc (Nat.le_refl _) (.cells #[.int .i64 a, .int .i64 b, .map (some B)] 72)))
    have k0 : (w1.alloc (.cells #[.int .i64 a, .int .i64 b, .map (some B)] 72)).cell? ⟨w.heap.size, 0, none⟩ = some (.int .i64 a) := C1.out.cell (show 0 < 2 by omega)
    have k1 : (w1.alloc (.cells #[.int .i64 a, .int .i64 b, .map (some B)] 72)).cell? ⟨w.heap.size, 1, none⟩ = some (.int .i64 b) := C1.out.cell (show 1 < 2 by omega)
    clear hd hb1 hlv C0 X0 E0 hB
    obtain ⟨u, HT⟩ : ∃ u, Hid (turnsB a us = u) := ⟨_, Lib.hid rfl⟩
    rcases u with _ | _
    · have HV : Hid (mtB a b ts s us = false ∧ waB a b ts s us = false) := Lib.hid (by unfold mtB waB wkB; rw [HT.out, Bool.and_false]; exact ⟨rfl, rfl⟩)
      have HK : Hid (mtZ a b ts s us = 0 ∧ waZ a b ts s us = ⟨#[]⟩) := Lib.hid (by unfold mtZ waZ; rw [HV.out.1, HV.out.2]; exact ⟨rfl, rfl⟩)
      go_wp2_with (go_at_call 95; refine (hasTurns_any _ _ us _ _ _ _ HL.out hm (HC.out.call X1.out)).mono ?_; rw [HT.out]; rintro e w2 ⟨rfl, hb2⟩)
      go_ret2
      exact ⟨by rw [HV.out.1, HK.out.1]; rfl, bel_call X1.out hb2⟩
    · have HW : Hid (wkB a b ts s us = true) := Lib.hid (by unfold wkB; rw [HD.out, HT.out]; rfl)
      go_wp2_with (go_at_call 95; refine (hasTurns_any _ _ us _ _ _ _ HL.out hm (HC.out.call X1.out)).mono ?_; rw [HT.out]; rintro e w2 ⟨rfl, hb2⟩; have X2 := Lib.hid (bel_call X1.out hb2); have M2 := Lib.hid (M1.out.call hb2); have L2 := Lib.hid (L1.out.call hb2); have j0 : w2.cell? ⟨w1.heap.size, 0, none⟩ = some (.int .i64 a) := M2.out.cell (show 0 < 3 by omega); have j1 : w2.cell? ⟨w1.heap.size, 1, none⟩ = some (.int .i64 b) := M2.out.cell (show 1 < 3 by omega); have j2 : w2.cell? ⟨w1.heap.size, 2, none⟩ = some (.map (some B)) := M2.out.cell (show 2 < 3 by omega); clear hb2)
      refine (walk_any _ _ _ (alB a b ts) _ _ _ _ us _ L2.out HAS.out hm (turns_arg HL.out (HC.out.call X2.out)) HT.out).mono ?_
      rintro e w3 ⟨rfl, hb3⟩
      have X3 := Lib.hid (bel_call X2.out hb3)
      have hle : stpW b (alB a b ts) s us ≤ m := by rw [← HL.out]; exact fstN_le
      clear hb3
      by_cases hlt : stpW b (alB a b ts) s us < m
      · have HV : Hid (mtB a b ts s us = true ∧ waB a b ts s us = false) := Lib.hid (by unfold mtB waB; rw [HW.out, HL.out, decide_eq_true hlt]; exact ⟨rfl, rfl⟩)
        have HK : Hid (mtZ a b ts s us = ((stpW b (alB a b ts) s us : Nat) : Int) ∧ waZ a b ts s us = ⟨#[]⟩) := Lib.hid (by unfold mtZ waZ; rw [HV.out.1, HV.out.2]; exact ⟨rfl, rfl⟩)
        generalize stpW b (alB a b ts) s us = q at hlt HK hle ⊢
        go_wp2_with fail
        go_ret2
        exact ⟨by rw [HV.out.1, HK.out.1]; rfl, X3.out⟩
      · have he : stpW b (alB a b ts) s us = m := by omega
        have HV : Hid (mtB a b ts s us = false ∧ waB a b ts s us = true) := Lib.hid (by unfold mtB waB; rw [HW.out, HL.out, decide_eq_false hlt]; exact ⟨rfl, rfl⟩)
        have HK : Hid (mtZ a b ts s us = 0 ∧ waZ a b ts s us = bhW b s us m) := Lib.hid (by unfold mtZ waZ; rw [HV.out.1, HV.out.2, HL.out]; exact ⟨rfl, rfl⟩)
        rw [he]
        clear he hlt hle
        go_wp2_with fail
        go_ret2
        exact ⟨by rw [HV.out.1, HK.out.1]; rfl, X3.out⟩
  · rw [mzB_one] at hd
    have HD := Lib.hid hd
    have HV : Hid (mtB a b ts s us = false ∧ waB a b ts s us = false) := Lib.hid (by unfold mtB waB wkB; rw [HD.out]; exact ⟨rfl, rfl⟩)
    have HK : Hid (mtZ a b ts s us = 0 ∧ waZ a b ts s us = ⟨#[]⟩) := Lib.hid (by unfold mtZ waZ; rw [HV.out.1, HV.out.2]; exact ⟨rfl, rfl⟩)
    have X1 := Lib.hid ((bel_call X0.out hb1).alloc (bel_call X0.out hb1).size (.cells #[.int .i64 0, .int .i64 0, .map none] 72))
    unfold mzV
    clear hd hb1
    go_wp2_with fail
    go_ret2
    exact ⟨by rw [HV.out.1, HK.out.1]; rfl, X1.out⟩

set_option maxRecDepth 100000 in
set_option maxHeartbeats 2000000 in
theorem walkAround_any (a b : Int) (A : Option Addr) (n c : Nat) (ts : List ByteArray) (s : ByteArray) (g m d : Nat) (us : List (Int × Int)) (w : World) (hn : n ≤ maxLen) (hs : s.size ≤ maxLen) (hA : ArgS w A n ts) (hl : us.length = m) (hm : m ≤ 1048576) (hC : Cells w g (m * 2) (turnF us)) :
    Calls Try.prog 54 #[.agg #[.int .i64 a, .int .i64 b], .slice A n c, .string s, .slice (some ⟨g, 0, none⟩) m d] w fun e w' => e = .returned (.tuple #[.string (waZ a b ts s us), .bool (waB a b ts s us)]) ∧ Below w.heap.size w w' := by
  have HA := Lib.hid hA
  have HN := Lib.hid hn
  have HS := Lib.hid hs
  have HL := Lib.hid hl
  have HC := Lib.hid hC
  have C0 := Lib.hid ((box_new (W := w) (a := a) (b := b) (t := 28) rfl).alloc (.cells #[.string s] 9))
  have X0 := Lib.hid (show Below w.heap.size w ((w.alloc (.cells #[.int .i64 a, .int .i64 b] 28)).alloc (.cells #[.string s] 9)) by (repeat (first | assumption | exact Below.refl _ _ | (refine Below.alloc ?_ (by first | omega | (simp; done) | (simp; omega)) _) | (refine Below.setCell ?_ (by first | omega | (simp; done) | (simp; omega)) _) | refine bel_drewN ?_ _ | refine bel_drew ?_ | (refine bel_call ?_ (by assumption)))))
  have E0 := Lib.hid (argS_one (W := w.alloc (.cells #[.int .i64 a, .int .i64 b] 28)) (s := s) (t := 9) (g := w.heap.size + 1) (by simp) hs)
  clear hA hn hs hl hC
  go_enter Try.func54, Try.ntmps54
  go_wp2_with fail
  refine (mazeOf_any _ _ _ _ _ ts _ _ _ [s] _ HN.out (HA.out.below X0.out) (by unfold maxLen; omega) E0.out).mono ?_
  rintro e w1 h1
  rcases h1 with ⟨hd, B, rfl, hB, hlv, hb1⟩ | ⟨hd, rfl, hb1⟩
  · rw [mzB_one] at hd
    unfold mzV
    have HD := Lib.hid hd
    have HAS := Lib.hid (dkB_parts hd).2.2.2.2.1
    have X1 := Lib.hid ((bel_call X0.out hb1).alloc (bel_call X0.out hb1).size (.cells #[.int .i64 a, .int .i64 b, .map (some B)] 72))
    have C1 := Lib.hid ((C0.out.call hb1).alloc (.cells #[.int .i64 a, .int .i64 b, .map (some B)] 72))
    have M1 := Lib.hid (m3_new (W := w1) (a := a) (b := b) (v := .map (some B)) (t := 72) rfl)
    have L1 := Lib.hid (hlv.call ((Below.refl _ _).alloc (Nat.le_refl _) (.cells #[.int .i64 a, .int .i64 b, .map (some B)] 72)))
    have k0 : (w1.alloc (.cells #[.int .i64 a, .int .i64 b, .map (some B)] 72)).cell? ⟨w.heap.size, 0, none⟩ = some (.int .i64 a) := C1.out.cell (show 0 < 2 by omega)
    have k1 : (w1.alloc (.cells #[.int .i64 a, .int .i64 b, .map (some B)] 72)).cell? ⟨w.heap.size, 1, none⟩ = some (.int .i64 b) := C1.out.cell (show 1 < 2 by omega)
    clear hd hb1 hlv C0 X0 E0 hB
    obtain ⟨u, HT⟩ : ∃ u, Hid (turnsB a us = u) := ⟨_, Lib.hid rfl⟩
    rcases u with _ | _
    · have HV : Hid (mtB a b ts s us = false ∧ waB a b ts s us = false) := Lib.hid (by unfold mtB waB wkB; rw [HT.out, Bool.and_false]; exact ⟨rfl, rfl⟩)
      have HK : Hid (mtZ a b ts s us = 0 ∧ waZ a b ts s us = ⟨#[]⟩) := Lib.hid (by unfold mtZ waZ; rw [HV.out.1, HV.out.2]; exact ⟨rfl, rfl⟩)
      go_wp2_with (go_at_call 95; refine (hasTurns_any _ _ us _ _ _ _ HL.out hm (HC.out.call X1.out)).mono ?_; rw [HT.out]; rintro e w2 ⟨rfl, hb2⟩)
      go_ret2
      exact ⟨by rw [HV.out.2, HK.out.2]; rfl, bel_call X1.out hb2⟩
    · have HW : Hid (wkB a b ts s us = true) := Lib.hid (by unfold wkB; rw [HD.out, HT.out]; rfl)
      go_wp2_with (go_at_call 95; refine (hasTurns_any _ _ us _ _ _ _ HL.out hm (HC.out.call X1.out)).mono ?_; rw [HT.out]; rintro e w2 ⟨rfl, hb2⟩; have X2 := Lib.hid (bel_call X1.out hb2); have M2 := Lib.hid (M1.out.call hb2); have L2 := Lib.hid (L1.out.call hb2); have j0 : w2.cell? ⟨w1.heap.size, 0, none⟩ = some (.int .i64 a) := M2.out.cell (show 0 < 3 by omega); have j1 : w2.cell? ⟨w1.heap.size, 1, none⟩ = some (.int .i64 b) := M2.out.cell (show 1 < 3 by omega); have j2 : w2.cell? ⟨w1.heap.size, 2, none⟩ = some (.map (some B)) := M2.out.cell (show 2 < 3 by omega); clear hb2)
      refine (walk_any _ _ _ (alB a b ts) _ _ _ _ us _ L2.out HAS.out hm (turns_arg HL.out (HC.out.call X2.out)) HT.out).mono ?_
      rintro e w3 ⟨rfl, hb3⟩
      have X3 := Lib.hid (bel_call X2.out hb3)
      have hle : stpW b (alB a b ts) s us ≤ m := by rw [← HL.out]; exact fstN_le
      clear hb3
      by_cases hlt : stpW b (alB a b ts) s us < m
      · have HV : Hid (mtB a b ts s us = true ∧ waB a b ts s us = false) := Lib.hid (by unfold mtB waB; rw [HW.out, HL.out, decide_eq_true hlt]; exact ⟨rfl, rfl⟩)
        have HK : Hid (mtZ a b ts s us = ((stpW b (alB a b ts) s us : Nat) : Int) ∧ waZ a b ts s us = ⟨#[]⟩) := Lib.hid (by unfold mtZ waZ; rw [HV.out.1, HV.out.2]; exact ⟨rfl, rfl⟩)
        generalize stpW b (alB a b ts) s us = q at hlt HK hle ⊢
        go_wp2_with fail
        go_ret2
        exact ⟨by rw [HV.out.2, HK.out.2]; rfl, X3.out⟩
      · have he : stpW b (alB a b ts) s us = m := by omega
        have HV : Hid (mtB a b ts s us = false ∧ waB a b ts s us = true) := Lib.hid (by unfold mtB waB; rw [HW.out, HL.out, decide_eq_false hlt]; exact ⟨rfl, rfl⟩)
        have HK : Hid (mtZ a b ts s us = 0 ∧ waZ a b ts s us = bhW b s us m) := Lib.hid (by unfold mtZ waZ; rw [HV.out.1, HV.out.2, HL.out]; exact ⟨rfl, rfl⟩)
        rw [he]
        clear he hlt hle
        go_wp2_with fail
        go_ret2
        exact ⟨by rw [HV.out.2, HK.out.2]; rfl, X3.out⟩
  · rw [mzB_one] at hd
    have HD := Lib.hid hd
    have HV : Hid (mtB a b ts s us = false ∧ waB a b ts s us = false) := Lib.hid (by unfold mtB waB wkB; rw [HD.out]; exact ⟨rfl, rfl⟩)
    have HK : Hid (mtZ a b ts s us = 0 ∧ waZ a b ts s us = ⟨#[]⟩) := Lib.hid (by unfold mtZ waZ; rw [HV.out.1, HV.out.2]; exact ⟨rfl, rfl⟩)
    have X1 := Lib.hid ((bel_call X0.out hb1).alloc (bel_call X0.out hb1).size (.cells #[.int .i64 0, .int .i64 0, .map none] 72))
    unfold mzV
    clear hd hb1
    go_wp2_with fail
    go_ret2
    exact ⟨by rw [HV.out.2, HK.out.2]; rfl, X1.out⟩

end Go.Proofs.Ytilnjlcljjpnmaa
