/- The first code that is cut off, and the farthest one, as the model finds them. For lists that can be. -/
import Derived.Test.YtilnjlcljjpnmaaFcM
namespace Go.Proofs.Ytilnjlcljjpnmaa
open Go.ChangeShapes Go.WideShapes Go.ChangeAt Go.RowKit Go.Joins

set_option maxRecDepth 100000 in
set_option maxHeartbeats 1000000 in
theorem specFirstCutOff_any (a b : Int) (A : Option Addr) (n c : Nat) (ts : List ByteArray) (s : ByteArray) (w : World) (hn : n ≤ maxLen) (hs : s.size ≤ maxLen) (hA : ArgS w A n ts) :
    Calls Try.prog 40 #[.agg #[.int .i64 a, .int .i64 b], .slice A n c, .string s] w fun e w' => e = .returned (.tuple #[.string (fcZ a b ts s), .bool (fcB a b ts s)]) ∧ Below w.heap.size w w' := by
  have HA := Lib.hid hA
  have HN := Lib.hid hn
  have HS := Lib.hid hs
  have C0 := Lib.hid (box_new (W := w) (a := a) (b := b) (t := 28) rfl)
  have X0 := Lib.hid (show Below w.heap.size w (w.alloc (.cells #[.int .i64 a, .int .i64 b] 28)) from (Below.refl _ _).alloc (Nat.le_refl _) _)
  clear hA hn hs
  by_cases hd : dkB a b ts s = true
  · have HD := Lib.hid hd
    have HP := Lib.hid (dkB_parts hd)
    obtain ⟨an, hae⟩ : ∃ an : Nat, a = an := ⟨a.toNat, by have := good_yes HP.out.2.2.1; omega⟩
    subst hae
    have HCD : Hid (∀ k : Nat, textOf (digL b (k : Int) an) = cdN an b k) := Lib.hid (fun k => by unfold cdN; rw [Int.toNat_natCast])
    have hM := HP.out.2.2.2.1
    clear hd
    go_enter Try.func40, Try.ntmps40
    go_wp2_with (go_at_call 76; refine (deAsked_any _ _ _ _ _ ts _ _ HN.out HS.out (HA.out.below X0.out)).mono ?_; rw [HD.out]; rintro e w1 ⟨rfl, hb1⟩; have X1 := Lib.hid (bel_call X0.out hb1); have C1 := Lib.hid (C0.out.call hb1); have k0 : w1.cell? ⟨w.heap.size, 0, none⟩ = some (.int .i64 (an : Int)) := C1.out.cell (show 0 < 2 by omega); have k1 : w1.cell? ⟨w.heap.size, 1, none⟩ = some (.int .i64 b) := C1.out.cell (show 1 < 2 by omega); clear hb1)
    refine (deFar_any _ _ _ _ _ ts _ _ HN.out (HA.out.below X1.out) HP.out.2.2.2.2.2.2 hM).mono ?_
    rintro e w2 ⟨gf, gw, rfl, hgf, hgw, hF, hW, hb2⟩
    have C2 := Lib.hid (C1.out.call hb2)
    have X2 := Lib.hid (bel_call X1.out hb2)
    have HF := Lib.hid hF
    clear hb2 hF hW k0 k1 C0 X0 C1 X1
    generalize hMe : cnN an b = M at HF hM
    have HME := Lib.hid hMe
    clear hMe
    go_wp2_with fail
    go_loopw [27] (fun i wr => ∃ k : Nat, k ≤ M ∧ i = .int .i64 k ∧ (∀ i, i < k → cuB an b ts s (cdN an b i) = false) ∧ Cells wr w.heap.size 2 (b2F an b) ∧ Cells wr gf M (farF an b (lvZ an b ts s)) ∧ Below w.heap.size w wr) (fun i _ => M - (intOf i).toNat)
    case atStart => exact ⟨0, by omega, rfl, fun i hi => by omega, C2.out, HF.out, X2.out⟩
    case round =>
      clear C2 HF X2
      obtain ⟨k, hk, rfl, hall, hC, hFr, hB⟩ := hrel
      have HALL := Lib.hid hall
      have HC := Lib.hid hC
      have HF := Lib.hid hFr
      have HB := Lib.hid hB
      clear hall hC hFr hB
      by_cases hlt : k < M
      · have z : wr.cell? ⟨gf, k, none⟩ = some (.int .i64 (lvZ an b ts s (cdN an b k))) := HF.out.cell hlt
        have hbd := lv_bd (a := (an : Int)) (b := b) (ts := ts) (s := s) (cd_ask (i := k) HP.out.2.2.1)
        rw [HME.out] at hbd
        have HX := Lib.hid (cd_ask (a := (an : Int)) (b := b) (i := k) HP.out.2.2.1)
        have HTX := Lib.hid (HCD.out k)
        have HCU : Hid (cuB an b ts s (cdN an b k) = (!inS ts (cdN an b k) && !decide (0 ≤ lvZ an b ts s (cdN an b k)))) := Lib.hid (by unfold cuB rcB; rw [alB_of HX.out])
        have l0 : wr.cell? ⟨w.heap.size, 0, none⟩ = some (.int .i64 (an : Int)) := HC.out.cell (show 0 < 2 by omega)
        have l1 : wr.cell? ⟨w.heap.size, 1, none⟩ = some (.int .i64 b) := HC.out.cell (show 1 < 2 by omega)
        have HNX : Hid (cuB an b ts s (cdN an b k) = false → ∀ i, i < k + 1 → cuB an b ts s (cdN an b i) = false) := Lib.hid (fun h i hi => by
          by_cases e : i = k
          · rw [e]; exact h
          · exact HALL.out i (by omega))
        have HAT : Hid (cuB an b ts s (cdN an b k) = true → fcB an b ts s = true ∧ fcZ an b ts s = cdN an b k) := Lib.hid (fun h => fcB_at HD.out (by rw [HME.out]; exact hlt) HALL.out h)
        generalize cdN an b k = x at z hbd HX HTX HCU HNX HAT
        generalize lvZ an b ts s x = y at z hbd HCU
        by_cases hy : 0 ≤ y
        · have HV := Lib.hid (HNX.out (by rw [HCU.out, decide_eq_true hy]; simp))
          go_wp2_with (go_at_call 79; refine (whOf_any _ _ _ _ HP.out.2.2.1 (by omega) (by omega)).mono ?_; rw [HTX.out]; rintro e w3 ⟨rfl, hb3⟩; have C3 := Lib.hid (HC.out.call hb3); have F3 := Lib.hid (HF.out.call hb3); have X3 := Lib.hid (bel_call HB.out hb3))
          go_roundw
          case rel => exact ⟨k + 1, by omega, by go_num, HV.out, C3.out, F3.out, X3.out⟩
          case measure => simp [intOf]; omega
        · obtain ⟨u, hu⟩ : ∃ u, inS ts x = u := ⟨_, rfl⟩
          have HU := Lib.hid hu
          have HC2 : Hid (cuB an b ts s x = !u) := Lib.hid (by rw [HCU.out, hu, decide_eq_false hy]; simp)
          clear hu
          rcases u with _ | _
          · have HV := Lib.hid (HAT.out HC2.out)
            go_wp2_with (first
              | (go_at_call 79; refine (whOf_any _ _ _ _ HP.out.2.2.1 (by omega) (by omega)).mono ?_; rw [HTX.out]; rintro e w3 ⟨rfl, hb3⟩; have X3 := Lib.hid (bel_call HB.out hb3))
              | (go_at_call 80; refine (l1HasS_any _ _ _ ts _ _ HN.out (HA.out.below X3.out)).mono ?_; rw [HU.out]; rintro e w4 ⟨rfl, rfl⟩))
            go_ret2
            exact ⟨by rw [HV.out.1, HV.out.2]; rfl, X3.out⟩
          · have HV := Lib.hid (HNX.out HC2.out)
            go_wp2_with (first
              | (go_at_call 79; refine (whOf_any _ _ _ _ HP.out.2.2.1 (by omega) (by omega)).mono ?_; rw [HTX.out]; rintro e w3 ⟨rfl, hb3⟩; have C3 := Lib.hid (HC.out.call hb3); have F3 := Lib.hid (HF.out.call hb3); have X3 := Lib.hid (bel_call HB.out hb3))
              | (go_at_call 80; refine (l1HasS_any _ _ _ ts _ _ HN.out (HA.out.below X3.out)).mono ?_; rw [HU.out]; rintro e w4 ⟨rfl, rfl⟩))
            go_roundw
            case rel => exact ⟨k + 1, by omega, by go_num, HV.out, C3.out, F3.out, X3.out⟩
            case measure => simp [intOf]; omega
      · obtain rfl : k = M := by omega
        have HV : Hid (fcB an b ts s = false) := Lib.hid (fcB_none (by rw [HME.out]; exact HALL.out))
        have HW := Lib.hid (fcB_no HV.out)
        go_wp2_with fail
        go_ret2
        exact ⟨by rw [HV.out, HW.out]; rfl, HB.out⟩
  · have HD := Lib.hid (Bool.eq_false_iff.2 hd)
    have HV : Hid (fcB a b ts s = false) := Lib.hid (by unfold fcB; rw [HD.out]; rfl)
    have HW := Lib.hid (fcB_no HV.out)
    clear hd
    go_enter Try.func40, Try.ntmps40
    go_wp2_with (go_at_call 76; refine (deAsked_any _ _ _ _ _ ts _ _ HN.out HS.out (HA.out.below X0.out)).mono ?_; rw [HD.out]; rintro e w1 ⟨rfl, hb1⟩; have X1 := Lib.hid (bel_call X0.out hb1); clear hb1)
    go_ret2
    exact ⟨by rw [HV.out, HW.out]; rfl, X1.out⟩

theorem beN_succ (a b : Int) (ts : List ByteArray) (s : ByteArray) (k : Nat) : beN a b ts s (k + 1) = if lvZ a b ts s (cdN a b (beN a b ts s k)) < lvZ a b ts s (cdN a b k) then k else beN a b ts s k := rfl

theorem beN_lt {a b : Int} {ts : List ByteArray} {s : ByteArray} {k : Nat} : beN a b ts s k ≤ k := by
  rcases Nat.eq_zero_or_pos k with e | e
  · subst e; exact Nat.le_refl _
  · exact Nat.le_of_lt (beN_spec k e).1

theorem beN_in {a b : Int} {ts : List ByteArray} {s : ByteArray} {k M : Nat} (hk : k ≤ M) (hM : 0 < M) : beN a b ts s k < M := by
  rcases Nat.eq_zero_or_pos k with e | e
  · subst e; exact hM
  · have := (beN_spec (a := a) (b := b) (ts := ts) (s := s) k e).1
    omega

set_option maxRecDepth 100000 in
set_option maxHeartbeats 1000000 in
theorem specFarthestAround_any (a b : Int) (A : Option Addr) (n c : Nat) (ts : List ByteArray) (s : ByteArray) (w : World) (hn : n ≤ maxLen) (hs : s.size ≤ maxLen) (hA : ArgS w A n ts) :
    Calls Try.prog 42 #[.agg #[.int .i64 a, .int .i64 b], .slice A n c, .string s] w fun e w' => e = .returned (.tuple #[.string (feT a b ts s), .int .i64 (feZ a b ts s), .bool (dkB a b ts s)]) ∧ Below w.heap.size w w' := by
  have HA := Lib.hid hA
  have HN := Lib.hid hn
  have HS := Lib.hid hs
  have C0 := Lib.hid (box_new (W := w) (a := a) (b := b) (t := 28) rfl)
  have X0 := Lib.hid (show Below w.heap.size w (w.alloc (.cells #[.int .i64 a, .int .i64 b] 28)) from (Below.refl _ _).alloc (Nat.le_refl _) _)
  clear hA hn hs
  by_cases hd : dkB a b ts s = true
  · have HD := Lib.hid hd
    have HP := Lib.hid (dkB_parts hd)
    have HV : Hid (feT a b ts s = cdN a b (beN a b ts s (cnN a b)) ∧ feZ a b ts s = lvZ a b ts s (cdN a b (beN a b ts s (cnN a b)))) := Lib.hid (by unfold feT feZ; rw [hd]; exact ⟨rfl, rfl⟩)
    obtain ⟨an, hae⟩ : ∃ an : Nat, a = an := ⟨a.toNat, by have := good_yes HP.out.2.2.1; omega⟩
    subst hae
    have HCD : Hid (∀ k : Nat, textOf (digL b (k : Int) an) = cdN an b k) := Lib.hid (fun k => by unfold cdN; rw [Int.toNat_natCast])
    have hM := HP.out.2.2.2.1
    have hM0 : 0 < cnN an b := by have := nuN_lt HP.out.2.2.2.2.1; omega
    clear hd
    go_enter Try.func42, Try.ntmps42
    go_wp2_with (go_at_call 76; refine (deAsked_any _ _ _ _ _ ts _ _ HN.out HS.out (HA.out.below X0.out)).mono ?_; rw [HD.out]; rintro e w1 ⟨rfl, hb1⟩; have X1 := Lib.hid (bel_call X0.out hb1); have C1 := Lib.hid (C0.out.call hb1); have k0 : w1.cell? ⟨w.heap.size, 0, none⟩ = some (.int .i64 (an : Int)) := C1.out.cell (show 0 < 2 by omega); have k1 : w1.cell? ⟨w.heap.size, 1, none⟩ = some (.int .i64 b) := C1.out.cell (show 1 < 2 by omega); clear hb1)
    refine (deFar_any _ _ _ _ _ ts _ _ HN.out (HA.out.below X1.out) HP.out.2.2.2.2.2.2 hM).mono ?_
    rintro e w2 ⟨gf, gw, rfl, hgf, hgw, hF, hW, hb2⟩
    have C2 := Lib.hid (C1.out.call hb2)
    have X2 := Lib.hid (bel_call X1.out hb2)
    have HF := Lib.hid hF
    clear hb2 hF hW k0 k1 C0 X0 C1 X1
    generalize hMe : cnN an b = M at HF hM hM0 HV
    have HME := Lib.hid hMe
    clear hMe
    go_wp2_with fail
    go_loop [11, 28] (fun v i => ∃ k : Nat, k ≤ M ∧ i = .int .i64 k ∧ v = .int .i64 ((beN an b ts s k : Nat) : Int)) (fun _ i => M - (intOf i).toNat)
    case atStart => exact ⟨0, by omega, rfl, rfl⟩
    case round =>
      obtain ⟨k, hk, rfl, rfl⟩ := hrel
      have hbe := beN_in (a := (an : Int)) (b := b) (ts := ts) (s := s) hk hM0
      by_cases hlt : k < M
      · have z : w2.cell? ⟨gf, k, none⟩ = some (.int .i64 (lvZ an b ts s (cdN an b k))) := HF.out.cell hlt
        have z2 : w2.cell? ⟨gf, beN an b ts s k, none⟩ = some (.int .i64 (lvZ an b ts s (cdN an b (beN an b ts s k)))) := HF.out.cell hbe
        have hbd := lv_bd (a := (an : Int)) (b := b) (ts := ts) (s := s) (cd_ask (i := k) HP.out.2.2.1)
        have hbd2 := lv_bd (a := (an : Int)) (b := b) (ts := ts) (s := s) (cd_ask (i := beN an b ts s k) HP.out.2.2.1)
        have HNX := Lib.hid (beN_succ an b ts s k)
        rw [HME.out] at hbd hbd2
        generalize lvZ an b ts s (cdN an b k) = y at z hbd HNX
        generalize lvZ an b ts s (cdN an b (beN an b ts s k)) = y2 at z2 hbd2 HNX
        by_cases hy : y2 < y
        · have HV2 : Hid (beN an b ts s (k + 1) = k) := Lib.hid (by rw [HNX.out, if_pos hy])
          generalize beN an b ts s k = q at hbe z2 ⊢
          go_wp2_with fail
          go_round
          case rel => exact ⟨k + 1, by omega, by go_num, by rw [HV2.out]⟩
          case measure => simp [intOf]; omega
        · have HV2 : Hid (beN an b ts s (k + 1) = beN an b ts s k) := Lib.hid (by rw [HNX.out, if_neg hy])
          generalize beN an b ts s k = q at hbe z2 HV2 ⊢
          go_wp2_with fail
          go_round
          case rel => exact ⟨k + 1, by omega, by go_num, by rw [HV2.out]⟩
          case measure => simp [intOf]; omega
      · obtain rfl : k = M := by omega
        have z : w2.cell? ⟨gf, beN an b ts s k, none⟩ = some (.int .i64 (lvZ an b ts s (cdN an b (beN an b ts s k)))) := HF.out.cell hbe
        have HTX := Lib.hid (HCD.out (beN an b ts s k))
        have l0 : w2.cell? ⟨w.heap.size, 0, none⟩ = some (.int .i64 (an : Int)) := C2.out.cell (show 0 < 2 by omega)
        have l1 : w2.cell? ⟨w.heap.size, 1, none⟩ = some (.int .i64 b) := C2.out.cell (show 1 < 2 by omega)
        generalize lvZ an b ts s (cdN an b (beN an b ts s k)) = y at z HV
        generalize cdN an b (beN an b ts s k) = x at HTX HV
        generalize beN an b ts s k = q at hbe z HTX ⊢
        go_wp2_with fail
        go_region_with (go_at_call 79; refine (whOf_any _ _ _ _ HP.out.2.2.1 (by omega) (by omega)).mono ?_; rw [HTX.out]; rintro e w3 ⟨rfl, hb3⟩; replace hb3 := below_undrew hb3; have X3 := Lib.hid (bel_call X2.out hb3); have z3 := (hb3.cell (p := ⟨gf, q, none⟩) HF.out.lt).trans z)
        all_goals
          go_wp2_with fail
          refine bodyPost_ret (v := .tuple #[.string x, .int .i64 y, .bool true]) (by simp [results, Try.results42, go_sem]) rfl ?_
          exact ⟨by rw [HD.out, HV.out.1, HV.out.2], X3.out⟩
  · have HD := Lib.hid (Bool.eq_false_iff.2 hd)
    have HV : Hid (feT a b ts s = ⟨#[]⟩ ∧ feZ a b ts s = 0) := Lib.hid (by unfold feT feZ; rw [HD.out]; exact ⟨rfl, rfl⟩)
    clear hd
    go_enter Try.func42, Try.ntmps42
    go_wp2_with (go_at_call 76; refine (deAsked_any _ _ _ _ _ ts _ _ HN.out HS.out (HA.out.below X0.out)).mono ?_; rw [HD.out]; rintro e w1 ⟨rfl, hb1⟩; have X1 := Lib.hid (bel_call X0.out hb1); clear hb1)
    refine bodyPost_ret (v := .tuple #[.string ⟨#[]⟩, .int .i64 0, .bool false]) (by simp [results, Try.results42, go_sem]) rfl ?_
    exact ⟨by rw [HD.out, HV.out.1, HV.out.2], X1.out⟩

end Go.Proofs.Ytilnjlcljjpnmaa
