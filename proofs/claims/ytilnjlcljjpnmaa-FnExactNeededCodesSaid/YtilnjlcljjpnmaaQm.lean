/- What the model tells of ways around dead codes: fewest turns, ways, codes that are reached. For lists that can be. -/
import Derived.Test.YtilnjlcljjpnmaaCn
import Derived.Test.YtilnjlcljjpnmaaFewest
namespace Go.Proofs.Ytilnjlcljjpnmaa
open Go.ChangeShapes Go.WideShapes Go.ChangeAt Go.RowKit Go.Joins

theorem farF_at {a b : Int} {fr : ByteArray → Int} {x : ByteArray} (hx : askB a b x = true) : farF a b fr (nuN a b x) = .int .i64 (fr x) := by unfold farF; rw [cd_nu hx]

theorem wayF_at {a b : Int} {ws : ByteArray → Nat} {x : ByteArray} (hx : askB a b x = true) : wayF a b ws (nuN a b x) = .int .i64 ((ws x : Nat) : Int) := by unfold wayF; rw [cd_nu hx]

theorem lv_bd {a b : Int} {ts : List ByteArray} {s x : ByteArray} (hx : askB a b x = true) : -1 ≤ lvZ a b ts s x ∧ lvZ a b ts s x < (cnN a b : Nat) := by
  rcases lvZ_cases (ts := ts) (s := s) hx with ⟨k, hk, e⟩ | ⟨_, e⟩
  · have := wyZ_lt hx hk
    omega
  · omega

set_option maxRecDepth 100000 in
set_option maxHeartbeats 2000000 in
theorem deFew_any (a b : Int) (A : Option Addr) (n c : Nat) (ts : List ByteArray) (s t : ByteArray) (w : World) (hn : n ≤ maxLen) (hA : ArgS w A n ts) (hs : alB a b ts s = true) (ht : askB a b t = true) (hM : cnN a b ≤ 1000) :
    Calls Try.prog 64 #[.agg #[.int .i64 a, .int .i64 b], .slice A n c, .string s, .string t] w fun e w' => e = .returned (.int .i64 (lvZ a b ts s t)) ∧ Below w.heap.size w w' := by
  have HA := Lib.hid hA
  have HN := Lib.hid hn
  have HS := Lib.hid hs
  have HT := Lib.hid ht
  have HM := Lib.hid hM
  have C0 := Lib.hid (box_new (W := w) (a := a) (b := b) (t := 28) rfl)
  have X0 := Lib.hid (show Below w.heap.size w (w.alloc (.cells #[.int .i64 a, .int .i64 b] 28)) from (Below.refl _ _).alloc (Nat.le_refl _) _)
  clear hA hn hs ht
  go_enter Try.func64, Try.ntmps64
  go_wp2_with fail
  refine (deFar_any _ _ _ _ _ ts _ _ HN.out (HA.out.below X0.out) HS.out HM.out).mono ?_
  rintro e w1 ⟨gf, gw, rfl, hgf, hgw, hF, hW, hb1⟩
  have C1 := Lib.hid (C0.out.call hb1)
  have X1 := Lib.hid (bel_call X0.out hb1)
  have HF := Lib.hid hF
  have HV := Lib.hid (farF_at (fr := lvZ a b ts s) HT.out)
  have HNC := Lib.hid (nuN_cast HT.out)
  have hlt := nuN_lt HT.out
  have l0 : w1.cell? ⟨w.heap.size, 0, none⟩ = some (.int .i64 a) := C1.out.cell (show 0 < 2 by omega)
  have l1 : w1.cell? ⟨w.heap.size, 1, none⟩ = some (.int .i64 b) := C1.out.cell (show 1 < 2 by omega)
  clear hb1 hF hW
  generalize nuN a b t = q at HV HNC hlt
  generalize cnN a b = M at hlt HF hM
  go_wp2_with (go_at_call 66; refine (whNumber_any _ _ _ _ HT.out).mono ?_; rw [← HNC.out]; rintro e w2 ⟨rfl, hb2⟩
               have z := (HF.out.call hb2).cell hlt
               rw [HV.out] at z)
  go_ret
  exact ⟨rfl, bel_call X1.out hb2⟩

theorem cnt_upto {a b : Int} {p : ByteArray → Bool} (k : Nat) : ((List.range (k + 1)).filter fun i => p (cdN a b i)).length = ((List.range k).filter fun i => p (cdN a b i)).length + if p (cdN a b k) then 1 else 0 := by
  rw [List.range_succ, List.filter_append, List.length_append]
  congr 1
  by_cases h : p (cdN a b k) = true
  · simp [h]
  · rw [Bool.eq_false_iff.2 h]; simp [h]

theorem cnt_le {a b : Int} {p : ByteArray → Bool} (k : Nat) : ((List.range k).filter fun i => p (cdN a b i)).length ≤ k := by
  have := List.length_filter_le (fun i => p (cdN a b i)) (List.range k)
  rwa [List.length_range] at this

set_option maxRecDepth 100000 in
set_option maxHeartbeats 2000000 in
theorem deReached_any (a b : Int) (A : Option Addr) (n c : Nat) (ts : List ByteArray) (s : ByteArray) (w : World) (hn : n ≤ maxLen) (hA : ArgS w A n ts) (hs : alB a b ts s = true) (hM : cnN a b ≤ 1000) :
    Calls Try.prog 77 #[.agg #[.int .i64 a, .int .i64 b], .slice A n c, .string s] w fun e w' => e = .returned (.int .i64 ((crN a b ts s : Nat) : Int)) ∧ Below w.heap.size w w' := by
  have HA := Lib.hid hA
  have HN := Lib.hid hn
  have HS := Lib.hid hs
  have HM := Lib.hid hM
  have HG := Lib.hid (asked (alB_ask hs)).good
  have X0 := Lib.hid (show Below w.heap.size w (w.alloc (.cells #[.int .i64 a, .int .i64 b] 28)) from (Below.refl _ _).alloc (Nat.le_refl _) _)
  clear hA hn hs
  go_enter Try.func77, Try.ntmps77
  go_wp2_with fail
  refine (deFar_any _ _ _ _ _ ts _ _ HN.out (HA.out.below X0.out) HS.out HM.out).mono ?_
  rintro e w1 ⟨gf, gw, rfl, hgf, hgw, hF, hW, hb1⟩
  have X1 := Lib.hid (bel_call X0.out hb1)
  have HF := Lib.hid hF
  have HCR : Hid (crN a b ts s = ((List.range (cnN a b)).filter fun i => rcB a b ts s (cdN a b i)).length) := Lib.hid rfl
  clear hb1 hF hW
  generalize hMe : cnN a b = M at HF hM HCR
  have HME := Lib.hid hMe
  clear hMe
  go_wp2_with fail
  go_loop [9, 21] (fun v i => ∃ k : Nat, k ≤ M ∧ i = .int .i64 k ∧ v = .int .i64 ((((List.range k).filter fun i => rcB a b ts s (cdN a b i)).length : Nat) : Int)) (fun _ i => M - (intOf i).toNat)
  case atStart => exact ⟨0, by omega, rfl, rfl⟩
  case round =>
    obtain ⟨k, hk, rfl, rfl⟩ := hrel
    by_cases hlt : k < M
    · have z : w1.cell? ⟨gf, k, none⟩ = some (.int .i64 (lvZ a b ts s (cdN a b k))) := HF.out.cell hlt
      have hle := cnt_le (a := a) (b := b) (p := rcB a b ts s) k
      have HUP := Lib.hid (cnt_upto (a := a) (b := b) (p := rcB a b ts s) k)
      have hbd := lv_bd (a := a) (b := b) (ts := ts) (s := s) (cd_ask (i := k) HG.out)
      rw [HME.out] at hbd
      have HRC : Hid (rcB a b ts s (cdN a b k) = decide (0 ≤ lvZ a b ts s (cdN a b k))) := Lib.hid rfl
      generalize ((List.range k).filter fun i => rcB a b ts s (cdN a b i)).length = q at hle HUP ⊢
      generalize lvZ a b ts s (cdN a b k) = y at z hbd HRC
      by_cases hy : 0 ≤ y
      · go_wp2_with fail
        go_round
        case rel => exact ⟨k + 1, by omega, by go_num, by rw [HUP.out, HRC.out, decide_eq_true hy, if_pos rfl]; first | rfl | (congr 1; omega)⟩
        case measure => simp [intOf]; omega
      · go_wp2_with fail
        go_round
        case rel => exact ⟨k + 1, by omega, by go_num, by rw [HUP.out, HRC.out, decide_eq_false hy, if_neg (by simp)]; rfl⟩
        case measure => simp [intOf]; omega
    · obtain rfl : k = M := by omega
      go_wp2_with fail
      go_ret
      exact ⟨ret_int (by rw [HCR.out]), X1.out⟩

def crA (a b : Int) (ts : List ByteArray) (s : ByteArray) : Int := if dkB a b ts s then ((crN a b ts s : Nat) : Int) else 0

def ccA (a b : Int) (ts : List ByteArray) (s : ByteArray) : Int := if dkB a b ts s then ((cnN a b : Nat) : Int) - ((ts.length : Nat) : Int) - ((crN a b ts s : Nat) : Int) else 0

def faB (a b : Int) (ts : List ByteArray) (s t : ByteArray) : Bool := dtB a b ts s t && rcB a b ts s t

def faZ (a b : Int) (ts : List ByteArray) (s t : ByteArray) : Int := if faB a b ts s t then lvZ a b ts s t else 0

def caB (a b : Int) (ts : List ByteArray) (s t : ByteArray) : Bool := dtB a b ts s t && decide (wsN a b ts s t ≤ 1000000000000000)

def caZ (a b : Int) (ts : List ByteArray) (s t : ByteArray) : Int := if caB a b ts s t then ((wsN a b ts s t : Nat) : Int) else 0

def doZ (a b : Int) (ts : List ByteArray) (s t : ByteArray) : Int := if faB a b ts s t then lvZ a b ts s t - fewZ a b s t else 0

theorem dtB_parts {a b : Int} {ts : List ByteArray} {s t : ByteArray} (h : dtB a b ts s t = true) : dkB a b ts s = true ∧ dkB a b ts t = true := by
  unfold dtB at h
  rwa [Bool.and_eq_true] at h

theorem faB_no {a b : Int} {ts : List ByteArray} {s t : ByteArray} (h : faB a b ts s t = false) : faZ a b ts s t = 0 ∧ doZ a b ts s t = 0 := by unfold faZ doZ; rw [h]; exact ⟨rfl, rfl⟩

theorem faB_yes {a b : Int} {ts : List ByteArray} {s t : ByteArray} (h : faB a b ts s t = true) : faZ a b ts s t = lvZ a b ts s t ∧ doZ a b ts s t = lvZ a b ts s t - fewZ a b s t := by unfold faZ doZ; rw [h]; exact ⟨rfl, rfl⟩

theorem few_bd (a b : Int) (s t : ByteArray) : 0 ≤ fewZ a b s t ∧ fewZ a b s t ≤ 60 := by
  by_cases h : twoB a b s t = true
  · rw [fewZ_yes h]
    obtain ⟨h1, h2⟩ := two_yes h
    have := sumAt_bd (distL_bd (asked h1) (asked h2)) s.size (Nat.le_refl _)
    have := (asked h1).n6
    omega
  · rw [fewZ_no (Bool.eq_false_iff.2 h)]; omega

theorem crN_le (a b : Int) (ts : List ByteArray) (s : ByteArray) : crN a b ts s ≤ cnN a b := cntC_le

theorem wsN_le (a b : Int) (ts : List ByteArray) (s t : ByteArray) : wsN a b ts s t ≤ capN := by
  unfold wsN
  split
  · omega
  · exact sat_le _ _

set_option maxRecDepth 100000 in
set_option maxHeartbeats 2000000 in
theorem specCountReached_any (a b : Int) (A : Option Addr) (n c : Nat) (ts : List ByteArray) (s : ByteArray) (w : World) (hn : n ≤ maxLen) (hs : s.size ≤ maxLen) (hA : ArgS w A n ts) :
    Calls Try.prog 36 #[.agg #[.int .i64 a, .int .i64 b], .slice A n c, .string s] w fun e w' => e = .returned (.tuple #[.int .i64 (crA a b ts s), .bool (dkB a b ts s)]) ∧ Below w.heap.size w w' := by
  have HA := Lib.hid hA
  have HN := Lib.hid hn
  have HS := Lib.hid hs
  have C0 := Lib.hid (box_new (W := w) (a := a) (b := b) (t := 28) rfl)
  have X0 := Lib.hid (show Below w.heap.size w (w.alloc (.cells #[.int .i64 a, .int .i64 b] 28)) from (Below.refl _ _).alloc (Nat.le_refl _) _)
  clear hA hn hs
  by_cases hd : dkB a b ts s = true
  · have HD := Lib.hid hd
    have HP := Lib.hid (dkB_parts hd)
    have HV : Hid (crA a b ts s = ((crN a b ts s : Nat) : Int)) := Lib.hid (by unfold crA; rw [hd, if_pos rfl])
    clear hd
    go_enter Try.func36, Try.ntmps36
    go_wp2_with (go_at_call 76; refine (deAsked_any _ _ _ _ _ ts _ _ HN.out HS.out (HA.out.below X0.out)).mono ?_; rw [HD.out]; rintro e w1 ⟨rfl, hb1⟩; have X1 := Lib.hid (bel_call X0.out hb1); have C1 := Lib.hid (C0.out.call hb1); have k0 : w1.cell? ⟨w.heap.size, 0, none⟩ = some (.int .i64 a) := C1.out.cell (show 0 < 2 by omega); have k1 : w1.cell? ⟨w.heap.size, 1, none⟩ = some (.int .i64 b) := C1.out.cell (show 1 < 2 by omega); clear hb1)
    refine (deReached_any _ _ _ _ _ ts _ _ HN.out (HA.out.below X1.out) HP.out.2.2.2.2.2.2 HP.out.2.2.2.1).mono ?_
    rintro e w2 ⟨rfl, hb2⟩
    go_wp2_with fail
    go_ret2
    exact ⟨by rw [HV.out, HD.out]; rfl, bel_call X1.out hb2⟩
  · have HD := Lib.hid (Bool.eq_false_iff.2 hd)
    have HV : Hid (crA a b ts s = 0) := Lib.hid (by unfold crA; rw [HD.out]; rfl)
    clear hd
    go_enter Try.func36, Try.ntmps36
    go_wp2_with (go_at_call 76; refine (deAsked_any _ _ _ _ _ ts _ _ HN.out HS.out (HA.out.below X0.out)).mono ?_; rw [HD.out]; rintro e w1 ⟨rfl, hb1⟩; have X1 := Lib.hid (bel_call X0.out hb1); have C1 := Lib.hid (C0.out.call hb1); have k0 : w1.cell? ⟨w.heap.size, 0, none⟩ = some (.int .i64 a) := C1.out.cell (show 0 < 2 by omega); have k1 : w1.cell? ⟨w.heap.size, 1, none⟩ = some (.int .i64 b) := C1.out.cell (show 1 < 2 by omega); clear hb1)
    go_ret2
    exact ⟨by rw [HV.out, HD.out]; rfl, X1.out⟩

set_option maxRecDepth 100000 in
set_option maxHeartbeats 2000000 in
theorem specCountCutOff_any (a b : Int) (A : Option Addr) (n c : Nat) (ts : List ByteArray) (s : ByteArray) (w : World) (hn : n ≤ maxLen) (hs : s.size ≤ maxLen) (hA : ArgS w A n ts) :
    Calls Try.prog 38 #[.agg #[.int .i64 a, .int .i64 b], .slice A n c, .string s] w fun e w' => e = .returned (.tuple #[.int .i64 (ccA a b ts s), .bool (dkB a b ts s)]) ∧ Below w.heap.size w w' := by
  have HA := Lib.hid hA
  have HN := Lib.hid hn
  have HS := Lib.hid hs
  have C0 := Lib.hid (box_new (W := w) (a := a) (b := b) (t := 28) rfl)
  have X0 := Lib.hid (show Below w.heap.size w (w.alloc (.cells #[.int .i64 a, .int .i64 b] 28)) from (Below.refl _ _).alloc (Nat.le_refl _) _)
  clear hA hn hs
  have HL := Lib.hid HA.out.len
  by_cases hd : dkB a b ts s = true
  · have HD := Lib.hid hd
    have HP := Lib.hid (dkB_parts hd)
    have HV : Hid (ccA a b ts s = ((cnN a b : Nat) : Int) - (n : Int) - ((crN a b ts s : Nat) : Int)) := Lib.hid (by unfold ccA; rw [hd, if_pos rfl, HL.out])
    have HPW : Hid (pw b a.toNat = ((cnN a b : Nat) : Int)) := Lib.hid (cnN_cast HP.out.2.2.1).symm
    have h1 := crN_le a b ts s
    have h2 := HP.out.2.2.2.1
    have h3 : n ≤ cnN a b := by have := cntC_live HP.out.2.2.1 HP.out.2.1; rw [HL.out] at this; omega
    have HCL : Hid (cnN a b ≤ 1000) := Lib.hid h2
    obtain ⟨an, hae⟩ : ∃ an : Nat, a = an := ⟨a.toNat, by have := good_yes HP.out.2.2.1; omega⟩
    subst hae
    rw [Int.toNat_natCast] at HPW
    clear hd
    go_enter Try.func38, Try.ntmps38
    go_wp2_with (go_at_call 76; refine (deAsked_any _ _ _ _ _ ts _ _ HN.out HS.out (HA.out.below X0.out)).mono ?_; rw [HD.out]; rintro e w1 ⟨rfl, hb1⟩; have X1 := Lib.hid (bel_call X0.out hb1); have C1 := Lib.hid (C0.out.call hb1); have k0 : w1.cell? ⟨w.heap.size, 0, none⟩ = some (.int .i64 (an : Int)) := C1.out.cell (show 0 < 2 by omega); have k1 : w1.cell? ⟨w.heap.size, 1, none⟩ = some (.int .i64 b) := C1.out.cell (show 1 < 2 by omega); clear hb1)
    generalize hM : cnN an b = M at HV HPW h1 h2 h3
    clear hM
    go_region_with (first
      | ((fail_if_success (have := hbA)); (fail_if_success (have := hbB)); go_at_call 78; refine (whCount_any _ _ _ HP.out.2.2.1).mono ?_; rw [HPW.out]; rintro e wA ⟨rfl, hbA⟩; replace hbA := below_undrew hbA; have XA := Lib.hid (bel_call X1.out hbA); have CA := Lib.hid (C1.out.call hbA); have p0 : wA.cell? ⟨w.heap.size, 0, none⟩ = some (.int .i64 (an : Int)) := CA.out.cell (show 0 < 2 by omega); have p1 : wA.cell? ⟨w.heap.size, 1, none⟩ = some (.int .i64 b) := CA.out.cell (show 1 < 2 by omega))
      | ((fail_if_success (have := hbA)); (fail_if_success (have := hbB)); go_at_call 77; refine (deReached_any _ _ _ _ _ ts _ _ HN.out (HA.out.below (bel_drew X1.out)) HP.out.2.2.2.2.2.2 HCL.out).mono ?_; rintro e wB ⟨rfl, hbB⟩; replace hbB := below_undrew hbB; have XB := Lib.hid (bel_call X1.out hbB); have CB := Lib.hid (C1.out.call hbB); have p0 : wB.cell? ⟨w.heap.size, 0, none⟩ = some (.int .i64 (an : Int)) := CB.out.cell (show 0 < 2 by omega); have p1 : wB.cell? ⟨w.heap.size, 1, none⟩ = some (.int .i64 b) := CB.out.cell (show 1 < 2 by omega))
      | ((fail_if_success (have := hbA)); go_at_call 78; refine (whCount_any _ _ _ HP.out.2.2.1).mono ?_; rw [HPW.out]; rintro e wA ⟨rfl, hbA⟩; have XE := Lib.hid (bel_call XB.out hbA))
      | ((fail_if_success (have := hbB)); go_at_call 77; refine (deReached_any _ _ _ _ _ ts _ _ HN.out (HA.out.below XA.out) HP.out.2.2.2.2.2.2 HCL.out).mono ?_; rintro e wB ⟨rfl, hbB⟩; have XE := Lib.hid (bel_call XA.out hbB)))
    all_goals
      generalize crN an b ts s = q at HV h1 ⊢
      have E1 : IntKind.i64.wrap ((M : Int) - (n : Int)) = (M : Int) - n := IntWalk.i64_in _ (by omega)
      have E2 : IntKind.i64.wrap ((M : Int) - (n : Int) - (q : Int)) = (M : Int) - n - q := IntWalk.i64_in _ (by omega)
      go_wp2_with fail
      go_ret2
      exact ⟨by rw [HV.out, HD.out]; (try simp only [E1, E2]); rfl, XE.out⟩
  · have HD := Lib.hid (Bool.eq_false_iff.2 hd)
    have HV : Hid (ccA a b ts s = 0) := Lib.hid (by unfold ccA; rw [HD.out]; rfl)
    clear hd
    go_enter Try.func38, Try.ntmps38
    go_wp2_with (go_at_call 76; refine (deAsked_any _ _ _ _ _ ts _ _ HN.out HS.out (HA.out.below X0.out)).mono ?_; rw [HD.out]; rintro e w1 ⟨rfl, hb1⟩; have X1 := Lib.hid (bel_call X0.out hb1); have C1 := Lib.hid (C0.out.call hb1); have k0 : w1.cell? ⟨w.heap.size, 0, none⟩ = some (.int .i64 a) := C1.out.cell (show 0 < 2 by omega); have k1 : w1.cell? ⟨w.heap.size, 1, none⟩ = some (.int .i64 b) := C1.out.cell (show 1 < 2 by omega); clear hb1)
    go_ret2
    exact ⟨by rw [HV.out, HD.out]; rfl, X1.out⟩

set_option maxRecDepth 100000 in
set_option maxHeartbeats 2000000 in
theorem specFewestAround_any (a b : Int) (A : Option Addr) (n c : Nat) (ts : List ByteArray) (s t : ByteArray) (w : World) (hn : n ≤ maxLen) (hs : s.size ≤ maxLen) (ht : t.size ≤ maxLen) (hA : ArgS w A n ts) :
    Calls Try.prog 24 #[.agg #[.int .i64 a, .int .i64 b], .slice A n c, .string s, .string t] w fun e w' => e = .returned (.tuple #[.int .i64 (faZ a b ts s t), .bool (faB a b ts s t)]) ∧ Below w.heap.size w w' := by
  have HA := Lib.hid hA
  have HN := Lib.hid hn
  have HS := Lib.hid hs
  have HT := Lib.hid ht
  have C0 := Lib.hid (box_new (W := w) (a := a) (b := b) (t := 28) rfl)
  have X0 := Lib.hid (show Below w.heap.size w (w.alloc (.cells #[.int .i64 a, .int .i64 b] 28)) from (Below.refl _ _).alloc (Nat.le_refl _) _)
  clear hA hn hs ht
  by_cases hd : dtB a b ts s t = true
  · have HD := Lib.hid hd
    have HP := Lib.hid (dkB_parts (dtB_parts hd).1)
    have HQ := Lib.hid (dkB_parts (dtB_parts hd).2)
    have HFB : Hid (faB a b ts s t = decide (0 ≤ lvZ a b ts s t)) := Lib.hid (by unfold faB; rw [hd]; rfl)
    have hbd := lv_bd (a := a) (b := b) (ts := ts) (s := s) HQ.out.2.2.2.2.1
    have HNO := Lib.hid (@faB_no a b ts s t)
    have HYES := Lib.hid (@faB_yes a b ts s t)
    have hM := HP.out.2.2.2.1
    clear hd
    go_enter Try.func24, Try.ntmps24
    go_wp2_with (go_at_call 63; refine (deTwo_any _ _ _ _ _ ts _ _ _ HN.out HS.out HT.out (HA.out.below X0.out)).mono ?_; rw [HD.out]; rintro e w1 ⟨rfl, hb1⟩; have X1 := Lib.hid (bel_call X0.out hb1); have C1 := Lib.hid (C0.out.call hb1); have k0 : w1.cell? ⟨w.heap.size, 0, none⟩ = some (.int .i64 a) := C1.out.cell (show 0 < 2 by omega); have k1 : w1.cell? ⟨w.heap.size, 1, none⟩ = some (.int .i64 b) := C1.out.cell (show 1 < 2 by omega); clear hb1)
    refine (deFew_any _ _ _ _ _ ts _ _ _ HN.out (HA.out.below X1.out) HP.out.2.2.2.2.2.2 HQ.out.2.2.2.2.1 hM).mono ?_
    rintro e w2 ⟨rfl, hb2⟩
    have X2 := Lib.hid (bel_call X1.out hb2)
    clear hb2
    by_cases hy : 0 ≤ lvZ a b ts s t
    · have HV := Lib.hid (HFB.out.trans (decide_eq_true hy))
      have HW := Lib.hid (HYES.out HV.out).1
      generalize lvZ a b ts s t = y at hy hbd HW ⊢
      go_wp2_with fail
      go_ret2
      exact ⟨by rw [HV.out, HW.out]; rfl, X2.out⟩
    · have HV := Lib.hid (HFB.out.trans (decide_eq_false hy))
      have HW := Lib.hid (HNO.out HV.out).1
      generalize lvZ a b ts s t = y at hy hbd ⊢
      go_wp2_with fail
      go_ret2
      exact ⟨by rw [HV.out, HW.out]; rfl, X2.out⟩
  · have HD := Lib.hid (Bool.eq_false_iff.2 hd)
    have HV : Hid (faB a b ts s t = false) := Lib.hid (by unfold faB; rw [HD.out]; rfl)
    have HW := Lib.hid (faB_no HV.out).1
    clear hd
    go_enter Try.func24, Try.ntmps24
    go_wp2_with (go_at_call 63; refine (deTwo_any _ _ _ _ _ ts _ _ _ HN.out HS.out HT.out (HA.out.below X0.out)).mono ?_; rw [HD.out]; rintro e w1 ⟨rfl, hb1⟩; have X1 := Lib.hid (bel_call X0.out hb1); have C1 := Lib.hid (C0.out.call hb1); have k0 : w1.cell? ⟨w.heap.size, 0, none⟩ = some (.int .i64 a) := C1.out.cell (show 0 < 2 by omega); have k1 : w1.cell? ⟨w.heap.size, 1, none⟩ = some (.int .i64 b) := C1.out.cell (show 1 < 2 by omega); clear hb1)
    go_ret2
    exact ⟨by rw [HV.out, HW.out]; rfl, X1.out⟩

set_option maxRecDepth 100000 in
set_option maxHeartbeats 2000000 in
theorem specCountAround_any (a b : Int) (A : Option Addr) (n c : Nat) (ts : List ByteArray) (s t : ByteArray) (w : World) (hn : n ≤ maxLen) (hs : s.size ≤ maxLen) (ht : t.size ≤ maxLen) (hA : ArgS w A n ts) :
    Calls Try.prog 32 #[.agg #[.int .i64 a, .int .i64 b], .slice A n c, .string s, .string t] w fun e w' => e = .returned (.tuple #[.int .i64 (caZ a b ts s t), .bool (caB a b ts s t)]) ∧ Below w.heap.size w w' := by
  have HA := Lib.hid hA
  have HN := Lib.hid hn
  have HS := Lib.hid hs
  have HT := Lib.hid ht
  have C0 := Lib.hid (box_new (W := w) (a := a) (b := b) (t := 28) rfl)
  have X0 := Lib.hid (show Below w.heap.size w (w.alloc (.cells #[.int .i64 a, .int .i64 b] 28)) from (Below.refl _ _).alloc (Nat.le_refl _) _)
  clear hA hn hs ht
  by_cases hd : dtB a b ts s t = true
  · have HD := Lib.hid hd
    have HP := Lib.hid (dkB_parts (dtB_parts hd).1)
    have HQ := Lib.hid (dkB_parts (dtB_parts hd).2)
    have HFB : Hid (caB a b ts s t = decide (wsN a b ts s t ≤ 1000000000000000)) := Lib.hid (by unfold caB; rw [hd]; rfl)
    have HFZ : Hid (caZ a b ts s t = if caB a b ts s t then ((wsN a b ts s t : Nat) : Int) else 0) := Lib.hid rfl
    have hws := cap_int (wsN_le a b ts s t)
    have HVW := Lib.hid (wayF_at (ws := wsN a b ts s) HQ.out.2.2.2.2.1)
    have HNC := Lib.hid (nuN_cast HQ.out.2.2.2.2.1)
    have hlt := nuN_lt HQ.out.2.2.2.2.1
    have HTA := Lib.hid HQ.out.2.2.2.2.1
    have hM := HP.out.2.2.2.1
    clear hd
    go_enter Try.func32, Try.ntmps32
    go_wp2_with (go_at_call 63; refine (deTwo_any _ _ _ _ _ ts _ _ _ HN.out HS.out HT.out (HA.out.below X0.out)).mono ?_; rw [HD.out]; rintro e w1 ⟨rfl, hb1⟩; have X1 := Lib.hid (bel_call X0.out hb1); have C1 := Lib.hid (C0.out.call hb1); have k0 : w1.cell? ⟨w.heap.size, 0, none⟩ = some (.int .i64 a) := C1.out.cell (show 0 < 2 by omega); have k1 : w1.cell? ⟨w.heap.size, 1, none⟩ = some (.int .i64 b) := C1.out.cell (show 1 < 2 by omega); clear hb1)
    refine (deFar_any _ _ _ _ _ ts _ _ HN.out (HA.out.below X1.out) HP.out.2.2.2.2.2.2 hM).mono ?_
    rintro e w2 ⟨gf, gw, rfl, hgf, hgw, hF, hW, hb2⟩
    have C2 := Lib.hid (C1.out.call hb2)
    have X2 := Lib.hid (bel_call X1.out hb2)
    have HW := Lib.hid hW
    have j0 : w2.cell? ⟨w.heap.size, 0, none⟩ = some (.int .i64 a) := C2.out.cell (show 0 < 2 by omega)
    have j1 : w2.cell? ⟨w.heap.size, 1, none⟩ = some (.int .i64 b) := C2.out.cell (show 1 < 2 by omega)
    clear hb2 hF hW
    generalize nuN a b t = q at HVW HNC hlt
    generalize cnN a b = M at hlt HW hM
    generalize wsN a b ts s t = y at HVW HFB HFZ hws
    by_cases hy : y ≤ 1000000000000000
    · have HV := Lib.hid (HFB.out.trans (decide_eq_true hy))
      have HFY : Hid (caZ a b ts s t = (y : Int)) := Lib.hid (by rw [HFZ.out, HV.out, if_pos rfl])
      go_wp2_with (go_at_call 66; refine (whNumber_any _ _ _ _ HTA.out).mono ?_; rw [← HNC.out]; rintro e w3 ⟨rfl, hb3⟩; have z := (HW.out.call hb3).cell hlt; rw [HVW.out] at z)
      go_ret2
      exact ⟨by rw [HV.out, HFY.out]; rfl, bel_call X2.out hb3⟩
    · have HV := Lib.hid (HFB.out.trans (decide_eq_false hy))
      have HFY : Hid (caZ a b ts s t = 0) := Lib.hid (by rw [HFZ.out, HV.out]; rfl)
      go_wp2_with (go_at_call 66; refine (whNumber_any _ _ _ _ HTA.out).mono ?_; rw [← HNC.out]; rintro e w3 ⟨rfl, hb3⟩; have z := (HW.out.call hb3).cell hlt; rw [HVW.out] at z)
      go_ret2
      exact ⟨by rw [HV.out, HFY.out]; rfl, bel_call X2.out hb3⟩
  · have HD := Lib.hid (Bool.eq_false_iff.2 hd)
    have HV : Hid (caB a b ts s t = false) := Lib.hid (by unfold caB; rw [HD.out]; rfl)
    have HW : Hid (caZ a b ts s t = 0) := Lib.hid (by unfold caZ; rw [HV.out]; rfl)
    clear hd
    go_enter Try.func32, Try.ntmps32
    go_wp2_with (go_at_call 63; refine (deTwo_any _ _ _ _ _ ts _ _ _ HN.out HS.out HT.out (HA.out.below X0.out)).mono ?_; rw [HD.out]; rintro e w1 ⟨rfl, hb1⟩; have X1 := Lib.hid (bel_call X0.out hb1); have C1 := Lib.hid (C0.out.call hb1); have k0 : w1.cell? ⟨w.heap.size, 0, none⟩ = some (.int .i64 a) := C1.out.cell (show 0 < 2 by omega); have k1 : w1.cell? ⟨w.heap.size, 1, none⟩ = some (.int .i64 b) := C1.out.cell (show 1 < 2 by omega); clear hb1)
    go_ret2
    exact ⟨by rw [HV.out, HW.out]; rfl, X1.out⟩

set_option maxRecDepth 100000 in
set_option maxHeartbeats 2000000 in
theorem specDetour_any (a b : Int) (A : Option Addr) (n c : Nat) (ts : List ByteArray) (s t : ByteArray) (w : World) (hn : n ≤ maxLen) (hs : s.size ≤ maxLen) (ht : t.size ≤ maxLen) (hA : ArgS w A n ts) :
    Calls Try.prog 34 #[.agg #[.int .i64 a, .int .i64 b], .slice A n c, .string s, .string t] w fun e w' => e = .returned (.tuple #[.int .i64 (doZ a b ts s t), .bool (faB a b ts s t)]) ∧ Below w.heap.size w w' := by
  have HA := Lib.hid hA
  have HN := Lib.hid hn
  have HS := Lib.hid hs
  have HT := Lib.hid ht
  have C0 := Lib.hid (box_new (W := w) (a := a) (b := b) (t := 28) rfl)
  have X0 := Lib.hid (show Below w.heap.size w (w.alloc (.cells #[.int .i64 a, .int .i64 b] 28)) from (Below.refl _ _).alloc (Nat.le_refl _) _)
  clear hA hn hs ht
  by_cases hd : faB a b ts s t = true
  · have HD := Lib.hid hd
    have HW := Lib.hid (faB_yes hd).1
    have HV := Lib.hid (faB_yes hd).2
    have hdt : dtB a b ts s t = true := by unfold faB at hd; rw [Bool.and_eq_true] at hd; exact hd.1
    have HTW : Hid (twoB a b s t = true) := Lib.hid (by unfold twoB; rw [(dkB_parts (dtB_parts hdt).1).2.2.2.2.1, (dkB_parts (dtB_parts hdt).2).2.2.2.2.1]; rfl)
    have hbd := lv_bd (a := a) (b := b) (ts := ts) (s := s) (dkB_parts (dtB_parts hdt).2).2.2.2.2.1
    have hM := (dkB_parts (dtB_parts hdt).1).2.2.2.1
    have hfb := few_bd a b s t
    clear hd hdt
    go_enter Try.func34, Try.ntmps34
    generalize lvZ a b ts s t = y at HW HV hbd
    go_wp2_with (first
      | (go_at_call 24; refine (specFewestAround_any _ _ _ _ _ ts _ _ _ HN.out HS.out HT.out (HA.out.below X0.out)).mono ?_; rw [HD.out, HW.out]; rintro e w1 ⟨rfl, hb1⟩; have X1 := Lib.hid (bel_call X0.out hb1); have C1 := Lib.hid (C0.out.call hb1); have k0 : w1.cell? ⟨w.heap.size, 0, none⟩ = some (.int .i64 a) := C1.out.cell (show 0 < 2 by omega); have k1 : w1.cell? ⟨w.heap.size, 1, none⟩ = some (.int .i64 b) := C1.out.cell (show 1 < 2 by omega); clear hb1)
      | (go_at_call 74; refine (whDistance_any _ _ _ _ _ HTW.out).mono ?_; rintro e w2 ⟨rfl, hb2⟩))
    go_ret2
    exact ⟨by rw [HV.out, HD.out]; rfl, bel_call X1.out hb2⟩
  · have HD := Lib.hid (Bool.eq_false_iff.2 hd)
    have HW := Lib.hid (faB_no HD.out).1
    have HV := Lib.hid (faB_no HD.out).2
    clear hd
    go_enter Try.func34, Try.ntmps34
    go_wp2_with (go_at_call 24; refine (specFewestAround_any _ _ _ _ _ ts _ _ _ HN.out HS.out HT.out (HA.out.below X0.out)).mono ?_; rw [HD.out, HW.out]; rintro e w1 ⟨rfl, hb1⟩; have X1 := Lib.hid (bel_call X0.out hb1); have C1 := Lib.hid (C0.out.call hb1); have k0 : w1.cell? ⟨w.heap.size, 0, none⟩ = some (.int .i64 a) := C1.out.cell (show 0 < 2 by omega); have k1 : w1.cell? ⟨w.heap.size, 1, none⟩ = some (.int .i64 b) := C1.out.cell (show 1 < 2 by omega); clear hb1)
    go_ret2
    exact ⟨by rw [HV.out, HD.out]; rfl, X1.out⟩

end Go.Proofs.Ytilnjlcljjpnmaa
