/- Turns that meet dead codes, as both programs walk them. For lists that can be. -/
import Derived.Test.YtilnjlcljjpnmaaMz
namespace Go.Proofs.Ytilnjlcljjpnmaa
open Go.ChangeShapes Go.WideShapes Go.ChangeAt Go.RowKit Go.Joins

/-- The code behind the first turns. -/
def bhW (b : Int) (s : ByteArray) (us : List (Int × Int)) (k : Nat) : ByteArray := textOf (foldD b (dg s) (us.take k))

theorem bhW_ask {a b : Int} {s : ByteArray} {us : List (Int × Int)} (hs : askB a b s = true) (ht : turnsB a us = true) {k : Nat} (hk : k ≤ us.length) : askB a b (bhW b s us k) = true :=
  ask_of (asked hs).good (foldD_good (Good.of (asked hs)) (asked hs).b2 ht k hk)

theorem bhW_zero {a b : Int} {s : ByteArray} {us : List (Int × Int)} (hs : askB a b s = true) : bhW b s us 0 = s := ask_text (asked hs)

theorem bhW_succ {a b : Int} {s : ByteArray} {us : List (Int × Int)} (hs : askB a b s = true) (ht : turnsB a us = true) {k : Nat} (hk : k < us.length) :
    textOf (stepD b (dg (bhW b s us k)) (us.getD k (0, 0)).1 (us.getD k (0, 0)).2) = bhW b s us (k + 1) := by
  unfold bhW
  rw [foldD_snoc b (dg s) hk, dg_textOf ((foldD_good (Good.of (asked hs)) (asked hs).b2 ht k (by omega)).digits (asked hs).b10)]

/-- The first of some places at which p fails, or how many there are. -/
def fstN (p : Nat → Bool) (n : Nat) : Nat := ((List.range n).find? fun i => !p i).getD n

theorem fstN_at {p : Nat → Bool} {n k : Nat} (hk : k < n) (h : ∀ i, i < k → p i = true) (hf : p k = false) : fstN p n = k := by
  unfold fstN
  have : (List.range n).find? (fun i => !p i) = some k := by
    rw [List.find?_range_eq_some]
    exact ⟨by rw [hf]; rfl, by rw [List.mem_range]; exact hk, fun j hj => by rw [h j hj]; rfl⟩
  rw [this]; rfl

theorem fstN_all {p : Nat → Bool} {n : Nat} (h : ∀ i, i < n → p i = true) : fstN p n = n := by
  unfold fstN
  have : (List.range n).find? (fun i => !p i) = none := by
    rw [List.find?_eq_none]
    intro i hi
    rw [List.mem_range] at hi
    rw [h i hi]; simp
  rw [this]; rfl

/-- The first turn that leads to what is not alive. -/
def stpW (b : Int) (al : ByteArray → Bool) (s : ByteArray) (us : List (Int × Int)) : Nat := fstN (fun i => al (bhW b s us (i + 1))) us.length

theorem twW_one {a b : Int} {s : ByteArray} {x y : Int} (hs : askB a b s = true) (ht : turnB a x y = true) : twZ a b s [(x, y)] = textOf (stepD b (dg s) x y) := by
  rw [twZ_yes]
  · rfl
  · unfold okT turnsB
    rw [hs]
    simp [ht]

theorem argS_one {W : World} {s : ByteArray} {t : TypeId} {g : Nat} (hg : g = W.heap.size) (hs : s.size ≤ maxLen) : ArgS (W.alloc (.cells #[.string s] t)) (some ⟨g, 0, none⟩) 1 [s] := by
  subst hg
  refine ⟨rfl, .inr ⟨W.heap.size, 0, rfl, by simp, fun k hk => ?_⟩, fun k hk => ?_⟩
  · obtain rfl : k = 0 := by omega
    rw [World.cell?_alloc_new]; rfl
  · obtain rfl : k = 0 := by omega
    exact hs

theorem argS_two {W : World} {s u : ByteArray} {t : TypeId} {g : Nat} (hg : g = W.heap.size) (hs : s.size ≤ maxLen) (hu : u.size ≤ maxLen) : ArgS (W.alloc (.cells #[.string s, .string u] t)) (some ⟨g, 0, none⟩) 2 [s, u] := by
  subst hg
  refine ⟨rfl, .inr ⟨W.heap.size, 0, rfl, by simp, fun k hk => ?_⟩, fun k hk => ?_⟩
  · have : k = 0 ∨ k = 1 := by omega
    rcases this with rfl | rfl <;> (rw [World.cell?_alloc_new]; rfl)
  · have : k = 0 ∨ k = 1 := by omega
    rcases this with rfl | rfl
    · exact hs
    · exact hu

theorem mzB_one {a b : Int} {ts : List ByteArray} {s : ByteArray} : mzB a b ts [s] = dkB a b ts s := by unfold mzB dkB; simp

theorem mzB_two {a b : Int} {ts : List ByteArray} {s t : ByteArray} : mzB a b ts [s, t] = dtB a b ts s t := by
  unfold mzB dtB dkB
  simp only [List.all_cons, List.all_nil, Bool.and_true]
  cases areZ a b ts <;> cases alB a b ts s <;> cases alB a b ts t <;> rfl

theorem str_cell {x y : ByteArray} (h : x = y) : some (Value.string x) = some (.string y) := by rw [h]

set_option maxRecDepth 100000 in
set_option maxHeartbeats 2000000 in
theorem walk_any (a b : Int) (B : Nat) (al : ByteArray → Bool) (s : ByteArray) (U : Option Addr) (m d : Nat) (us : List (Int × Int)) (w : World) (hL : LiveM w B al) (hs : askB a b s = true) (hm : m ≤ 1048576) (hU : ArgT w U m us) (ht : turnsB a us = true) :
    Calls Try.prog 88 #[mzV a b (.map (some B)), .string s, .slice U m d] w fun e w' => e = .returned (.tuple #[.string (bhW b s us (stpW b al s us)), .int .i64 ((stpW b al s us : Nat) : Int)]) ∧ Below w.heap.size w w' := by
  have HL := Lib.hid hL
  have HS := Lib.hid hs
  have HU := Lib.hid hU
  have HT := Lib.hid ht
  have HUL := Lib.hid hU.len
  have C0 := Lib.hid (show Cells (w.alloc (.cells #[.int .i64 a, .int .i64 b, .map (some B)] 72)) w.heap.size 3 (m3F a b (.map (some B))) from m3_new rfl)
  have X0 := Lib.hid (show Below w.heap.size w (w.alloc (.cells #[.int .i64 a, .int .i64 b, .map (some B)] 72)) from (Below.refl _ _).alloc (Nat.le_refl _) _)
  have HZ0 := Lib.hid (bhW_zero (us := us) hs)
  clear hL hs hU ht
  unfold mzV
  go_enter Try.func88, Try.ntmps88
  go_wp2_with fail
  go_loopw [8, 16] (fun v i wr => ∃ k : Nat, k ≤ m ∧ i = .int .i64 k ∧ v = .string (bhW b s us k) ∧ (∀ i, i < k → al (bhW b s us (i + 1)) = true) ∧ Cells wr w.heap.size 3 (m3F a b (.map (some B))) ∧ Below w.heap.size w wr) (fun _ i _ => m - (intOf i).toNat)
  case atStart => exact ⟨0, by omega, rfl, by rw [HZ0.out], fun i hi => by omega, C0.out, X0.out⟩
  case round =>
    clear C0 X0 HZ0
    obtain ⟨k, hk, rfl, rfl, hall, hC, hB⟩ := hrel
    have HALL := Lib.hid hall
    have HC := Lib.hid hC
    have HB := Lib.hid hB
    have HX := Lib.hid (bhW_ask HS.out HT.out (k := k) (by rw [HUL.out]; exact hk))
    clear hall hC hB
    by_cases hlt : k < m
    · obtain ⟨D, off, rfl, hbD, hcD⟩ := HU.out.at_.resolve_left (by omega)
      have o1 : wr.cell? ⟨D, off + k * 2, none⟩ = some (.int .i64 (us.getD k (0, 0)).1) := (HB.out.cell (p := ⟨D, off + k * 2, none⟩) hbD).trans (hcD k hlt).1
      have o2 : wr.cell? ⟨D, off + k * 2 + 1, none⟩ = some (.int .i64 (us.getD k (0, 0)).2) := (HB.out.cell (p := ⟨D, off + k * 2 + 1, none⟩) hbD).trans (hcD k hlt).2
      have HST := Lib.hid (bhW_succ HS.out HT.out (k := k) (by rw [HUL.out]; exact hlt))
      have HY := Lib.hid (bhW_ask HS.out HT.out (k := k + 1) (by rw [HUL.out]; exact hlt))
      have HTB := Lib.hid (turns_all HT.out (k := k) (by rw [HUL.out]; exact hlt))
      have HSTP : Hid (al (bhW b s us (k + 1)) = false → stpW b al s us = k) := Lib.hid (fun h => fstN_at (by rw [HUL.out]; exact hlt) HALL.out h)
      clear hcD
      generalize (us.getD k (0, 0)).1 = x at o1 HST HTB
      generalize (us.getD k (0, 0)).2 = y at o2 HST HTB
      have HTW := Lib.hid ((twW_one HX.out HTB.out).trans HST.out)
      obtain ⟨p, hp⟩ : ∃ p, bhW b s us k = p := ⟨_, rfl⟩
      obtain ⟨q, hq⟩ : ∃ q, bhW b s us (k + 1) = q := ⟨_, rfl⟩
      have HP := Lib.hid hp
      have HQ := Lib.hid hq
      rw [hp] at HX HTW HST ⊢
      rw [hq] at HY HTW HST HSTP
      obtain ⟨u, hu⟩ : ∃ u, al q = u := ⟨_, rfl⟩
      have HUU := Lib.hid hu
      have CN := Lib.hid (HC.out.alloc (.cells #[.int .i64 x, .int .i64 y] 68))
      have XN := Lib.hid (HB.out.alloc HB.out.size (.cells #[.int .i64 x, .int .i64 y] 68))
      have l0 : (wr.alloc (.cells #[.int .i64 x, .int .i64 y] 68)).cell? ⟨w.heap.size, 0, none⟩ = some (.int .i64 a) := CN.out.cell (show 0 < 3 by omega)
      have l1 : (wr.alloc (.cells #[.int .i64 x, .int .i64 y] 68)).cell? ⟨w.heap.size, 1, none⟩ = some (.int .i64 b) := CN.out.cell (show 1 < 3 by omega)
      clear hp hq hu
      rcases u with _ | _
      · have HV := Lib.hid (HSTP.out HUU.out)
        go_wp2_with (go_at_call 113; refine (turnWheel_any _ _ _ _ _ _ (askB_size HX.out)).mono ?_; rw [HTW.out]; rintro e w3 ⟨rfl, hb3⟩
                     have X3 := Lib.hid (bel_call XN.out hb3)
                     have C3 := Lib.hid (CN.out.call hb3)
                     have m2 : w3.cell? ⟨w.heap.size, 2, none⟩ = some (.map (some B)) := C3.out.cell (show 2 < 3 by omega)
                     have HLK := (HL.out.call X3.out).look (askB_size HY.out) HUU.out
                     clear hb3)
        go_ret2
        exact ⟨by rw [HV.out, HP.out]; rfl, X3.out⟩
      · go_wp2_with (go_at_call 113; refine (turnWheel_any _ _ _ _ _ _ (askB_size HX.out)).mono ?_; rw [HTW.out]; rintro e w3 ⟨rfl, hb3⟩
                     have X3 := Lib.hid (bel_call XN.out hb3)
                     have C3 := Lib.hid (CN.out.call hb3)
                     have m2 : w3.cell? ⟨w.heap.size, 2, none⟩ = some (.map (some B)) := C3.out.cell (show 2 < 3 by omega)
                     have HLK := (HL.out.call X3.out).look (askB_size HY.out) HUU.out
                     clear hb3)
        go_roundw
        case rel => exact ⟨k + 1, by omega, by go_num, by rw [HQ.out], fun i hi => by
            by_cases e : i = k
            · subst e; rw [HQ.out]; exact HUU.out
            · exact HALL.out i (by omega), C3.out, X3.out⟩
        case measure => simp [intOf]; omega
    · obtain rfl : k = m := by omega
      have HV : Hid (stpW b al s us = k) := Lib.hid (by unfold stpW; rw [HUL.out]; exact fstN_all HALL.out)
      go_wp2_with fail
      go_ret2
      exact ⟨by rw [HV.out]; rfl, HB.out⟩

set_option maxRecDepth 100000 in
set_option maxHeartbeats 2000000 in
theorem deWalk_any (a b : Int) (A : Option Addr) (n c : Nat) (ts : List ByteArray) (s : ByteArray) (U : Option Addr) (m d : Nat) (us : List (Int × Int)) (w : World) (hn : n ≤ maxLen) (hA : ArgS w A n ts) (hs : askB a b s = true) (hm : m ≤ 1048576) (hU : ArgT w U m us) (ht : turnsB a us = true) :
    Calls Try.prog 93 #[.agg #[.int .i64 a, .int .i64 b], .slice A n c, .string s, .slice U m d] w fun e w' =>
      (stpW b (alB a b ts) s us < m ∧ (∃ t, e = .returned (.tuple #[.string t, .int .i64 ((stpW b (alB a b ts) s us : Nat) : Int)])) ∨ stpW b (alB a b ts) s us = m ∧ e = .returned (.tuple #[.string (bhW b s us m), .int .i64 (-1)])) ∧ Below w.heap.size w w' := by
  have HA := Lib.hid hA
  have HN := Lib.hid hn
  have HS := Lib.hid hs
  have HU := Lib.hid hU
  have HT := Lib.hid ht
  have HUL := Lib.hid hU.len
  have C0 := Lib.hid (box_new (W := w) (a := a) (b := b) (t := 28) rfl)
  have X0 := Lib.hid (show Below w.heap.size w (w.alloc (.cells #[.int .i64 a, .int .i64 b] 28)) from (Below.refl _ _).alloc (Nat.le_refl _) _)
  have HZ0 := Lib.hid (bhW_zero (us := us) hs)
  clear hA hn hs hU ht
  go_enter Try.func93, Try.ntmps93
  go_wp2_with fail
  go_loopw [2, 14] (fun v i wr => ∃ k : Nat, k ≤ m ∧ i = .int .i64 k ∧ v = .string (bhW b s us k) ∧ (∀ i, i < k → alB a b ts (bhW b s us (i + 1)) = true) ∧ Cells wr w.heap.size 2 (b2F a b) ∧ Below w.heap.size w wr) (fun _ i _ => m - (intOf i).toNat)
  case atStart => exact ⟨0, by omega, rfl, by rw [HZ0.out], fun i hi => by omega, C0.out, X0.out⟩
  case round =>
    clear C0 X0 HZ0
    obtain ⟨k, hk, rfl, rfl, hall, hC, hB⟩ := hrel
    have HALL := Lib.hid hall
    have HC := Lib.hid hC
    have HB := Lib.hid hB
    have HX := Lib.hid (bhW_ask HS.out HT.out (k := k) (by rw [HUL.out]; exact hk))
    clear hall hC hB
    by_cases hlt : k < m
    · obtain ⟨D, off, rfl, hbD, hcD⟩ := HU.out.at_.resolve_left (by omega)
      have o1 : wr.cell? ⟨D, off + k * 2, none⟩ = some (.int .i64 (us.getD k (0, 0)).1) := (HB.out.cell (p := ⟨D, off + k * 2, none⟩) hbD).trans (hcD k hlt).1
      have o2 : wr.cell? ⟨D, off + k * 2 + 1, none⟩ = some (.int .i64 (us.getD k (0, 0)).2) := (HB.out.cell (p := ⟨D, off + k * 2 + 1, none⟩) hbD).trans (hcD k hlt).2
      have HST := Lib.hid (bhW_succ HS.out HT.out (k := k) (by rw [HUL.out]; exact hlt))
      have HY := Lib.hid (bhW_ask HS.out HT.out (k := k + 1) (by rw [HUL.out]; exact hlt))
      have HTB := Lib.hid (turns_all HT.out (k := k) (by rw [HUL.out]; exact hlt))
      have HSTP : Hid (alB a b ts (bhW b s us (k + 1)) = false → stpW b (alB a b ts) s us = k) := Lib.hid (fun h => fstN_at (by rw [HUL.out]; exact hlt) HALL.out h)
      clear hcD
      generalize (us.getD k (0, 0)).1 = x at o1 HST HTB
      generalize (us.getD k (0, 0)).2 = y at o2 HST HTB
      obtain ⟨p, hp⟩ : ∃ p, bhW b s us k = p := ⟨_, rfl⟩
      obtain ⟨q, hq⟩ : ∃ q, bhW b s us (k + 1) = q := ⟨_, rfl⟩
      have HP := Lib.hid hp
      have HQ := Lib.hid hq
      rw [hp] at HX HST ⊢
      rw [hq] at HY HST HSTP
      obtain ⟨u, hu⟩ : ∃ u, inS ts q = u := ⟨_, rfl⟩
      have HUU := Lib.hid hu
      have HAL : Hid (alB a b ts q = !u) := Lib.hid (by rw [alB_of HY.out, hu])
      have CN := Lib.hid (HC.out.alloc (.cells #[.int .i64 x, .int .i64 y] 68))
      have XN := Lib.hid (HB.out.alloc HB.out.size (.cells #[.int .i64 x, .int .i64 y] 68))
      have l0 : (wr.alloc (.cells #[.int .i64 x, .int .i64 y] 68)).cell? ⟨w.heap.size, 0, none⟩ = some (.int .i64 a) := CN.out.cell (show 0 < 2 by omega)
      have l1 : (wr.alloc (.cells #[.int .i64 x, .int .i64 y] 68)).cell? ⟨w.heap.size, 1, none⟩ = some (.int .i64 b) := CN.out.cell (show 1 < 2 by omega)
      clear hp hq hu
      rcases u with _ | _
      · go_wp2_with (first
          | (go_at_call 67; refine (whMake_any _ _ _ _ _ _ HX.out HTB.out).mono ?_; rw [HST.out]; rintro e w3 ⟨rfl, hb3⟩
             have X3 := Lib.hid (bel_call XN.out hb3)
             have C3 := Lib.hid (CN.out.call hb3)
             clear hb3)
          | (go_at_call 80; refine (l1HasS_any _ _ _ ts _ _ HN.out (HA.out.below X3.out)).mono ?_; rw [HUU.out]; rintro e w4 ⟨rfl, rfl⟩))
        go_roundw
        case rel => exact ⟨k + 1, by omega, by go_num, by rw [HQ.out], fun i hi => by
            by_cases e : i = k
            · subst e; rw [HQ.out]; exact HAL.out
            · exact HALL.out i (by omega), C3.out, X3.out⟩
        case measure => simp [intOf]; omega
      · have HV := Lib.hid (HSTP.out HAL.out)
        go_wp2_with (first
          | (go_at_call 67; refine (whMake_any _ _ _ _ _ _ HX.out HTB.out).mono ?_; rw [HST.out]; rintro e w3 ⟨rfl, hb3⟩
             have X3 := Lib.hid (bel_call XN.out hb3)
             have C3 := Lib.hid (CN.out.call hb3)
             clear hb3)
          | (go_at_call 80; refine (l1HasS_any _ _ _ ts _ _ HN.out (HA.out.below X3.out)).mono ?_; rw [HUU.out]; rintro e w4 ⟨rfl, rfl⟩))
        go_ret2
        exact ⟨.inl ⟨by rw [HV.out]; exact hlt, q, by rw [HV.out]; rfl⟩, X3.out⟩
    · obtain rfl : k = m := by omega
      have HV : Hid (stpW b (alB a b ts) s us = k) := Lib.hid (by unfold stpW; rw [HUL.out]; exact fstN_all HALL.out)
      go_wp2_with fail
      go_ret2
      exact ⟨.inr ⟨HV.out, rfl⟩, HB.out⟩

/-- A lock, dead codes, a live code and turns of the lock. -/
def wkB (a b : Int) (ts : List ByteArray) (s : ByteArray) (us : List (Int × Int)) : Bool := dkB a b ts s && turnsB a us

def mtB (a b : Int) (ts : List ByteArray) (s : ByteArray) (us : List (Int × Int)) : Bool := wkB a b ts s us && decide (stpW b (alB a b ts) s us < us.length)

def mtZ (a b : Int) (ts : List ByteArray) (s : ByteArray) (us : List (Int × Int)) : Int := if mtB a b ts s us then ((stpW b (alB a b ts) s us : Nat) : Int) else 0

def waB (a b : Int) (ts : List ByteArray) (s : ByteArray) (us : List (Int × Int)) : Bool := wkB a b ts s us && !decide (stpW b (alB a b ts) s us < us.length)

def waZ (a b : Int) (ts : List ByteArray) (s : ByteArray) (us : List (Int × Int)) : ByteArray := if waB a b ts s us then bhW b s us us.length else ⟨#[]⟩

theorem fstN_le {p : Nat → Bool} {n : Nat} : fstN p n ≤ n := by
  unfold fstN
  rcases h : (List.range n).find? (fun i => !p i) with _ | k
  · exact Nat.le_refl _
  · have := List.mem_range.1 (List.mem_of_find?_eq_some h)
    exact Nat.le_of_lt this

end Go.Proofs.Ytilnjlcljjpnmaa
