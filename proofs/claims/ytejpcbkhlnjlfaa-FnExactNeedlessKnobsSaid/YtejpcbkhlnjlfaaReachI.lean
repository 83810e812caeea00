/- How many codes are reached, and how many classes there are, as both programs tell it. For texts that are no longer than any may be. -/
import Derived.Test.YtejpcbkhlnjlfaaArr
import Derived.Test.YtejpcbkhlnjlfaaAreI
namespace Go.Proofs.Ytejpcbkhlnjlfaa
open Go.ChangeShapes Go.WideShapes Go.ChangeAt Go.RowKit Go.Joins

theorem gears_knobs {a b : Int} {ks : List (List Int)} (h : gearsB a b ks = true) : KnobsB a b ks := fun k hk => (gearsB_yes h).2.2.2.2 k hk

theorem gears_cnt {a b : Int} {ks : List (List Int)} (h : gearsB a b ks = true) : cntN a b ≤ 1000 ∧ (cntN a b : Int) = pw b a.toNat := by
  have h1 := gearsB_yes h
  have h2 := good_yes h1.1
  have h3 := pw_bd6 h2.2.2.1 h2.2.2.2 (k := a.toNat) (by omega)
  unfold cntN
  have := h1.2.1
  omega

/-- The map of all that is reached. -/
def AllOut (w : World) (a b : Int) (ks : List (List Int)) (s : ByteArray) (e : Ending) (w' : World) : Prop :=
  ∃ B, e = .returned (.map (some B)) ∧ w.heap.size ≤ B ∧ MapS w' B (allL a b ks s) ∧ Below w.heap.size w w'

theorem allArrivals_any (a b : Int) (s : ByteArray) (A : Option Addr) (n c : Nat) (ks : List (List Int)) (w : World) (hn : n ≤ 1000) (hA : KnobsC w A n ks) (hs : askB a b s = true) (hk : KnobsB a b ks) (hM : cntN a b ≤ 1000) :
    Calls Try.prog 87 #[.agg #[.int .i64 a, .int .i64 b, .slice A n c], .string s] w (AllOut w a b ks s) := by
  have HA := Lib.hid hA
  have HS := Lib.hid hs
  have HK := Lib.hid hk
  have HB0 := Lib.hid (show Below w.heap.size w (w.alloc (.cells #[.int .i64 a, .int .i64 b, .slice A n c] 31)) from (Below.refl _ _).alloc (Nat.le_refl _) _)
  clear hA hs hk
  go_enter Try.func87, Try.ntmps87
  go_wp2_with (go_at_call 84; refine (arrivals_any _ _ _ _ _ _ _ ks _ hn (HA.out.below HB0.out) HS.out HK.out hM).mono ?_; rintro e w1 ⟨B, L, rfl, hB, hm, hp, hl, hb1⟩)
  go_ret
  have hL : L = allL a b ks s := by
    rcases hl with h | h
    · exact h
    · exfalso
      have h2 : (⟨#[]⟩ : ByteArray) ∈ keysE (allL a b ks s) := by
        obtain ⟨e, he, hc⟩ := mem_keysE.1 h
        exact mem_keysE.2 ⟨e, hp.subset he, hc⟩
      obtain ⟨e, he, hc⟩ := mem_keysE.1 h2
      have := (asked (allL_ask HK.out HS.out e he)).n1
      rw [hc] at this
      exact absurd this (by decide)
  subst hL
  exact ⟨B, rfl, by rw [World.size_alloc] at hB; omega, hm, bel_call HB0.out hb1⟩

/-- How many numbers are at least 0. -/
def cntF (f : Nat → Int) (n : Nat) : Nat := ((List.range n).filter fun i => decide (0 ≤ f i)).length

theorem cntF_succ (f : Nat → Int) (n : Nat) : cntF f (n + 1) = cntF f n + if 0 ≤ f n then 1 else 0 := by
  unfold cntF
  rw [List.range_succ, List.filter_append, List.length_append]
  congr 1
  by_cases h : 0 ≤ f n
  · rw [if_pos h]; simp [h]
  · rw [if_neg h]; simp [h]

theorem cntF_le (f : Nat → Int) (n : Nat) : cntF f n ≤ n := by
  unfold cntF
  exact Nat.le_trans (List.length_filter_le _ _) (by simp)

theorem joReached_any (g n c : Nat) (f : Nat → Int) (w : World) (hn : n ≤ 1000) (hC : Cells w g n (fun i => .int .i64 (f i))) :
    Calls Try.prog 86 #[.slice (some ⟨g, 0, none⟩) n c] w fun e w' => e = .returned (.int .i64 (cntF f n : Int)) ∧ w' = w := by
  have HC := Lib.hid hC
  clear hC
  go_enter Try.func86, Try.ntmps86
  go_wp2_with fail
  go_loop [3, 8] (fun v i => ∃ k : Nat, k ≤ n ∧ i = .int .i64 k ∧ v = .int .i64 (cntF f k : Int)) (fun _ i => n - (intOf i).toNat)
  case atStart => exact ⟨0, by omega, rfl, rfl⟩
  case round =>
    obtain ⟨k, hk, rfl, rfl⟩ := hrel
    by_cases hlt : k < n
    · have o1 := HC.out.cell hlt
      have HSU := Lib.hid (cntF_succ f k)
      have hle := cntF_le f k
      obtain ⟨x, hx⟩ : ∃ x, f k = x := ⟨_, rfl⟩
      rw [hx] at o1 HSU
      obtain ⟨y, hy⟩ : ∃ y, cntF f k = y := ⟨_, rfl⟩
      rw [hy] at HSU hle ⊢
      clear hx hy
      by_cases h0 : 0 ≤ x
      · go_wp2_with fail
        go_round
        case rel => exact ⟨k + 1, by omega, by go_num, congrArg (Value.int .i64) (by rw [HSU.out, if_pos h0]; omega)⟩
        case measure => simp [intOf]; omega
      · go_wp2_with fail
        go_round
        case rel => exact ⟨k + 1, by omega, by go_num, congrArg (Value.int .i64) (by rw [HSU.out, if_neg h0]; omega)⟩
        case measure => simp [intOf]; omega
    · obtain rfl : k = n := by omega
      go_wp2_with fail
      go_ret
      exact ⟨rfl, rfl⟩

theorem cntF_all {a b : Int} {L : List (Ent ByteArray)} (hn : (keysE L).Nodup) (ha : AskL a b L) : cntF (farV a b L) (cntN a b) = L.length := by
  have h1 : (L.map fun e => nmN a b e.code).Nodup := by
    unfold keysE at hn
    rw [List.Nodup, List.pairwise_map] at hn ⊢
    exact List.Pairwise.imp_of_mem (fun {x y} hx hy hne e => hne (nmN_inj (ha x hx) (ha y hy) e)) hn
  have h2 : ((List.range (cntN a b)).filter fun i => decide (0 ≤ farV a b L i)).Nodup := List.nodup_range.filter _
  have h3 := (List.perm_ext_iff_of_nodup h2 h1).2 fun i => by
    simp only [List.mem_filter, List.mem_range, decide_eq_true_eq, List.mem_map]
    constructor
    · rintro ⟨_, h⟩
      unfold farV at h
      rcases hf : L.find? (fun e => nmN a b e.code == i) with _ | e
      · rw [hf] at h; simp at h
      · have := List.find?_some hf
        exact ⟨e, List.mem_of_find?_eq_some hf, by simpa using this⟩
    · rintro ⟨e, he, rfl⟩
      exact ⟨nmN_lt (ha e he), by rw [farV_mem hn ha he]; omega⟩
  unfold cntF
  rw [h3.length_eq, List.length_map]

theorem cntF_allL {a b : Int} {ks : List (List Int)} {s : ByteArray} (hk : KnobsB a b ks) (hs : askB a b s = true) : cntF (farV a b (allL a b ks s)) (cntN a b) = (allL a b ks s).length :=
  cntF_all (allL_all hk hs).nodup (allL_ask hk hs)

def ckZ (a b : Int) (ks : List (List Int)) (s : ByteArray) : Int := if gcB a b ks s then ((allL a b ks s).length : Int) else 0

set_option maxHeartbeats 1000000 in
theorem specCountKnobbed_any (a b : Int) (s : ByteArray) (A : Option Addr) (n c : Nat) (ks : List (List Int)) (w : World) (hm : n + lensAt ks n ≤ 1048576) (hs : s.size ≤ maxLen) (hA : KnobsC w A n ks) :
    Calls Try.prog 41 #[.agg #[.int .i64 a, .int .i64 b, .slice A n c], .string s] w fun e w' => e = .returned (.tuple #[.int .i64 (ckZ a b ks s), .bool (gcB a b ks s)]) ∧ Below w.heap.size w w' := by
  have HS := Lib.hid hs
  have HA := Lib.hid hA
  have HN := Lib.hid hA.len
  have CU := Lib.hid (Cells.new (W := w) (cs := #[.int .i64 a, .int .i64 b, .slice A n c]) (t := 31) (g := w.heap.size) (n := 3) rfl rfl)
  have HB0 := Lib.hid (show Below w.heap.size w (w.alloc (.cells #[.int .i64 a, .int .i64 b, .slice A n c] 31)) from (Below.refl _ _).alloc (Nat.le_refl _) _)
  clear hA hs
  by_cases hg : gcB a b ks s = true
  · have HG := Lib.hid hg
    have HGY := Lib.hid (gcB_yes hg)
    have HK := Lib.hid (gears_knobs (gcB_yes hg).1)
    obtain ⟨hc1, _⟩ := gears_cnt (gcB_yes hg).1
    have hn5 : n ≤ 1000 := by have := (gearsB_yes (gcB_yes hg).1).2.2.2.1; have := HN.out; omega
    have HZ : Hid (ckZ a b ks s = (cntF (farV a b (allL a b ks s)) (cntN a b) : Int)) := Lib.hid (by unfold ckZ; rw [if_pos hg, cntF_allL HK.out HGY.out.2])
    clear hg
    go_enter Try.func41, Try.ntmps41
    go_wp2_with (first
      | (go_at_call 73; refine (joCode_any _ _ _ _ _ _ ks _ hm HS.out (HA.out.below HB0.out)).mono ?_; rw [HG.out]; rintro e w1 ⟨rfl, hb1⟩
         have D1 := Lib.hid (CU.out.call hb1)
         have B1 := Lib.hid (bel_call HB0.out hb1)
         have l0 : w1.cell? ⟨w.heap.size, 0, none⟩ = some (.int .i64 a) := D1.out.cell (show 0 < 3 by omega)
         have l1 : w1.cell? ⟨w.heap.size, 1, none⟩ = some (.int .i64 b) := D1.out.cell (show 1 < 3 by omega)
         have l2 : w1.cell? ⟨w.heap.size, 2, none⟩ = some (.slice A n c) := D1.out.cell (show 2 < 3 by omega)
         clear hb1)
      | (go_at_call 82; refine (joFar_any _ _ _ _ _ _ ks _ hn5 (HA.out.below B1.out) HGY.out.2 HK.out hc1).mono ?_; rintro e w2 ⟨g2, rfl, hg2, hC2, hb2⟩
         have HC2 := Lib.hid hC2
         clear hC2)
      | (go_at_call 86; refine (joReached_any _ _ _ _ _ hc1 HC2.out).mono ?_; rw [← HZ.out]; rintro e w3 ⟨rfl, rfl⟩))
    go_ret2
    exact ⟨by rw [HG.out]; rfl, bel_call B1.out hb2⟩
  · have HG := Lib.hid (Bool.eq_false_iff.2 hg)
    clear hg
    go_enter Try.func41, Try.ntmps41
    go_wp2_with (go_at_call 73; refine (joCode_any _ _ _ _ _ _ ks _ hm HS.out (HA.out.below HB0.out)).mono ?_; rw [HG.out]; rintro e w1 ⟨rfl, hb1⟩)
    go_ret2
    exact ⟨by unfold ckZ; rw [HG.out]; rfl, bel_call HB0.out hb1⟩

set_option maxHeartbeats 1000000 in
theorem countKnobbed_any (a b : Int) (s : ByteArray) (A : Option Addr) (n c : Nat) (ks : List (List Int)) (w : World) (hm : n + lensAt ks n ≤ 1048576) (hs : s.size ≤ maxLen) (hA : KnobsC w A n ks) :
    Calls Try.prog 42 #[.agg #[.int .i64 a, .int .i64 b, .slice A n c], .string s] w fun e w' => e = .returned (.tuple #[.int .i64 (ckZ a b ks s), .bool (gcB a b ks s)]) ∧ Below w.heap.size w w' := by
  have HS := Lib.hid hs
  have HA := Lib.hid hA
  have HN := Lib.hid hA.len
  have CU := Lib.hid (Cells.new (W := w) (cs := #[.int .i64 a, .int .i64 b, .slice A n c]) (t := 31) (g := w.heap.size) (n := 3) rfl rfl)
  have HB0 := Lib.hid (show Below w.heap.size w (w.alloc (.cells #[.int .i64 a, .int .i64 b, .slice A n c] 31)) from (Below.refl _ _).alloc (Nat.le_refl _) _)
  clear hA hs
  by_cases hg : gcB a b ks s = true
  · have HG := Lib.hid hg
    have HGY := Lib.hid (gcB_yes hg)
    have HK := Lib.hid (gears_knobs (gcB_yes hg).1)
    obtain ⟨hc1, _⟩ := gears_cnt (gcB_yes hg).1
    have hn5 : n ≤ 1000 := by have := (gearsB_yes (gcB_yes hg).1).2.2.2.1; have := HN.out; omega
    have HZ : Hid (ckZ a b ks s = ((allL a b ks s).length : Int)) := Lib.hid (by unfold ckZ; rw [if_pos hg])
    clear hg
    go_enter Try.func42, Try.ntmps42
    go_wp2_with (first
      | (go_at_call 79; refine (haveCode_any _ _ _ _ _ _ ks _ hm HS.out (HA.out.below HB0.out)).mono ?_; rw [HG.out]; rintro e w1 ⟨rfl, hb1⟩
         have D1 := Lib.hid (CU.out.call hb1)
         have B1 := Lib.hid (bel_call HB0.out hb1)
         have l0 : w1.cell? ⟨w.heap.size, 0, none⟩ = some (.int .i64 a) := D1.out.cell (show 0 < 3 by omega)
         have l1 : w1.cell? ⟨w.heap.size, 1, none⟩ = some (.int .i64 b) := D1.out.cell (show 1 < 3 by omega)
         have l2 : w1.cell? ⟨w.heap.size, 2, none⟩ = some (.slice A n c) := D1.out.cell (show 2 < 3 by omega)
         clear hb1)
      | (go_at_call 87; refine (allArrivals_any _ _ _ _ _ _ ks _ hn5 (HA.out.below B1.out) HGY.out.2 HK.out hc1).mono ?_; rintro e w2 ⟨g2, rfl, hg2, hC2, hb2⟩
         have HC2 := Lib.hid hC2
         clear hC2)
      | (at_len; refine wpList_len_arr rfl _ rfl g2 (allL a b ks s) HC2.out rfl ?_; rw [← HZ.out]))
    go_ret2
    exact ⟨by rw [HG.out]; rfl, bel_call B1.out hb2⟩
  · have HG := Lib.hid (Bool.eq_false_iff.2 hg)
    clear hg
    go_enter Try.func42, Try.ntmps42
    go_wp2_with (go_at_call 79; refine (haveCode_any _ _ _ _ _ _ ks _ hm HS.out (HA.out.below HB0.out)).mono ?_; rw [HG.out]; rintro e w1 ⟨rfl, hb1⟩)
    go_ret2
    exact ⟨by unfold ckZ; rw [HG.out]; rfl, bel_call HB0.out hb1⟩

end Go.Proofs.Ytejpcbkhlnjlfaa
