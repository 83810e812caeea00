/- A knob turned so many times, as the model makes it. For at most a thousand times. -/
import Derived.Test.YtkmgmlgjflnbeaaGood
import Derived.Test.YtkmgmlgjflnbeaaAddN
namespace Go.Proofs.Ytkmgmlgjflnbeaa
open Go.ChangeShapes Go.WideShapes Go.ChangeAt Go.RowKit Go.Joins

/-- Lists of numbers, each one at the head of a block. -/
structure KnobsC (w : World) (A : Option Addr) (n : Nat) (ks : List (List Int)) : Prop where
  len : ks.length = n
  at_ : n = 0 ∨ ∃ b off, A = some ⟨b, off, none⟩ ∧ b < w.heap.size ∧ ∀ k, k < n → ∃ gk ck, w.cell? ⟨b, off + k, none⟩ = some (.slice (some ⟨gk, 0, none⟩) (ks.getD k []).length ck) ∧ Cells w gk (ks.getD k []).length (digF (ks.getD k []))

theorem KnobsC.below {w w' : World} {A : Option Addr} {n : Nat} {ks : List (List Int)} (h : KnobsC w A n ks) (hb : Below w.heap.size w w') : KnobsC w' A n ks :=
  ⟨h.len, h.at_.imp id fun ⟨b, off, e, hb', hc⟩ => ⟨b, off, e, Nat.lt_of_lt_of_le hb' hb.size, fun k hk => by
    obtain ⟨gk, ck, h1, h2⟩ := hc k hk
    exact ⟨gk, ck, by rw [hb.cell (p := ⟨b, off + k, none⟩) hb']; exact h1, h2.call hb⟩⟩⟩

theorem KnobsC.knobs {w : World} {A : Option Addr} {n : Nat} {ks : List (List Int)} (hm : n + lensAt ks n ≤ 1048576) (h : KnobsC w A n ks) : KnobsA w A n ks :=
  ⟨h.len, h.at_.imp id fun ⟨b, off, e, hb', hc⟩ => ⟨b, off, e, hb', fun k hk => by
    obtain ⟨gk, ck, h1, h2⟩ := hc k hk
    exact ⟨_, ck, h1, by have := lensAt_one (ks := ks) hk; unfold maxLen; omega, IntsA.of_cells rfl h2⟩⟩⟩

theorem GridT.knobsC {w : World} {g n : Nat} {ks : List (List Int)} {G : Nat → Nat} (hn : ks.length = n) (h : GridT w g n ks G) : KnobsC w (some ⟨g, 0, none⟩) n ks :=
  ⟨hn, .inr ⟨g, 0, rfl, h.top.lt, fun k hk => ⟨G k, _, by rw [Nat.zero_add]; exact h.top.cell hk, (h.row k hk).2⟩⟩⟩

theorem dg_text {ds : List Int} (h : Digits ds) : dg (textOf ds) = ds := by
  unfold dg textOf
  rw [strOfNums_data, List.map_map, List.map_map]
  refine (List.map_congr_left (fun d hd => ?_)).trans (List.map_id ds)
  obtain ⟨j, hj, rfl⟩ := List.getElem_of_mem hd
  have := h j hj
  simp only [List.getD, List.getElem?_eq_getElem hj, Option.getD_some] at this
  show ((UInt8.ofNat (48 + ds[j]).toNat).toNat : Int) - 48 = ds[j]
  rw [UInt8.toNat_ofNat']
  omega

theorem knobB_yes {a b : Int} {xs : List Int} (h : knobB a b xs = true) : a = (xs.length : Int) ∧ ∀ j, j < xs.length → 0 ≤ xs.getD j 0 ∧ xs.getD j 0 < b := by
  unfold knobB at h
  simp only [Bool.and_eq_true, decide_eq_true_eq] at h
  refine ⟨h.1, fun j hj => ?_⟩
  have := List.all_eq_true.1 h.2 xs[j] (List.getElem_mem _)
  unfold inB at this
  rw [decide_eq_true_eq] at this
  simp only [List.getD, List.getElem?_eq_getElem hj, Option.getD_some]
  omega

theorem knob_digits {a b : Int} {xs : List Int} (hb : b ≤ 10) (h : knobB a b xs = true) : Digits xs := fun j hj => by have := (knobB_yes h).2 j hj; omega

theorem knob_ask {a b : Int} {xs : List Int} (hg : goodB a b = true) (h : knobB a b xs = true) : askB a b (textOf xs) = true := by
  have hg' := good_yes hg
  obtain ⟨h1, h2⟩ := knobB_yes h
  unfold askB isCodeB
  rw [hg, textOf_size]
  simp only [Bool.true_and, Bool.and_eq_true, decide_eq_true_eq, List.all_eq_true]
  refine ⟨h1.symm, fun c hc => ?_⟩
  unfold textOf at hc
  rw [strOfNums_data] at hc
  simp only [List.map_map, List.mem_map] at hc
  obtain ⟨d, hd, rfl⟩ := hc
  obtain ⟨j, hj, rfl⟩ := List.getElem_of_mem hd
  have := h2 j hj
  simp only [List.getD, List.getElem?_eq_getElem hj, Option.getD_some] at this
  unfold digitB
  rw [decide_eq_true_eq]
  show 48 ≤ ((UInt8.ofNat (48 + xs[j]).toNat).toNat : Int) ∧ ((UInt8.ofNat (48 + xs[j]).toNat).toNat : Int) - 48 < b
  rw [UInt8.toNat_ofNat']
  omega

/-- The code behind so many turns of a knob. -/
def turnK (b m : Int) (s : ByteArray) (xs : List Int) : ByteArray := textOf ((dg s).zipWith (addN b m) xs)

set_option maxHeartbeats 2000000 in
theorem joTurn_any (a b m : Int) (s : ByteArray) (A : Option Addr) (n c q : Nat) (ks : List (List Int)) (w : World) (hq : q < n) (hA : KnobsC w A n ks) (hs : askB a b s = true) (hk : knobB a b (ks.getD q []) = true) (hm : -1000 ≤ m ∧ m ≤ 1000) :
    Calls Try.prog 27 #[.agg #[.int .i64 a, .int .i64 b, .slice A n c], .string s, .int .i64 (q : Int), .int .i64 m] w fun e w' => e = .returned (.string (turnK b m s (ks.getD q []))) ∧ Below w.heap.size w w' := by
  have HS := Lib.hid hs
  have HG := Lib.hid (asked hs).good
  have HK := Lib.hid (knob_ask (asked hs).good hk)
  have HDG := Lib.hid (knob_digits (asked hs).b10 hk)
  have hxl : (ks.getD q []).length ≤ 6 := by have := (knobB_yes hk).1; have := good_yes (asked hs).good; omega
  obtain ⟨b0, off, rfl, hb0, hc⟩ := hA.at_.resolve_left (by omega)
  obtain ⟨gk, ck, o1', hC'⟩ := hc q hq
  have o1 : (w.alloc (.cells #[.int .i64 a, .int .i64 b, .slice (some ⟨b0, off, none⟩) n c] 33)).cell? ⟨b0, off + q, none⟩ = some (.slice (some ⟨gk, 0, none⟩) (ks.getD q []).length ck) := by rw [World.cell?_alloc_lt _ _ _ hb0]; exact o1'
  have HC := Lib.hid (hC'.alloc (.cells #[.int .i64 a, .int .i64 b, .slice (some ⟨b0, off, none⟩) n c] 33))
  have HM := Lib.hid hm
  generalize ks.getD q [] = xs at o1 HC HK HDG hxl
  obtain ⟨k, hxk⟩ : ∃ k, xs.length = k := ⟨_, rfl⟩
  have HXK := Lib.hid hxk
  rw [hxk] at o1 HC hxl
  clear hs hk hc o1' hC' hA hm hxk
  go_enter Try.func27, Try.ntmps27
  go_wp2_with fail
  go_region_with (first
    | (go_at_call 41; refine (whText_n _ _ xs HXK.out _ HC.out.drew HDG.out (by omega)).mono ?_; rintro e w2 ⟨rfl, hb2⟩
       have l0 : w2.cell? ⟨w.heap.size, 0, none⟩ = some (.int .i64 a) := (hb2.cell (p := ⟨w.heap.size, 0, none⟩) (by simp)).trans (by simp)
       have l1 : w2.cell? ⟨w.heap.size, 1, none⟩ = some (.int .i64 b) := (hb2.cell (p := ⟨w.heap.size, 1, none⟩) (by simp)).trans (by simp))
    | (go_at_call 40; refine (whAddN_any _ _ _ _ _ _ HS.out HK.out HM.out).mono ?_; rintro e w3 ⟨rfl, hb3⟩))
  all_goals
    have HW := Lib.hid (bel_call (bel_call ((Below.refl _ _).alloc (Nat.le_refl _) _) (below_undrew hb2)) hb3)
    clear hb2 hb3
    go_wp2_with fail
    go_ret
    exact ⟨ret_str (by unfold turnK; rw [dg_text HDG.out]), HW.out⟩

end Go.Proofs.Ytkmgmlgjflnbeaa
