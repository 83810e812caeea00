/- A knob turned so many times, as the model makes it. For at most a thousand times. -/
import Derived.Test.YtealpmjkmioocaaDoorGood
import Derived.Test.YtealpmjkmioocaaDoorAddN
namespace Go.Proofs.YtealpmjkmioocaaDoor
open Go.ChangeShapes Go.WideShapes Go.ChangeAt Go.RowKit Go.Joins

/-- Lists of numbers, each one at the head of a block. -/
structure KnobsC (w : World) (A : Option Addr) (n : Nat) (ks : List (List Int)) : Prop where
  len : ks.length = n
  at_ : n = 0 ∨ ∃ b off, A = some ⟨b, off, none⟩ ∧ b < w.heap.size ∧ ∀ k, k < n → ∃ gk ck, w.cell? ⟨b, off + k, none⟩ = some (.slice (some ⟨gk, 0, none⟩) (ks.getD k []).length ck) ∧ Cells w gk (ks.getD k []).length (digF (ks.getD k []))

theorem KnobsC.below {w w' : World} {A : Option Addr} {n : Nat} {ks : List (List Int)} (h : KnobsC w A n ks) (hb : Below w.heap.size w w') : KnobsC w' A n ks :=
  ⟨h.len, h.at_.imp id fun ⟨b, off, e, hb', hc⟩ => ⟨b, off, e, Nat.lt_of_lt_of_le hb' hb.size, fun k hk => by
    obtain ⟨gk, ck, h1, h2⟩ := hc k hk
    exact ⟨gk, ck, by rw [hb.cell (p := ⟨b, off + k, none⟩) hb']; exact h1, h2.call hb⟩⟩⟩

theorem KnobsC.knobs {w : World} {A : Option Addr} {n : Nat} {ks : List (List Int)} (hm : n + lensAt ks n ≤ 1048576) (h : KnobsC w A n ks) : KnobsA w A n ks :=
  ⟨h.len, h.at_.imp id fun ⟨b, off, e, hb', hc⟩ => ⟨b, off, e, hb', fun k hk => by
    obtain ⟨gk, ck, h1, h2⟩ := hc k hk
    exact ⟨_, ck, h1, by have := lensAt_one (ks := ks) hk; unfold maxLen; omega, IntsA.of_cells rfl h2⟩⟩⟩

theorem GridT.knobsC {w : World} {g n : Nat} {ks : List (List Int)} {G : Nat → Nat} (hn : ks.length = n) (h : GridT w g n ks G) : KnobsC w (some ⟨g, 0, none⟩) n ks :=
  ⟨hn, .inr ⟨g, 0, rfl, h.top.lt, fun k hk => ⟨G k, _, by rw [Nat.zero_add]; exact h.top.cell hk, (h.row k hk).2⟩⟩⟩

theorem dg_text {ds : List Int} (h : Digits ds) : dg (textOf ds) = ds := by
  unfold dg textOf
  rw [strOfNums_data, List.map_map, List.map_map]
  refine (List.map_congr_left (fun d hd => ?_)).trans (List.map_id ds)
  obtain ⟨j, hj, rfl⟩ := List.getElem_of_mem hd
  have := h j hj
  simp only [List.getD, List.getElem?_eq_getElem hj, Option.getD_some] at this
  show ((UInt8.ofNat (48 + ds[j]).toNat).toNat : Int) - 48 = ds[j]
  rw [UInt8.toNat_ofNat']
  omega

theorem knobB_yes {a b : Int} {xs : List Int} (h : knobB a b xs = true) : a = (xs.length : Int) ∧ ∀ j, j < xs.length → 0 ≤ xs.getD j 0 ∧ xs.getD j 0 < b := by
  unfold knobB at h
  simp only [Bool.and_eq_true, decide_eq_true_eq] at h
  refine ⟨h.1, fun j hj => ?_⟩
  have := List.all_eq_true.1 h.2 xs[j] (List.getElem_mem _)
  unfold inB at this
  rw [decide_eq_true_eq] at this
  simp only [List.getD, List.getElem?_eq_getElem hj, Option.getD_some]
  omega

theorem knob_digits {a b : Int} {xs : List Int} (hb : b ≤ 10) (h : knobB a b xs = true) : Digits xs := fun j hj => by have := (knobB_yes h).2 j hj; omega

theorem knob_ask {a b : Int} {xs : List Int} (hg : goodB a b = true) (h : knobB a b xs = true) : askB a b (textOf xs) = true := by
  have hg' := good_yes hg
  obtain ⟨h1, h2⟩ := knobB_yes h
  unfold askB isCodeB
  rw [hg, textOf_size]
  simp only [Bool.true_and, Bool.and_eq_true, decide_eq_true_eq, List.all_eq_true]
  refine ⟨h1.symm, fun c hc => ?_⟩
  unfold textOf at hc
  rw [strOfNums_data] at hc
  simp only [List.map_map, List.mem_map] at hc
  obtain ⟨d, hd, rfl⟩ := hc
  obtain ⟨j, hj, rfl⟩ := List.getElem_of_mem hd
  have := h2 j hj
  simp only [List.getD, List.getElem?_eq_getElem hj, Option.getD_some] at this
  unfold digitB
  rw [decide_eq_true_eq]
  show 48 ≤ ((UInt8.ofNat (48 + xs[j]).toNat).toNat : Int) ∧ ((UInt8.ofNat (48 + xs[j]).toNat).toNat : Int) - 48 < b
  rw [UInt8.toNat_ofNat']
  omega

/-- The code behind so many turns of a knob. -/
def turnK (b m : Int) (s : ByteArray) (xs : List Int) : ByteArray := textOf ((dg s).zipWith (addN b m) xs)

end Go.Proofs.YtealpmjkmioocaaDoor
