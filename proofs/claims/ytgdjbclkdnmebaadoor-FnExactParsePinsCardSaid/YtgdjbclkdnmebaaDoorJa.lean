/- Small numbers as texts, and lists of numbers each at the head of a block. No conditions. -/
import Derived.Test.YtgdjbclkdnmebaaDoorIg
import Derived.Test.YtgdjbclkdnmebaaDoorVb
import Derived.Test.YtgdjbclkdnmebaaDoorDigits
namespace Go.Proofs.YtgdjbclkdnmebaaDoor
open Go.ChangeShapes Go.WideShapes Go.ChangeAt Go.RowKit Go.Joins

/-- The text of a number. -/
def numB (n : Int) : ByteArray := ⟨(Lib.decDigits n.toNat).toArray⟩

theorem numB_one {n : Int} (h0 : 0 ≤ n) (h9 : n ≤ 9) : numB n = strOfNums [48 + n] := by
  have : n = 0 ∨ n = 1 ∨ n = 2 ∨ n = 3 ∨ n = 4 ∨ n = 5 ∨ n = 6 ∨ n = 7 ∨ n = 8 ∨ n = 9 := by omega
  rcases this with rfl | rfl | rfl | rfl | rfl | rfl | rfl | rfl | rfl | rfl <;> (unfold numB; rw [Lib.decDigits]; rfl)

theorem numB_ten : numB 10 = strOfNums [49] ++ strOfNums [48] := by
  unfold numB
  rw [Lib.decDigits, Lib.decDigits]
  rfl

theorem numB_size {n : Int} (h0 : 0 ≤ n) (h10 : n ≤ 10) : (numB n).size ≤ 2 := by
  rcases Int.lt_or_le n 10 with h | h
  · rw [numB_one h0 (by omega), strOne_size]; omega
  · obtain rfl : n = 10 := by omega
    rw [numB_ten, ByteArray.size_append, strOne_size, strOne_size]; omega

theorem cell_new8 (w : World) : ((w.alloc (.cells #[.int .u8 48] 5)).drew).cell? ⟨w.heap.size, 0, none⟩ = some (.int .u8 48) := by
  have h := World.cell?_alloc_new (w := w) #[.int .u8 48] 5 0
  exact h

theorem conv_at (g : Nat) (n : Int) (W : World) (h : W.cell? ⟨g, 0, none⟩ = some (.int .u8 n)) : (convert 92 9 (.slice (some ⟨g, 0, none⟩) 1 1)).run Tryd.prog W = .ok (.string (strOfNums [n])) W :=
  run_convert_bytes_arg _ _ _ Tryd.underlying92 Tryd.underlying5 _ 0 1 1 [n] rfl (fun i hi => by
    obtain rfl : i = 0 := by omega
    exact h) _ Tryd.underlying9

set_option maxRecDepth 20000 in
theorem l1Num_all (n : Int) (w : World) (h0 : 0 ≤ n) (h10 : n ≤ 10) :
    Calls Tryd.prog 59 #[.int .i64 n] w fun e w' => e = .returned (.string (numB n)) ∧ Below w.heap.size w w' := by
  rcases Int.lt_or_le n 10 with h | h
  · rw [numB_one h0 (by omega)]
    exact l1Num_any n w h0 (by omega)
  · obtain rfl : n = 10 := by omega
    have hadd : ∀ W : World, (Op.stringOp .add (strOfNums [49]) (strOfNums [48])).run Tryd.prog W = .ok (.string (strOfNums [49] ++ strOfNums [48])) W := fun W => run_string_add_sum _ _ _ (by rw [strOne_size, strOne_size]; omega)
    rw [numB_ten]
    go_enter Tryd.func59, Tryd.ntmps59
    go_wp2_with fail
    have hcvA := conv_at w.heap.size 48 (w.alloc (.cells #[.int .u8 48] 5)).drew (cell_new8 w)
    have hw1 : IntKind.i64.wrap 48 = 48 := by decide
    have hw2 : IntKind.u8.wrap 48 = 48 := by decide
    have hw3 : IntKind.i64.wrap 1 = 1 := by decide
    go_region_with (go_at_call 59; first
      | (refine (l1Num_any 1 w.drew (by omega) (by omega)).mono ?_; rintro e w5 ⟨rfl, hb5⟩
         have hcvC := conv_one 48 w5
         have HB := Lib.hid (show Below w.heap.size w (w5.alloc (.cells #[.int .u8 48] 5)) from (bel_call (bel_drew (Below.refl _ _)) hb5).alloc (bel_call (bel_drew (Below.refl _ _)) hb5).size _)
         clear hb5)
      | (refine (l1Num_any 1 ((w.alloc (.cells #[.int .u8 48] 5)).drew) (by omega) (by omega)).mono ?_; rintro e w5 ⟨rfl, hb5⟩
         have hcvB := conv_at w.heap.size 48 w5 (by rw [hb5.cell (p := ⟨w.heap.size, 0, none⟩) (by show w.heap.size < (w.alloc _).heap.size; rw [World.size_alloc]; exact Nat.lt_succ_self _)]; exact cell_new8 w)
         have HB := Lib.hid (show Below w.heap.size w w5 from bel_call (bel_drew ((Below.refl _ _).alloc (Nat.le_refl _) _)) hb5)
         clear hb5))
    all_goals
      go_wp2_with fail
      go_ret
      exact ⟨rfl, HB.out⟩

theorem itoa_any (n : Int) (w : World) (h0 : 0 ≤ n) (h10 : n ≤ 10) :
    Calls Tryd.prog 31 #[.int .i64 n] w fun e w' => e = .returned (.string (numB n)) ∧ w = w' := by
  obtain ⟨i, rfl⟩ : ∃ i : Nat, n = i := ⟨n.toNat, by omega⟩
  exact (Go.Proofs.Tryd.strconv_Itoa_small i (by omega) w).mono fun e w' ⟨h1, h2⟩ => ⟨h1.trans (by unfold numB; rw [Int.toNat_natCast]), h2.symm⟩

/-- Lists of numbers, each one at the head of a block. -/
structure KnobsC (w : World) (A : Option Addr) (n : Nat) (ks : List (List Int)) : Prop where
  len : ks.length = n
  at_ : n = 0 ∨ ∃ b off, A = some ⟨b, off, none⟩ ∧ b < w.heap.size ∧ ∀ k, k < n → ∃ gk ck, w.cell? ⟨b, off + k, none⟩ = some (.slice (some ⟨gk, 0, none⟩) (ks.getD k []).length ck) ∧ Cells w gk (ks.getD k []).length (digF (ks.getD k []))

theorem KnobsC.below {w w' : World} {A : Option Addr} {n : Nat} {ks : List (List Int)} (h : KnobsC w A n ks) (hb : Below w.heap.size w w') : KnobsC w' A n ks :=
  ⟨h.len, h.at_.imp id fun ⟨b, off, e, hb', hc⟩ => ⟨b, off, e, Nat.lt_of_lt_of_le hb' hb.size, fun k hk => by
    obtain ⟨gk, ck, h1, h2⟩ := hc k hk
    exact ⟨gk, ck, by rw [hb.cell (p := ⟨b, off + k, none⟩) hb']; exact h1, h2.call hb⟩⟩⟩

theorem KnobsC.knobs {w : World} {A : Option Addr} {n : Nat} {ks : List (List Int)} (hm : n + lensAt ks n ≤ 1048576) (h : KnobsC w A n ks) : KnobsA w A n ks :=
  ⟨h.len, h.at_.imp id fun ⟨b, off, e, hb', hc⟩ => ⟨b, off, e, hb', fun k hk => by
    obtain ⟨gk, ck, h1, h2⟩ := hc k hk
    exact ⟨_, ck, h1, by have := lensAt_one (ks := ks) hk; unfold maxLen; omega, IntsA.of_cells rfl h2⟩⟩⟩

theorem GridT.knobsC {w : World} {g n : Nat} {ks : List (List Int)} {G : Nat → Nat} (hn : ks.length = n) (h : GridT w g n ks G) : KnobsC w (some ⟨g, 0, none⟩) n ks :=
  ⟨hn, .inr ⟨g, 0, rfl, h.top.lt, fun k hk => ⟨G k, _, by rw [Nat.zero_add]; exact h.top.cell hk, (h.row k hk).2⟩⟩⟩

theorem dg_text {ds : List Int} (h : Digits ds) : dg (textOf ds) = ds := by
  unfold dg textOf
  rw [strOfNums_data, List.map_map, List.map_map]
  refine (List.map_congr_left (fun d hd => ?_)).trans (List.map_id ds)
  obtain ⟨j, hj, rfl⟩ := List.getElem_of_mem hd
  have := h j hj
  simp only [List.getD, List.getElem?_eq_getElem hj, Option.getD_some] at this
  show ((UInt8.ofNat (48 + ds[j]).toNat).toNat : Int) - 48 = ds[j]
  rw [UInt8.toNat_ofNat']
  omega

/-- Texts as cells. -/
def strF (ts : List ByteArray) (j : Nat) : Value := .string (ts.getD j ByteArray.empty)

theorem news_of {W : World} {B : Nat} {cs : Array Value} {t : TypeId} (hB : B = W.heap.size) : ∀ j u, cs.toList[j]? = some u → (W.alloc (.cells cs t)).cell? ((⟨B, 0, none⟩ : Addr).add j) = some u := by
  subst hB
  exact World.news_of_block (heap_alloc_new W _)

/-- Texts as values. -/
def sv (ts : List ByteArray) : List Value := ts.map .string

theorem info_string : (Tryd.prog.info? 9).map (fun i => (i.zero, i.size, i.bytes)) = some (some (.string ByteArray.empty), 1, 16) := by kernel_rfl

end Go.Proofs.YtgdjbclkdnmebaaDoor
