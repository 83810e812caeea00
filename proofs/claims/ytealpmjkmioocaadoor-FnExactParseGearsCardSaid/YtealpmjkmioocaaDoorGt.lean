/- The text of gears, as both programs write it. For gears that can be. -/
import Derived.Test.YtealpmjkmioocaaDoorIg
import Derived.Test.YtealpmjkmioocaaDoorGearsI
import Derived.Test.YtealpmjkmioocaaDoorKD2
namespace Go.Proofs.YtealpmjkmioocaaDoor
open Go.ChangeShapes Go.WideShapes Go.ChangeAt Go.RowKit Go.Joins

/-- The text of a number. -/
def numB (n : Int) : ByteArray := ⟨(Lib.decDigits n.toNat).toArray⟩

theorem numB_one {n : Int} (h0 : 0 ≤ n) (h9 : n ≤ 9) : numB n = strOfNums [48 + n] := by
  have : n = 0 ∨ n = 1 ∨ n = 2 ∨ n = 3 ∨ n = 4 ∨ n = 5 ∨ n = 6 ∨ n = 7 ∨ n = 8 ∨ n = 9 := by omega
  rcases this with rfl | rfl | rfl | rfl | rfl | rfl | rfl | rfl | rfl | rfl <;> (unfold numB; rw [Lib.decDigits]; rfl)

theorem numB_ten : numB 10 = strOfNums [49] ++ strOfNums [48] := by
  unfold numB
  rw [Lib.decDigits, Lib.decDigits]
  rfl

theorem numB_size {n : Int} (h0 : 0 ≤ n) (h10 : n ≤ 10) : (numB n).size ≤ 2 := by
  rcases Int.lt_or_le n 10 with h | h
  · rw [numB_one h0 (by omega), strOne_size]; omega
  · obtain rfl : n = 10 := by omega
    rw [numB_ten, ByteArray.size_append, strOne_size, strOne_size]; omega

theorem cell_new8 (w : World) : ((w.alloc (.cells #[.int .u8 48] 5)).drew).cell? ⟨w.heap.size, 0, none⟩ = some (.int .u8 48) := by
  have h := World.cell?_alloc_new (w := w) #[.int .u8 48] 5 0
  exact h

theorem conv_at (g : Nat) (n : Int) (W : World) (h : W.cell? ⟨g, 0, none⟩ = some (.int .u8 n)) : (convert 68 9 (.slice (some ⟨g, 0, none⟩) 1 1)).run Tryd.prog W = .ok (.string (strOfNums [n])) W :=
  run_convert_bytes_arg _ _ _ Tryd.underlying68 Tryd.underlying5 _ 0 1 1 [n] rfl (fun i hi => by
    obtain rfl : i = 0 := by omega
    exact h) _ Tryd.underlying9

set_option maxRecDepth 20000 in
theorem l1Num_all (n : Int) (w : World) (h0 : 0 ≤ n) (h10 : n ≤ 10) :
    Calls Tryd.prog 37 #[.int .i64 n] w fun e w' => e = .returned (.string (numB n)) ∧ Below w.heap.size w w' := by
  rcases Int.lt_or_le n 10 with h | h
  · rw [numB_one h0 (by omega)]
    exact l1Num_any n w h0 (by omega)
  · obtain rfl : n = 10 := by omega
    have hadd : ∀ W : World, (Op.stringOp .add (strOfNums [49]) (strOfNums [48])).run Tryd.prog W = .ok (.string (strOfNums [49] ++ strOfNums [48])) W := fun W => run_string_add_sum _ _ _ (by rw [strOne_size, strOne_size]; omega)
    rw [numB_ten]
    go_enter Tryd.func37, Tryd.ntmps37
    go_wp2_with fail
    have hcvA := conv_at w.heap.size 48 (w.alloc (.cells #[.int .u8 48] 5)).drew (cell_new8 w)
    have hw1 : IntKind.i64.wrap 48 = 48 := by decide
    have hw2 : IntKind.u8.wrap 48 = 48 := by decide
    have hw3 : IntKind.i64.wrap 1 = 1 := by decide
    go_region_with (go_at_call 37; first
      | (refine (l1Num_any 1 w.drew (by omega) (by omega)).mono ?_; rintro e w5 ⟨rfl, hb5⟩
         have hcvC := conv_one 48 w5
         have HB := Lib.hid (show Below w.heap.size w (w5.alloc (.cells #[.int .u8 48] 5)) from (bel_call (bel_drew (Below.refl _ _)) hb5).alloc (bel_call (bel_drew (Below.refl _ _)) hb5).size _)
         clear hb5)
      | (refine (l1Num_any 1 ((w.alloc (.cells #[.int .u8 48] 5)).drew) (by omega) (by omega)).mono ?_; rintro e w5 ⟨rfl, hb5⟩
         have hcvB := conv_at w.heap.size 48 w5 (by rw [hb5.cell (p := ⟨w.heap.size, 0, none⟩) (by show w.heap.size < (w.alloc _).heap.size; rw [World.size_alloc]; exact Nat.lt_succ_self _)]; exact cell_new8 w)
         have HB := Lib.hid (show Below w.heap.size w w5 from bel_call (bel_drew ((Below.refl _ _).alloc (Nat.le_refl _) _)) hb5)
         clear hb5))
    all_goals
      go_wp2_with fail
      go_ret
      exact ⟨rfl, HB.out⟩

/-- The text of the lock. -/
def lkB (a b : Int) : ByteArray := numB a ++ ⟨#[120]⟩ ++ numB b

/-- The text of the lock and of the first knobs. -/
def gtU (a b : Int) (ks : List (List Int)) : Nat → ByteArray
  | 0 => lkB a b
  | k + 1 => gtU a b ks k ++ (⟨#[58]⟩ ++ textOf (ks.getD k []))

theorem gtU_succ (a b : Int) (ks : List (List Int)) (k : Nat) : gtU a b ks (k + 1) = gtU a b ks k ++ (⟨#[58]⟩ ++ textOf (ks.getD k [])) := rfl

def gtB (a b : Int) (ks : List (List Int)) : ByteArray := if gearsB a b ks then gtU a b ks ks.length else ⟨#[]⟩

theorem gtU_size {a b : Int} {ks : List (List Int)} (h : gearsB a b ks = true) : ∀ k, k ≤ ks.length → (gtU a b ks k).size ≤ 5 + 7 * k
  | 0, _ => by
    have hg := good_yes (gearsB_yes h).1
    have h1 := numB_size (n := a) (by omega) (by omega)
    have h2 := numB_size (n := b) (by omega) (by omega)
    show (numB a ++ ⟨#[120]⟩ ++ numB b).size ≤ _
    rw [ByteArray.size_append, ByteArray.size_append]
    show _ + 1 + _ ≤ _
    omega
  | k + 1, hk => by
    have ih := gtU_size h k (by omega)
    have hg := good_yes (gearsB_yes h).1
    have hy := (knobB_yes ((gearsB_yes h).2.2.2.2 k (by omega))).1
    rw [gtU_succ, ByteArray.size_append, ByteArray.size_append, textOf_size]
    show _ + (1 + _) ≤ _
    omega

theorem knob_dg {a b : Int} {y : List Int} (h : knobB a b y = true) (hb : b ≤ 10) : Digits y := fun j hj => by
  have := (knobB_yes h).2 j hj
  omega

/-- What is asked of a walk over gears that can be. -/
structure GtH (a b : Int) (ks : List (List Int)) (n : Nat) : Prop where
  gears : gearsB a b ks = true
  len : ks.length = n
  a1 : 1 ≤ a
  a6 : a ≤ 6
  b2 : 2 ≤ b
  b10 : b ≤ 10
  n5 : n ≤ 5

theorem gtH {a b : Int} {ks : List (List Int)} {n : Nat} (h : gearsB a b ks = true) (hl : ks.length = n) : GtH a b ks n := by
  have hg := good_yes (gearsB_yes h).1
  have := (gearsB_yes h).2.2.2.1
  exact ⟨h, hl, by omega, by omega, by omega, by omega, by omega⟩

theorem GtH.knob {a b : Int} {ks : List (List Int)} {n : Nat} (h : GtH a b ks n) {k : Nat} (hk : k < n) : Digits (ks.getD k []) ∧ (ks.getD k []).length ≤ 6 := by
  have hy := (gearsB_yes h.gears).2.2.2.2 k (by rw [h.len]; exact hk)
  have h1 := (knobB_yes hy).1
  have h6 := h.a6
  exact ⟨knob_dg hy h.b10, by omega⟩

theorem GtH.add {a b : Int} {ks : List (List Int)} {n : Nat} (h : GtH a b ks n) {k : Nat} (hk : k < n) (W : World) :
    (Op.stringOp .add (⟨#[58]⟩ : ByteArray) (textOf (ks.getD k []))).run Tryd.prog W = .ok (.string (⟨#[58]⟩ ++ textOf (ks.getD k []))) W ∧
    (Op.stringOp .add (gtU a b ks k) (⟨#[58]⟩ ++ textOf (ks.getD k []))).run Tryd.prog W = .ok (.string (gtU a b ks (k + 1))) W := by
  have h1 := (h.knob hk).2
  have h2 := gtU_size h.gears k (by rw [h.len]; omega)
  have h3 := h.n5
  have hs : (textOf (ks.getD k [])).size ≤ 6 := by rw [textOf_size]; exact h1
  have h58 : (⟨#[58]⟩ : ByteArray).size = 1 := rfl
  refine ⟨run_string_add_sum _ _ _ (by rw [h58]; omega), ?_⟩
  rw [gtU_succ]
  exact run_string_add_sum _ _ _ (by rw [ByteArray.size_append, h58]; omega)

theorem GtH.lock {a b : Int} {ks : List (List Int)} {n : Nat} (h : GtH a b ks n) (W : World) :
    (Op.stringOp .add (numB a) ⟨#[120]⟩).run Tryd.prog W = .ok (.string (numB a ++ ⟨#[120]⟩)) W ∧ (Op.stringOp .add (numB a ++ ⟨#[120]⟩) (numB b)).run Tryd.prog W = .ok (.string (lkB a b)) W := by
  have h1 := numB_size (n := a) (by have := h.a1; omega) (by have := h.a6; omega)
  have h2 := numB_size (n := b) (by have := h.b2; omega) h.b10
  have h120 : (⟨#[120]⟩ : ByteArray).size = 1 := rfl
  exact ⟨run_string_add_sum _ _ _ (by rw [h120]; omega), run_string_add_sum _ _ _ (by rw [ByteArray.size_append, h120]; omega)⟩

set_option maxRecDepth 100000 in
set_option maxHeartbeats 4000000 in
theorem joText_any (a b : Int) (A : Option Addr) (n c : Nat) (ks : List (List Int)) (w : World) (hg : gearsB a b ks = true) (hA : KnobsC w A n ks) :
    Calls Tryd.prog 22 #[.agg #[.int .i64 a, .int .i64 b, .slice A n c]] w fun e w' => e = .returned (.string (gtU a b ks n)) ∧ Below w.heap.size w w' := by
  have HH := Lib.hid (gtH hg hA.len)
  have HA := Lib.hid hA
  obtain ⟨a1, a6, b2, b10, n5⟩ : 1 ≤ a ∧ a ≤ 6 ∧ 2 ≤ b ∧ b ≤ 10 ∧ n ≤ 5 := ⟨HH.out.a1, HH.out.a6, HH.out.b2, HH.out.b10, HH.out.n5⟩
  have X0 := Lib.hid (show Below w.heap.size w (w.alloc (.cells #[.int .i64 a, .int .i64 b, .slice A n c] 26)) from (Below.refl _ _).alloc (Nat.le_refl _) _)
  have C0 := Lib.hid (show Cells (w.alloc (.cells #[.int .i64 a, .int .i64 b, .slice A n c] 26)) w.heap.size 3 (gF a b (.slice A n c)) from Cells.new (n := 3) rfl rfl)
  have l0 : (w.alloc (.cells #[.int .i64 a, .int .i64 b, .slice A n c] 26)).cell? ⟨w.heap.size, 0, none⟩ = some (.int .i64 a) := C0.out.cell (show 0 < 3 by omega)
  have l1 : (w.alloc (.cells #[.int .i64 a, .int .i64 b, .slice A n c] 26)).cell? ⟨w.heap.size, 1, none⟩ = some (.int .i64 b) := C0.out.cell (show 1 < 3 by omega)
  have hadd1 := fun W => (HH.out.lock W).1
  have hadd2 := fun W => (HH.out.lock W).2
  have HU0 : Hid (gtU a b ks 0 = lkB a b) := Lib.hid rfl
  clear hg hA
  go_enter Tryd.func22, Tryd.ntmps22
  go_wp2_with fail
  go_region_with (first
    | ((fail_if_success (have := hb1)); go_at_call 37; refine (l1Num_all a _ (by omega) (by omega)).mono ?_; rintro e w1 ⟨rfl, hb1⟩
       have HB1 : Hid (Below (w.alloc (.cells #[.int .i64 a, .int .i64 b, .slice A n c] 26)).heap.size (w.alloc (.cells #[.int .i64 a, .int .i64 b, .slice A n c] 26)) w1) := Lib.hid (below_undrew hb1)
       have C1 := Lib.hid (C0.out.call HB1.out)
       have j0 : w1.cell? ⟨w.heap.size, 0, none⟩ = some (.int .i64 a) := C1.out.cell (show 0 < 3 by omega)
       have j1 : w1.cell? ⟨w.heap.size, 1, none⟩ = some (.int .i64 b) := C1.out.cell (show 1 < 3 by omega))
    | (go_at_call 37; refine (l1Num_all b _ (by omega) (by omega)).mono ?_; rintro e w2 ⟨rfl, hb2⟩))
  all_goals
    have X2 := Lib.hid (bel_call (bel_call X0.out HB1.out) hb2)
    have C2 := Lib.hid (C1.out.call hb2)
    have m2 : w2.cell? ⟨w.heap.size, 2, none⟩ = some (.slice A n c) := C2.out.cell (show 2 < 3 by omega)
    clear l0 l1 j0 j1 hb1 hb2 hadd1 hadd2 C0 C1 X0
    go_wp2_with fail
    clear m2
    go_loopw [3, 19] (fun s i wr => ∃ k : Nat, k ≤ n ∧ i = .int .i64 k ∧ s = .string (gtU a b ks k) ∧ Below w.heap.size w wr) (fun _ i _ => n - (intOf i).toNat)
    case atStart => exact ⟨0, by omega, rfl, by rw [HU0.out], X2.out⟩
    case round =>
      clear X2 C2
      obtain ⟨k, hk, rfl, rfl, hB⟩ := hrel
      have HB := Lib.hid hB
      clear hB
      by_cases hlt : k < n
      · obtain ⟨b0, off, rfl, hb0, hkn⟩ := (HA.out.below HB.out).at_.resolve_left (by omega)
        obtain ⟨gk, ck, o1, hCk⟩ := hkn k hlt
        have HCK := Lib.hid hCk
        obtain ⟨HDG, hln⟩ := HH.out.knob hlt
        have HDG := Lib.hid HDG
        have hadd1 := fun W => (HH.out.add hlt W).1
        have hadd2 := fun W => (HH.out.add hlt W).2
        obtain ⟨nk, hnk⟩ : ∃ nk, (ks.getD k []).length = nk := ⟨_, rfl⟩
        have HNK := Lib.hid hnk
        rw [hnk] at hln HCK o1
        clear hkn hCk hnk
        obtain ⟨s1, hs1⟩ : ∃ s1, gtU a b ks (k + 1) = s1 := ⟨_, rfl⟩
        have HS1 := Lib.hid hs1
        simp only [hs1] at hadd2
        clear hs1
        generalize gtU a b ks k = s0 at hadd2 ⊢
        generalize ks.getD k [] = y at HCK HDG hadd1 hadd2 HNK
        go_wp2_with (go_at_call 38; refine (whText_n _ _ y HNK.out _ HCK.out HDG.out (by omega)).mono ?_; rintro e w3 ⟨rfl, hb3⟩)
        go_roundw
        case rel => exact ⟨k + 1, by omega, by go_num, by rw [HS1.out], bel_call HB.out hb3⟩
        case measure => simp [intOf]; omega
      · obtain rfl : k = n := by omega
        go_wp2_with fail
        go_ret
        exact ⟨rfl, HB.out⟩

theorem itoa_any (n : Int) (w : World) (h0 : 0 ≤ n) (h10 : n ≤ 10) :
    Calls Tryd.prog 45 #[.int .i64 n] w fun e w' => e = .returned (.string (numB n)) ∧ w = w' := by
  obtain ⟨i, rfl⟩ : ∃ i : Nat, n = i := ⟨n.toNat, by omega⟩
  exact (Go.Proofs.Tryd.strconv_Itoa_small i (by omega) w).mono fun e w' ⟨h1, h2⟩ => ⟨h1.trans (by unfold numB; rw [Int.toNat_natCast]), h2.symm⟩

set_option maxRecDepth 100000 in
set_option maxHeartbeats 2000000 in
theorem lockText_any (a b : Int) (ks : List (List Int)) (n : Nat) (w : World) (h : GtH a b ks n) :
    Calls Tryd.prog 27 #[.agg #[.int .i64 a, .int .i64 b]] w fun e w' => e = .returned (.string (lkB a b)) ∧ Below w.heap.size w w' := by
  obtain ⟨a1, a6, b2, b10⟩ : 1 ≤ a ∧ a ≤ 6 ∧ 2 ≤ b ∧ b ≤ 10 := ⟨h.a1, h.a6, h.b2, h.b10⟩
  have hadd1 := fun W => (h.lock W).1
  have hadd2 := fun W => (h.lock W).2
  have X0 := Lib.hid (show Below w.heap.size w (w.alloc (.cells #[.int .i64 a, .int .i64 b] 23)) from (Below.refl _ _).alloc (Nat.le_refl _) _)
  go_enter Tryd.func27, Tryd.ntmps27
  go_wp2_with fail
  go_region_with (first
    | ((fail_if_success (have := hx1)); go_at_call 45; refine (itoa_any a _ (by omega) (by omega)).mono ?_; rintro e w1 ⟨rfl, hx1⟩; subst hx1; have hx1 : True := trivial)
    | (go_at_call 45; refine (itoa_any b _ (by omega) (by omega)).mono ?_; rintro e w2 ⟨rfl, rfl⟩))
  all_goals
    go_wp2_with fail
    go_ret
    exact ⟨rfl, bel_drew X0.out⟩

end Go.Proofs.YtealpmjkmioocaaDoor
