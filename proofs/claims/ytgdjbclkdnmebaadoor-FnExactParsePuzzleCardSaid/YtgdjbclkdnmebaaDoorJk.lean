/- Numbers below a thousand as texts, as both programs write them. Where the library's table of powers is as it is laid. -/
import Derived.Test.YtgdjbclkdnmebaaDoorIh
import Derived.Test.YtgdjbclkdnmebaaDoorUe
import Derived.Deep.RegionHeld3
import Derived.Lib.Join
namespace Go.Proofs.YtgdjbclkdnmebaaDoor
set_option maxRecDepth 100000
open Go.ChangeShapes Go.WideShapes Go.ChangeAt Go.RowKit Go.Joins

/-- The text of a number. -/
def numB (n : Int) : ByteArray := ⟨(Lib.decDigits n.toNat).toArray⟩

theorem numB_one {n : Int} (h0 : 0 ≤ n) (h9 : n ≤ 9) : numB n = strOfNums [48 + n] := by
  have : n = 0 ∨ n = 1 ∨ n = 2 ∨ n = 3 ∨ n = 4 ∨ n = 5 ∨ n = 6 ∨ n = 7 ∨ n = 8 ∨ n = 9 := by omega
  rcases this with rfl | rfl | rfl | rfl | rfl | rfl | rfl | rfl | rfl | rfl <;> (unfold numB; rw [Lib.decDigits]; rfl)

theorem numB_ten : numB 10 = strOfNums [49] ++ strOfNums [48] := by
  unfold numB
  rw [Lib.decDigits, Lib.decDigits]
  rfl

theorem numB_size {n : Int} (h0 : 0 ≤ n) (h10 : n ≤ 10) : (numB n).size ≤ 2 := by
  rcases Int.lt_or_le n 10 with h | h
  · rw [numB_one h0 (by omega), strOne_size]; omega
  · obtain rfl : n = 10 := by omega
    rw [numB_ten, ByteArray.size_append, strOne_size, strOne_size]; omega

theorem cell_new8 (w : World) : ((w.alloc (.cells #[.int .u8 48] 5)).drew).cell? ⟨w.heap.size, 0, none⟩ = some (.int .u8 48) := by
  have h := World.cell?_alloc_new (w := w) #[.int .u8 48] 5 0
  exact h

theorem conv_at (g : Nat) (n : Int) (W : World) (h : W.cell? ⟨g, 0, none⟩ = some (.int .u8 n)) : (convert 92 9 (.slice (some ⟨g, 0, none⟩) 1 1)).run Tryd.prog W = .ok (.string (strOfNums [n])) W :=
  run_convert_bytes_arg _ _ _ Tryd.underlying92 Tryd.underlying5 _ 0 1 1 [n] rfl (fun i hi => by
    obtain rfl : i = 0 := by omega
    exact h) _ Tryd.underlying9

theorem numB_more {n : Int} (h : 10 ≤ n) : numB n = numB (n / 10) ++ strOfNums [48 + n % 10] := by
  obtain ⟨k, rfl⟩ : ∃ k : Nat, n = k := ⟨n.toNat, by omega⟩
  have e1 : ((k : Int) / 10).toNat = k / 10 := by omega
  unfold numB
  rw [e1, Int.toNat_natCast, Lib.decDigits, dif_neg (by omega)]
  have e2 : (strOfNums [48 + (k : Int) % 10]).data.toList = [UInt8.ofNat (48 + k % 10)] := by
    rw [strOfNums_data]
    show [UInt8.ofNat (48 + (k : Int) % 10).toNat] = _
    rw [show (48 + (k : Int) % 10).toNat = 48 + k % 10 by omega]
  generalize strOfNums [48 + (k : Int) % 10] = t at e2
  cases t with
  | mk d =>
    have : d = #[UInt8.ofNat (48 + k % 10)] := Array.toList_inj.1 e2
    subst this
    rfl

theorem numB_size3 {n : Int} (h0 : 0 ≤ n) (h : n ≤ 999) : (numB n).size ≤ 3 := by
  rcases Int.lt_or_le n 10 with h1 | h1
  · rw [numB_one h0 (by omega), strOne_size]; omega
  · rw [numB_more h1, ByteArray.size_append, strOne_size]
    rcases Int.lt_or_le (n / 10) 10 with h2 | h2
    · rw [numB_one (by omega) (by omega), strOne_size]; omega
    · rw [numB_more h2, ByteArray.size_append, strOne_size, numB_one (by omega) (by omega), strOne_size]; omega

theorem cell_newT (w : World) (n : Int) : ((w.alloc (.cells #[.int .u8 n] 5)).drew).cell? ⟨w.heap.size, 0, none⟩ = some (.int .u8 n) := by
  have h := World.cell?_alloc_new (w := w) #[.int .u8 n] 5 0
  exact h

theorem l1Num_step (n : Int) (w : World) (h1 : 10 ≤ n) (h2 : n ≤ 999) (hrec : ∀ w, Calls Tryd.prog 59 #[.int .i64 (n / 10)] w fun e w' => e = .returned (.string (numB (n / 10))) ∧ Below w.heap.size w w') :
    Calls Tryd.prog 59 #[.int .i64 n] w fun e w' => e = .returned (.string (numB n)) ∧ Below w.heap.size w w' := by
  have hs := numB_size3 (n := n / 10) (by omega) (by omega)
  have HREC := Lib.hid hrec
  have HNM := Lib.hid (numB_more h1)
  clear hrec
  obtain ⟨q, hq⟩ : ∃ q, n / 10 = q := ⟨_, rfl⟩
  obtain ⟨r, hr⟩ : ∃ r, n % 10 = r := ⟨_, rfl⟩
  have hr9 : 0 ≤ r ∧ r ≤ 9 := by omega
  have hq2 : 0 ≤ q ∧ q ≤ 99 := by omega
  rw [hq] at HREC HNM hs
  rw [hr] at HNM
  have hqt : n.tdiv 10 = q := by rw [Int.tdiv_eq_ediv_of_nonneg (by omega)]; exact hq
  have hrt : n.tmod 10 = r := by rw [Int.tmod_eq_emod_of_nonneg (by omega)]; exact hr
  have hadd : ∀ W : World, (Op.stringOp .add (numB q) (strOfNums [48 + r])).run Tryd.prog W = .ok (.string (numB q ++ strOfNums [48 + r])) W := fun W => run_string_add_sum _ _ _ (by rw [strOne_size]; omega)
  have hw1 : IntKind.i64.wrap q = q := by rw [IntKind.wrap_i64]; omega
  have hw2 : IntKind.i64.wrap (48 + r) = 48 + r := by rw [IntKind.wrap_i64]; omega
  have hw3 : IntKind.u8.wrap (48 + r) = 48 + r := by rw [IntKind.wrap_u8]; omega
  have hw4 : IntKind.i64.wrap r = r := by rw [IntKind.wrap_i64]; omega
  have hn10 : ¬ n < 10 := by omega
  rw [HNM.out]
  clear hq hr
  go_enter Tryd.func59, Tryd.ntmps59
  go_wp2_with fail
  have hcvA := conv_at w.heap.size (48 + r) (w.alloc (.cells #[.int .u8 (48 + r)] 5)).drew (cell_newT w (48 + r))
  go_region_with (go_at_call 59; first
    | (refine (HREC.out w.drew).mono ?_; rintro e w5 ⟨rfl, hb5⟩
       have hcvC := conv_one (48 + r) w5
       have HB := Lib.hid (show Below w.heap.size w (w5.alloc (.cells #[.int .u8 (48 + r)] 5)) from (bel_call (bel_drew (Below.refl _ _)) hb5).alloc (bel_call (bel_drew (Below.refl _ _)) hb5).size _)
       clear hb5)
    | (refine (HREC.out ((w.alloc (.cells #[.int .u8 (48 + r)] 5)).drew)).mono ?_; rintro e w5 ⟨rfl, hb5⟩
       have hcvB := conv_at w.heap.size (48 + r) w5 (by rw [hb5.cell (p := ⟨w.heap.size, 0, none⟩) (by show w.heap.size < (w.alloc _).heap.size; rw [World.size_alloc]; exact Nat.lt_succ_self _)]; exact cell_newT w (48 + r))
       have HB := Lib.hid (show Below w.heap.size w w5 from bel_call (bel_drew ((Below.refl _ _).alloc (Nat.le_refl _) _)) hb5)
       clear hb5))
  all_goals
    go_wp2_with fail
    go_ret
    exact ⟨rfl, HB.out⟩

theorem l1Num_big (n : Int) (w : World) (h0 : 0 ≤ n) (h : n ≤ 999) :
    Calls Tryd.prog 59 #[.int .i64 n] w fun e w' => e = .returned (.string (numB n)) ∧ Below w.heap.size w w' := by
  have one : ∀ (n : Int) (w : World), 0 ≤ n → n ≤ 9 → Calls Tryd.prog 59 #[.int .i64 n] w fun e w' => e = .returned (.string (numB n)) ∧ Below w.heap.size w w' := fun n w h0 h9 => by
    rw [numB_one h0 h9]; exact l1Num_any n w h0 h9
  have two : ∀ (n : Int) (w : World), 0 ≤ n → n ≤ 99 → Calls Tryd.prog 59 #[.int .i64 n] w fun e w' => e = .returned (.string (numB n)) ∧ Below w.heap.size w w' := fun n w h0 h9 => by
    rcases Int.lt_or_le n 10 with h1 | h1
    · exact one n w h0 (by omega)
    · exact l1Num_step n w h1 (by omega) (fun w => one _ w (by omega) (by omega))
  rcases Int.lt_or_le n 10 with h1 | h1
  · exact one n w h0 (by omega)
  · exact l1Num_step n w h1 h (fun w => two _ w (by omega) (by omega))

/-- The library's table of powers is as it is laid. -/
structure TabW (w : World) : Prop where
  tab : Lib.TabIs Tryd.prog w "internal/strconv.uint64pow10" .u64 Lib.pow10Tab
  low : 4 ≤ w.heap.size

theorem gTab : Tryd.prog.globalNamed "internal/strconv.uint64pow10" = some 3 := by kernel_rfl

theorem TabW.below {B : Nat} {w w' : World} (h : TabW w) (hb : Below B w w') (hB : 4 ≤ B) : TabW w' :=
  ⟨var?_below hb gTab (by omega) h.tab, Nat.le_trans h.low hb.size⟩

theorem bel_grow {B : Nat} {a w : World} (h : Below B a w) (hB : B ≤ w.heap.size) (os : Array Obj) : Below B a (Go.Sort.grow w os) :=
  h.trans ⟨rfl, rfl, rfl, by unfold Go.Sort.grow; simp, fun i hi => by unfold Go.Sort.grow; simp [Array.getElem?_append, show i < w.heap.size by omega]⟩

theorem itoaT_any (n : Int) (w : World) (h0 : 0 ≤ n) (h : n ≤ 999) (hT : TabW w) :
    Calls Tryd.prog 31 #[.int .i64 n] w fun e w' => e = .returned (.string (numB n)) ∧ Below w.heap.size w w' := by
  obtain ⟨i, rfl⟩ : ∃ i : Nat, n = i := ⟨n.toNat, by omega⟩
  refine (Go.Proofs.Tryd.strconv_Itoa (i : Int) (by omega) (by omega) w hT.tab).mono ?_
  rintro e w' ⟨rfl, k, os, rfl⟩
  refine ⟨?_, bel_grow (bel_drewN (Below.refl _ _) k) (Nat.le_refl _) os⟩
  unfold numB
  rw [Int.toNat_natCast, Lib.itoa_nonneg]

/-- The text of the lock. -/
def lkB (a b : Int) : ByteArray := numB a ++ ⟨#[120]⟩ ++ numB b

/-- The text of a clue. -/
def clT (c : Clu) : ByteArray := numB c.1 ++ ⟨#[46]⟩ ++ numB c.2.1 ++ ⟨#[46]⟩ ++ numB c.2.2

/-- The text through the first k clues. -/
def pzU (a b : Int) (cs : List Clu) : Nat → ByteArray
  | 0 => lkB a b ++ ⟨#[58]⟩
  | k + 1 => (if k = 0 then pzU a b cs k else pzU a b cs k ++ ⟨#[44]⟩) ++ clT (cs.getD k cu0)

theorem pzU_succ (a b : Int) (cs : List Clu) (k : Nat) : pzU a b cs (k + 1) = (if k = 0 then pzU a b cs k else pzU a b cs k ++ ⟨#[44]⟩) ++ clT (cs.getD k cu0) := rfl

def pzP (cs : List Clu) (k : Nat) : List ByteArray := (cs.take k).map clT

theorem pzP_succ {cs : List Clu} {k : Nat} (h : k < cs.length) : pzP cs (k + 1) = pzP cs k ++ [clT (cs.getD k cu0)] := by
  unfold pzP
  rw [List.take_succ_eq_append_getElem h, List.map_append]
  simp [List.getD, List.getElem?_eq_getElem h]

theorem pzP_length {cs : List Clu} {k : Nat} (h : k ≤ cs.length) : (pzP cs k).length = k := by
  unfold pzP
  rw [List.length_map, List.length_take]; omega

/-- What stands behind the lock. -/
def pzJ (cs : List Clu) (k : Nat) : ByteArray := ⟨(Lib.join ((pzP cs k).map (·.data.toList)) (⟨#[44]⟩ : ByteArray).data.toList).toArray⟩

theorem bytes_extJ {x y : ByteArray} (h : x.data.toList = y.data.toList) : x = y := by
  cases x; cases y; simp only [ByteArray.mk.injEq]; exact Array.toList_inj.1 h

theorem join_end (sep : List UInt8) (xs : List (List UInt8)) (h : xs ≠ []) (y : List UInt8) : Lib.join (xs ++ [y]) sep = Lib.join xs sep ++ (sep ++ y) := by
  cases xs with
  | nil => exact absurd rfl h
  | cons x r =>
    rw [List.cons_append, Lib.join_cons, Lib.join_cons]
    unfold Lib.joinTail
    rw [List.map_append, List.flatten_append, List.append_assoc]
    simp

theorem pzU_join {a b : Int} {cs : List Clu} (k : Nat) (h : k ≤ cs.length) : pzU a b cs k = lkB a b ++ ⟨#[58]⟩ ++ pzJ cs k := by
  induction k with
  | zero =>
    refine bytes_extJ ?_
    rw [ByteArray.data_append, Array.toList_append]
    show _ = _ ++ Lib.join ((pzP cs 0).map (·.data.toList)) [44]
    rw [show pzP cs 0 = [] from rfl, List.map_nil, Lib.join_nil, List.append_nil]
    rfl
  | succ k ih =>
    rw [pzU_succ]
    by_cases e : k = 0
    · subst e
      rw [if_pos rfl]
      show lkB a b ++ ⟨#[58]⟩ ++ _ = _
      congr 1
      refine bytes_extJ ?_
      show _ = Lib.join ((pzP cs 1).map (·.data.toList)) _
      rw [pzP_succ (by omega)]
      show _ = Lib.join ((pzP cs 0 ++ [clT (cs.getD 0 cu0)]).map _) _
      rw [show pzP cs 0 = [] from rfl, List.nil_append, List.map_cons, List.map_nil, Lib.join_one]
    · rw [if_neg e, ih (by omega)]
      refine bytes_extJ ?_
      have hj : (pzJ cs (k + 1)).data.toList = (pzJ cs k).data.toList ++ ([44] ++ (clT (cs.getD k cu0)).data.toList) := by
        show Lib.join ((pzP cs (k + 1)).map (·.data.toList)) _ = Lib.join ((pzP cs k).map (·.data.toList)) _ ++ _
        rw [pzP_succ (by omega), List.map_append]
        refine join_end _ _ (fun h => ?_) _
        have := congrArg List.length h
        rw [List.length_map, pzP_length (by omega)] at this
        exact e this
      simp only [ByteArray.data_append, Array.toList_append]
      rw [hj]
      simp only [List.append_assoc]

/-- The bounds of a puzzle's numbers. -/
structure PzH (a b : Int) (cs : List Clu) (n : Nat) : Prop where
  pz : pzB a b cs = true
  len : cs.length = n
  a1 : 1 ≤ a
  a6 : a ≤ 6
  b2 : 2 ≤ b
  b10 : b ≤ 10
  n6 : n ≤ 6
  clu : ∀ k, k < n → 0 ≤ (cs.getD k cu0).1 ∧ (cs.getD k cu0).1 ≤ 4 ∧ 0 ≤ (cs.getD k cu0).2.1 ∧ (cs.getD k cu0).2.1 ≤ 124 ∧ 0 ≤ (cs.getD k cu0).2.2 ∧ (cs.getD k cu0).2.2 ≤ 60

theorem clu_bounds {a b : Int} (hp : puzB a b = true) {c : Clu} (h : cluB a b c = true) : 0 ≤ c.1 ∧ c.1 ≤ 4 ∧ 0 ≤ c.2.1 ∧ c.2.1 ≤ 124 ∧ 0 ≤ c.2.2 ∧ c.2.2 ≤ 60 := by
  obtain ⟨hg, hc⟩ := puzB_yes hp
  have hg' := good_yes hg
  unfold cluB at h
  split at h
  · simp only [Bool.and_eq_true] at h
    have h1 := inB_yes h.1; have h2 := inB_yes h.2; omega
  · split at h
    · simp only [Bool.and_eq_true] at h
      have h1 := inB_yes h.1; have h2 := inB_yes h.2; omega
    · split at h
      · simp only [Bool.and_eq_true] at h
        have h1 := inB_yes h.1; have h2 := inB_yes h.2; omega
      · split at h
        · simp only [Bool.and_eq_true] at h
          have h1 := inB_yes h.1; have h2 := inB_yes h.2; omega
        · split at h
          · simp only [Bool.and_eq_true] at h
            have h1 := inB_yes h.1; have h2 := inB_yes h.2; omega
          · cases h

theorem pzH {a b : Int} {cs : List Clu} {n : Nat} (h : pzB a b cs = true) (hl : cs.length = n) : PzH a b cs n := by
  obtain ⟨h1, h2, h3⟩ := pzB_yes h
  have hg := good_yes (puzB_yes h1).1
  refine ⟨h, hl, by omega, by omega, by omega, by omega, by omega, fun k hk => ?_⟩
  have := List.all_eq_true.1 h3 cs[k] (List.getElem_mem _)
  rw [List.getD, List.getElem?_eq_getElem (by omega), Option.getD_some]
  exact clu_bounds h1 this

theorem clT_size {c : Clu} (h : 0 ≤ c.1 ∧ c.1 ≤ 4 ∧ 0 ≤ c.2.1 ∧ c.2.1 ≤ 124 ∧ 0 ≤ c.2.2 ∧ c.2.2 ≤ 60) : (clT c).size ≤ 11 := by
  have h1 := numB_size3 (n := c.1) (by omega) (by omega)
  have h2 := numB_size3 (n := c.2.1) (by omega) (by omega)
  have h3 := numB_size3 (n := c.2.2) (by omega) (by omega)
  have h46 : (⟨#[46]⟩ : ByteArray).size = 1 := rfl
  unfold clT
  rw [ByteArray.size_append, ByteArray.size_append, ByteArray.size_append, ByteArray.size_append, h46]
  omega

theorem lkB_size {a b : Int} (ha : 1 ≤ a ∧ a ≤ 6) (hb : 2 ≤ b ∧ b ≤ 10) : (lkB a b).size ≤ 7 := by
  have h1 := numB_size3 (n := a) (by omega) (by omega)
  have h2 := numB_size3 (n := b) (by omega) (by omega)
  have h46 : (⟨#[120]⟩ : ByteArray).size = 1 := rfl
  unfold lkB
  rw [ByteArray.size_append, ByteArray.size_append, h46]
  omega

theorem pzU_size {a b : Int} {cs : List Clu} {n : Nat} (h : PzH a b cs n) : ∀ k, k ≤ n → (pzU a b cs k).size ≤ 8 + 12 * k
  | 0, _ => by
    have := lkB_size ⟨h.a1, h.a6⟩ ⟨h.b2, h.b10⟩
    show (lkB a b ++ ⟨#[58]⟩).size ≤ _
    rw [ByteArray.size_append]
    show _ + 1 ≤ _
    omega
  | k + 1, hk => by
    have ih := pzU_size h k (by omega)
    have hy := clT_size (h.clu k (by omega))
    rw [pzU_succ, ByteArray.size_append]
    split
    · omega
    · rw [ByteArray.size_append]
      show _ + 1 + _ ≤ _
      omega

/-- The text of a puzzle. -/
def ptB (a b : Int) (cs : List Clu) : ByteArray := if pzB a b cs then pzU a b cs cs.length else ⟨#[]⟩


end Go.Proofs.YtgdjbclkdnmebaaDoor
