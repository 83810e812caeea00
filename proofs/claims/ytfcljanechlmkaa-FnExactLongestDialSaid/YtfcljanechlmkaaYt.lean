/- The codes with the least and the greatest length, and how many have one, as the model reckons them. For at most 12 marks and 3 numbers. -/
import Derived.Test.YtfcljanechlmkaaYs
namespace Go.Proofs.Ytfcljanechlmkaa
open Go.ChangeShapes Go.WideShapes Go.ChangeAt Go.RowKit Go.Joins

theorem opL_at (m s : Int) (xs : List Int) (N : Nat) {k i : Nat} (h : i < k) : (opL m s xs N k).getD i 0 = opE m s xs N i := by
  induction k with
  | zero => omega
  | succ k ih =>
    rw [opL, app_at, opL_length]
    by_cases h2 : i < k
    · rw [if_pos h2, ih h2]
    · obtain rfl : i = k := by omega
      rw [if_neg h2, if_pos rfl]

/-- Opening turns of few numbers on few marks are steps. -/
theorem op_small {m s : Int} {xs : List Int} {n : Nat} (hs : dmB m s = true) (hx : codeB m xs = true) (hl : xs.length = n) (hm : m ≤ 12) (hn : n ≤ 3) : stepsB (opL m s xs n n) = true := by
  unfold stepsB
  rw [opL_length, decide_eq_true (by omega), Bool.true_and, List.all_eq_true]
  intro x hx2
  obtain ⟨i, hi, rfl⟩ := List.mem_iff_getElem.1 hx2
  have hin : i < n := by rw [opL_length] at hi; exact hi
  have h := opL_at m s xs n (k := n) hin
  simp only [List.getD, List.getElem?_eq_getElem hi, Option.getD_some] at h
  rw [h]
  obtain ⟨_, _, r0, r1⟩ := dm_yes (stA_bd hs hx (i := i) (by omega))
  obtain ⟨m2, m1, x0, x1⟩ := code_at hx (k := i) (by omega)
  have h1 := fpI_bd m2 (byA_is i) ⟨r0, r1⟩ ⟨x0, x1⟩
  have h2 : 0 ≤ ((n : Int) - 1 - (i : Int)) * m := Int.mul_nonneg (by omega) (by omega)
  have h3 : ((n : Int) - 1 - (i : Int)) * m ≤ 2 * 12 := Int.mul_le_mul (by omega) hm (by omega) (by omega)
  unfold opE
  generalize fpI m (stA s xs i) (xs.getD i 0) (byA i) = f at h1
  generalize ((n : Int) - 1 - (i : Int)) * m = g at h2 h3
  refine decide_eq_true ?_
  rcases byA_is i with e | e <;> rw [e] <;> omega

/-- The length of a code. -/
def fL (m s : Int) (n : Nat) (c : List Int) : Int := lnN (opL m s c n n) n

theorem fL_bd {m s : Int} {xs : List Int} {n : Nat} (hs : dmB m s = true) (hx : codeB m xs = true) (hl : xs.length = n) (hm : m ≤ 12) (hn : n ≤ 3) : 0 ≤ fL m s n xs ∧ fL m s n xs ≤ 3000 := by
  have := lnN_bd (op_small hs hx hl hm hn) n (by rw [opL_length]; exact Nat.le_refl _)
  unfold fL
  omega

theorem ol_fL {m s : Int} {xs : List Int} {n : Nat} (hs : dmB m s = true) (hx : codeB m xs = true) (hl : xs.length = n) (hm : m ≤ 12) (hn : n ≤ 3) : olZ m s xs = fL m s n xs ∧ opB m s xs = true := by
  have h := op_small hs hx hl hm hn
  have h1 : opB m s xs = true := by unfold opB dcB; rw [hs, hx, hl, h]; rfl
  refine ⟨?_, h1⟩
  unfold olZ opZ
  rw [if_pos h1, opL_length, hl]
  rfl

/-- One length is better than another. -/
def betB (least : Bool) (a b : Int) : Bool := if least then decide (a < b) else decide (b < a)

/-- Which of the first k is best. -/
def biN (f : Nat → Int) (least : Bool) : Nat → Nat
  | 0 => 0
  | k + 1 => if k = 0 then 0 else if betB least (f k) (f (biN f least k)) then k else biN f least k

theorem biN_lt (f : Nat → Int) (least : Bool) (k : Nat) : biN f least (k + 1) < k + 1 := by
  induction k with
  | zero => rw [biN, if_pos rfl]; omega
  | succ k ih =>
    rw [biN, if_neg (by omega)]
    split
    · omega
    · omega

/-- How many of the first k are so long. -/
def clN (f : Nat → Int) (l : Int) : Nat → Int
  | 0 => 0
  | k + 1 => clN f l k + if f k = l then 1 else 0

theorem clN_bd (f : Nat → Int) (l : Int) (k : Nat) : 0 ≤ clN f l k ∧ clN f l k ≤ k := by
  induction k with
  | zero => simp [clN]
  | succ k ih => simp only [clN]; split <;> omega

/-- Few marks, a start and how many numbers. -/
def fwB (m s n : Int) : Bool := dmB m s && (decide (m ≤ 12) && countB n)

/-- The lengths of all codes. -/
def lensF (m s : Int) (n : Nat) (i : Nat) : Int := fL m s n ((alL m.toNat n).getD i [])

theorem fw_yes {m s n : Int} (h : fwB m s n = true) : dmB m s = true ∧ 2 ≤ m ∧ m ≤ 12 ∧ 1 ≤ n ∧ n ≤ 3 := by
  unfold fwB at h
  rw [Bool.and_eq_true, Bool.and_eq_true, decide_eq_true_eq] at h
  have h1 := dm_yes h.1
  have h2 := count_yes h.2.2
  exact ⟨h.1, h1.1, h.2.1, h2.1, h2.2⟩

theorem diFew_any (m s n : Int) (w : World) (hm : -9223372036854775808 ≤ m ∧ m ≤ 9223372036854775807) :
    Calls Try.prog 76 #[.int .i64 m, .int .i64 s, .int .i64 n] w fun e w' => e = .returned (.bool (fwB m s n)) ∧ w' = w := by
  obtain ⟨u, hu⟩ : ∃ u, dmB m s = u := ⟨_, rfl⟩
  obtain ⟨y, hy⟩ : ∃ y, countB n = y := ⟨_, rfl⟩
  have HU := Lib.hid hu
  have HY : Hid (inB n 1 3 = y) := Lib.hid hy
  have HB : Hid (fwB m s n = (u && (decide (m ≤ 12) && y))) := Lib.hid (by unfold fwB; rw [hu, hy])
  rcases u with _ | _
  · go_enter Try.func76, Try.ntmps76
    go_wp2_with (go_at_call 55; refine (diAsked_any _ _ _ hm).mono ?_; rw [HU.out]; rintro e wq ⟨rfl, hwq⟩; replace hwq := hwq.symm; subst hwq)
    go_ret
    exact ⟨ret_bool (by rw [HB.out]; rfl), rfl⟩
  by_cases h12 : m ≤ 12
  · have HB2 : Hid (fwB m s n = y) := Lib.hid (by rw [HB.out, decide_eq_true h12]; rfl)
    go_enter Try.func76, Try.ntmps76
    go_wp2_with (first | (go_at_call 55; refine (diAsked_any _ _ _ hm).mono ?_; rw [HU.out]; rintro e wq ⟨rfl, hwq⟩; replace hwq := hwq.symm; subst hwq) | (go_at_call 63; refine (l1In_any _ _ _ _).mono ?_; rw [HY.out]; rintro e wq ⟨rfl, hwq⟩; replace hwq := hwq.symm; subst hwq))
    go_ret
    exact ⟨ret_bool HB2.out.symm, rfl⟩
  · have HB2 : Hid (fwB m s n = false) := Lib.hid (by rw [HB.out, decide_eq_false h12]; rfl)
    go_enter Try.func76, Try.ntmps76
    go_wp2_with (go_at_call 55; refine (diAsked_any _ _ _ hm).mono ?_; rw [HU.out]; rintro e wq ⟨rfl, hwq⟩; replace hwq := hwq.symm; subst hwq)
    go_ret
    exact ⟨ret_bool HB2.out.symm, rfl⟩

/-- A code and its length handed back. -/
def Best2 (w : World) (xs : List Int) (l : Int) (e : Ending) (w' : World) : Prop :=
  ∃ A c, e = .returned (.tuple #[.slice A xs.length c, .int .i64 l]) ∧ LI w' w.heap.size w'.heap.size A xs ∧ Below w.heap.size w w'

theorem best2_mk {w w' : World} {xs : List Int} {l : Int} {e : Ending} {A : Option Addr} {n c : Nat} (he : e = .returned (.tuple #[.slice A n c, .int .i64 l])) (hn : xs.length = n) (hL : LI w' w.heap.size w'.heap.size A xs) (hb : Below w.heap.size w w') : Best2 w xs l e w' :=
  ⟨A, c, by rw [he, hn], hL, hb⟩

/-- What stands behind the first k codes. -/
def BestAt (w : World) (B H : Nat) (n : Nat) (f : Nat → Int) (least : Bool) (cs : List (List Int)) (k : Nat) (v l : Value) : Prop :=
  (k = 0 ∧ v = .slice none 0 0 ∧ l = .int .i64 0) ∨ (0 < k ∧ ∃ A c, v = .slice A n c ∧ l = .int .i64 (f (biN f least k)) ∧ LI w B H A (cs.getD (biN f least k) []))

theorem BestAt.call {w w' : World} {B H n k : Nat} {f : Nat → Int} {least : Bool} {cs : List (List Int)} {v l : Value} (h : BestAt w B H n f least cs k v l) (hb : Below w.heap.size w w') : BestAt w' B H n f least cs k v l :=
  h.imp id fun ⟨h0, A, c, e1, e2, hL⟩ => ⟨h0, A, c, e1, e2, hL.call hb⟩

theorem RowL.li {w : World} {B n : Nat} {A : Option Addr} {xs : List Int} (h : xs.length = 0 ∨ ∃ b, A = some ⟨b, 0, none⟩ ∧ B ≤ b ∧ Cells w b xs.length (digF xs)) (hn : xs.length = n) (h3 : n ≤ 3) : LI w B w.heap.size A xs :=
  ⟨by omega, h.imp id fun ⟨b, e, hb, hC⟩ => ⟨b, e, hb, hC.lt, hC⟩⟩

set_option maxHeartbeats 4000000 in
theorem diBest_any (m n : Nat) (s : Int) (least : Bool) (w : World) (h : fwB m s n = true) :
    Calls Try.prog 77 #[.int .i64 m, .int .i64 s, .int .i64 n, .bool least] w (Best2 w ((alL m n).getD (biN (lensF m s n) least (m ^ n)) []) (lensF m s n (biN (lensF m s n) least (m ^ n)))) := by
  obtain ⟨hd, m2, m12, n1, n3⟩ := fw_yes h
  have HD := Lib.hid hd
  have hm : m ≤ 12 := by omega
  have hn : n ≤ 3 := by omega
  have HAL := Lib.hid (alL_length m n)
  have HAO := Lib.hid (alL_of m n)
  have HF : Hid (∀ i, lensF m s n i = fL m s n ((alL m n).getD i [])) := Lib.hid (fun i => by unfold lensF; rw [Int.toNat_natCast])
  have hbd := pow_bd hm hn
  have hpos : 0 < m ^ n := Nat.pow_pos (by omega)
  obtain ⟨N, hNe⟩ : ∃ N, m ^ n = N := ⟨_, rfl⟩
  rw [hNe] at HAL hbd hpos ⊢
  clear hd h hNe
  go_enter Try.func77, Try.ntmps77
  go_wp2_with (go_at_call 82; refine (diAll_any m n _ hm hn).mono ?_; rintro e w1 ⟨v1, rfl, hR1, hb1⟩; obtain ⟨A1, c1, rfl⟩ := hR1.slice; rw [HAL.out] at hR1 ⊢; have HR1 := Lib.hid hR1; have HB1 := Lib.hid hb1; clear hR1 hb1)
  obtain ⟨cs, hcs⟩ : ∃ cs, alL m n = cs := ⟨_, rfl⟩
  rw [hcs] at HR1 HAL HAO HF
  have HCS := Lib.hid hcs
  obtain ⟨f, hfe⟩ : ∃ f, lensF m s n = f := ⟨_, rfl⟩
  rw [hfe] at HF
  have HFE := Lib.hid hfe
  clear hcs hfe
  have hH := HB1.out.size
  go_loopw [10, 11, 19] (fun v l i wr => ∃ k : Nat, k ≤ N ∧ i = .int .i64 k ∧ BestAt wr w.heap.size w1.heap.size n f least cs k v l ∧ RowL wr w.heap.size (.slice A1 N c1) cs ∧ Below w1.heap.size w1 wr) (fun _ _ i _ => N - (intOf i).toNat)
  case atStart => exact ⟨0, by omega, rfl, .inl ⟨rfl, rfl, rfl⟩, HR1.out, Below.refl _ _⟩
  case round =>
    obtain ⟨k, hk, rfl, hBA, hR, hB⟩ := hrel
    have HBA := Lib.hid hBA
    have HB := Lib.hid hB
    have HRr := Lib.hid hR
    clear hBA hB hR
    by_cases hlt : k < N
    · obtain ⟨g, Ai, ci, rfl, hcell0, _, hin⟩ := HR1.out.at (i := k) (by rw [HAL.out]; exact hlt)
      have hcell := (HB.out.cell (p := ⟨g, k, none⟩) (World.block_lt_of_cell? w1 _ hcell0)).trans hcell0
      clear hcell0
      have hmem := getD_mem (l := cs) (k := k) (d := []) (by rw [HAL.out]; exact hlt)
      have hlen := (HAO.out _ hmem).1
      have HCO := Lib.hid (of_code HAO.out (by omega) (by omega) (by omega) (by omega) hmem)
      have HLI := Lib.hid (RowL.li hin hlen hn)
      have HIA : Hid (IntsA w1 Ai n (cs.getD k [])) := Lib.hid (RowL.ints (b := 0) hin hlen rfl)
      rw [hlen] at hcell
      have HFK : Hid (fL m s n (cs.getD k []) = f k) := Lib.hid (HF.out k).symm
      have hfb := fL_bd HD.out HCO.out hlen m12 hn
      rw [HFK.out] at hfb
      have HST := Lib.hid (op_small HD.out HCO.out hlen m12 hn)
      have HOL := Lib.hid (opL_length m s (cs.getD k []) n n)
      have HFL : Hid (lnN (opL m s (cs.getD k []) n n) n = f k) := Lib.hid HFK.out
      have HK : Hid (∀ (_ : 0 < k), biN f least (k + 1) = if betB least (f k) (f (biN f least k)) then k else biN f least k) := Lib.hid (fun h0 => by rw [biN, if_neg (by omega)])
      have HK0 : Hid (k = 0 → biN f least (k + 1) = k) := Lib.hid (fun h0 => by subst h0; rw [biN, if_pos rfl])
      obtain ⟨cc, hcc⟩ : ∃ cc, cs.getD k [] = cc := ⟨_, rfl⟩
      rw [hcc] at hin hlen HCO HLI HIA HST HOL HFL
      have HCC := Lib.hid hcc
      clear hcc hin hmem HFK hfb
      have hzH : w1.heap.size ≤ wr.heap.size := HB.out.size
      rcases HBA.out with ⟨hk0, rfl, rfl⟩ | ⟨hk0, Ao, co, rfl, rfl, hLo⟩
      · have HE : Hid (biN f least (k + 1) = k) := Lib.hid (HK0.out hk0)
        clear HBA HK HK0 hk0
        go_wp2_with (first
          | (go_at_call 71; refine (diOpen_any (m : Int) s _ n _ cc _ (by omega) HD.out HCO.out (HIA.out.below HB.out)).mono ?_; rintro e w2 ⟨A2, c2, rfl, hL2, hb2⟩; rw [HOL.out]; have HI2 := Lib.hid (hL2.ints_n HOL.out); have HB2 := Lib.hid (show Below wr.heap.size wr w2 from hb2); clear hL2 hb2)
          | (go_at_call 73; refine (diLength_any _ _ _ _ _ HST.out HI2.out).mono ?_; rw [HFL.out]; rintro e wq ⟨rfl, hwq⟩; replace hwq := hwq.symm; subst hwq))
        have HBN := Lib.hid (HB.out.trans (HB2.out.mono HB.out.size))
        go_roundw
        case rel => exact ⟨k + 1, by omega, by go_num, .inr ⟨by omega, Ai, ci, rfl, by rw [HE.out], by rw [HE.out, HCC.out]; exact HLI.out.below HBN.out (by omega)⟩, HRr.out.call HB2.out, HBN.out⟩
        case measure => simp [intOf]; omega
      · have HLO := Lib.hid hLo
        have HKE := Lib.hid (HK.out hk0)
        have hnb : ((n : Int) == 0) = false := by simp; omega
        obtain ⟨bi, hbi⟩ : ∃ bi, biN f least k = bi := ⟨_, rfl⟩
        rw [hbi] at HLO HKE ⊢
        have HBI := Lib.hid hbi
        obtain ⟨fo, hfo⟩ : ∃ fo, f bi = fo := ⟨_, rfl⟩
        rw [hfo] at HKE ⊢
        have HFO := Lib.hid hfo
        obtain ⟨fk, hfk⟩ : ∃ fk, f k = fk := ⟨_, rfl⟩
        rw [hfk] at HKE HFL
        have HFKK := Lib.hid hfk
        clear HBA HK HK0 hLo hbi hfo hfk
        rcases least with _ | _
        · by_cases hlt2 : fo < fk
          · have HE : Hid (biN f false (k + 1) = k) := Lib.hid (by rw [HKE.out, show betB false fk fo = true from decide_eq_true hlt2]; rfl)
            go_wp2_with (first
              | (go_at_call 71; refine (diOpen_any (m : Int) s _ n _ cc _ (by omega) HD.out HCO.out (HIA.out.below HB.out)).mono ?_; rintro e w2 ⟨A2, c2, rfl, hL2, hb2⟩; rw [HOL.out]; have HI2 := Lib.hid (hL2.ints_n HOL.out); have HB2 := Lib.hid (show Below wr.heap.size wr w2 from hb2); clear hL2 hb2)
              | (go_at_call 73; refine (diLength_any _ _ _ _ _ HST.out HI2.out).mono ?_; rw [HFL.out]; rintro e wq ⟨rfl, hwq⟩; replace hwq := hwq.symm; subst hwq))
            have HBN := Lib.hid (HB.out.trans (HB2.out.mono HB.out.size))
            go_roundw
            case rel => exact ⟨k + 1, by omega, by go_num, .inr ⟨by omega, Ai, ci, rfl, by rw [HE.out, HFKK.out], by rw [HE.out, HCC.out]; exact HLI.out.below HBN.out (by omega)⟩, HRr.out.call HB2.out, HBN.out⟩
            case measure => simp [intOf]; omega
          · have HE : Hid (biN f false (k + 1) = bi) := Lib.hid (by rw [HKE.out, show betB false fk fo = false from decide_eq_false hlt2]; rfl)
            go_wp2_with (first
              | (go_at_call 71; refine (diOpen_any (m : Int) s _ n _ cc _ (by omega) HD.out HCO.out (HIA.out.below HB.out)).mono ?_; rintro e w2 ⟨A2, c2, rfl, hL2, hb2⟩; rw [HOL.out]; have HI2 := Lib.hid (hL2.ints_n HOL.out); have HB2 := Lib.hid (show Below wr.heap.size wr w2 from hb2); clear hL2 hb2)
              | (go_at_call 73; refine (diLength_any _ _ _ _ _ HST.out HI2.out).mono ?_; rw [HFL.out]; rintro e wq ⟨rfl, hwq⟩; replace hwq := hwq.symm; subst hwq))
            have HBN := Lib.hid (HB.out.trans (HB2.out.mono HB.out.size))
            go_roundw
            case rel => exact ⟨k + 1, by omega, by go_num, .inr ⟨by omega, Ao, co, rfl, by rw [HE.out, HFO.out], by rw [HE.out]; exact HLO.out.call HB2.out⟩, HRr.out.call HB2.out, HBN.out⟩
            case measure => simp [intOf]; omega
        · by_cases hlt2 : fk < fo
          · have HE : Hid (biN f true (k + 1) = k) := Lib.hid (by rw [HKE.out, show betB true fk fo = true from decide_eq_true hlt2]; rfl)
            go_wp2_with (first
              | (go_at_call 71; refine (diOpen_any (m : Int) s _ n _ cc _ (by omega) HD.out HCO.out (HIA.out.below HB.out)).mono ?_; rintro e w2 ⟨A2, c2, rfl, hL2, hb2⟩; rw [HOL.out]; have HI2 := Lib.hid (hL2.ints_n HOL.out); have HB2 := Lib.hid (show Below wr.heap.size wr w2 from hb2); clear hL2 hb2)
              | (go_at_call 73; refine (diLength_any _ _ _ _ _ HST.out HI2.out).mono ?_; rw [HFL.out]; rintro e wq ⟨rfl, hwq⟩; replace hwq := hwq.symm; subst hwq))
            have HBN := Lib.hid (HB.out.trans (HB2.out.mono HB.out.size))
            go_roundw
            case rel => exact ⟨k + 1, by omega, by go_num, .inr ⟨by omega, Ai, ci, rfl, by rw [HE.out, HFKK.out], by rw [HE.out, HCC.out]; exact HLI.out.below HBN.out (by omega)⟩, HRr.out.call HB2.out, HBN.out⟩
            case measure => simp [intOf]; omega
          · have HE : Hid (biN f true (k + 1) = bi) := Lib.hid (by rw [HKE.out, show betB true fk fo = false from decide_eq_false hlt2]; rfl)
            go_wp2_with (first
              | (go_at_call 71; refine (diOpen_any (m : Int) s _ n _ cc _ (by omega) HD.out HCO.out (HIA.out.below HB.out)).mono ?_; rintro e w2 ⟨A2, c2, rfl, hL2, hb2⟩; rw [HOL.out]; have HI2 := Lib.hid (hL2.ints_n HOL.out); have HB2 := Lib.hid (show Below wr.heap.size wr w2 from hb2); clear hL2 hb2)
              | (go_at_call 73; refine (diLength_any _ _ _ _ _ HST.out HI2.out).mono ?_; rw [HFL.out]; rintro e wq ⟨rfl, hwq⟩; replace hwq := hwq.symm; subst hwq))
            have HBN := Lib.hid (HB.out.trans (HB2.out.mono HB.out.size))
            go_roundw
            case rel => exact ⟨k + 1, by omega, by go_num, .inr ⟨by omega, Ao, co, rfl, by rw [HE.out, HFO.out], by rw [HE.out]; exact HLO.out.call HB2.out⟩, HRr.out.call HB2.out, HBN.out⟩
            case measure => simp [intOf]; omega
    · obtain rfl : k = N := by omega
      rcases HBA.out with ⟨hk0, _⟩ | ⟨hk0, Ao, co, rfl, rfl, hLo⟩
      · exact absurd hk0 (by omega)
      · have HLO := Lib.hid hLo
        have hbl : biN f least k < cs.length := by
          rw [HAL.out]
          obtain ⟨k', rfl⟩ : ∃ k', k = k' + 1 := ⟨k - 1, by omega⟩
          exact biN_lt f least k'
        have hlen := (HAO.out _ (getD_mem (d := []) hbl)).1
        clear HBA hLo
        go_wp2_with fail
        go_ret2
        rw [HCS.out, HFE.out]
        exact best2_mk rfl hlen (HLO.out.wide (Nat.le_refl _) HB.out.size) (HB1.out.trans (HB.out.mono hH))

/-- A code and its length handed back, and whether there is one. -/
def IntsL3 (w : World) (xs : List Int) (l : Int) (ok : Bool) (e : Ending) (w' : World) : Prop :=
  ∃ A c, e = .returned (.tuple #[.slice A xs.length c, .int .i64 l, .bool ok]) ∧ LI w' w.heap.size w'.heap.size A xs ∧ Below w.heap.size w w'

theorem IntsL3.li {w w' : World} {xs : List Int} {l : Int} {ok : Bool} {e : Ending} (h : IntsL3 w xs l ok e w') :
    ∃ A c, e = .returned (.tuple #[.slice A xs.length c, .int .i64 l, .bool ok]) ∧ LI w' w.heap.size w'.heap.size A xs ∧ Below w.heap.size w w' := h

theorem ints3_mk {w w' : World} {xs : List Int} {l : Int} {ok : Bool} {e : Ending} {A : Option Addr} {n c : Nat} (he : e = .returned (.tuple #[.slice A n c, .int .i64 l, .bool ok])) (hn : xs.length = n) (hL : LI w' w.heap.size w'.heap.size A xs) (hb : Below w.heap.size w w') : IntsL3 w xs l ok e w' :=
  ⟨A, c, by rw [he, hn], hL, hb⟩

theorem ints3_none {w w' : World} (hb : Below w.heap.size w w') : IntsL3 w [] 0 false (.returned (.tuple #[.slice none 0 0, .int .i64 0, .bool false])) w' :=
  ⟨none, 0, rfl, ⟨by decide, .inl rfl⟩, hb⟩

/-- The best code and its length, where it is told. -/
def beZ (least : Bool) (m s n : Int) : List Int := if fwB m s n then (alL m.toNat n.toNat).getD (biN (lensF m s n.toNat) least (m.toNat ^ n.toNat)) [] else []

def beF (least : Bool) (m s n : Int) : Int := if fwB m s n then lensF m s n.toNat (biN (lensF m s n.toNat) least (m.toNat ^ n.toNat)) else 0

theorem specShortest_any (m s n : Int) (w : World) (hm : -9223372036854775808 ≤ m ∧ m ≤ 9223372036854775807) :
    Calls Try.prog 35 #[.int .i64 m, .int .i64 s, .int .i64 n] w (IntsL3 w (beZ true m s n) (beF true m s n) (fwB m s n)) := by
  obtain ⟨u, hu⟩ : ∃ u, fwB m s n = u := ⟨_, rfl⟩
  have HU := Lib.hid hu
  rcases u with _ | _
  · have HZ : Hid (beZ true m s n = []) := Lib.hid (by unfold beZ; rw [hu]; rfl)
    have HF : Hid (beF true m s n = 0) := Lib.hid (by unfold beF; rw [hu]; rfl)
    go_enter Try.func35, Try.ntmps35
    go_wp2_with (go_at_call 76; refine (diFew_any _ _ _ _ hm).mono ?_; rw [HU.out]; rintro e wq ⟨rfl, hwq⟩; replace hwq := hwq.symm; subst hwq)
    go_ret3
    rw [HZ.out, HF.out, HU.out]
    exact ints3_none (Below.refl _ _)
  · obtain ⟨_, m2, m12, n1, n3⟩ := fw_yes hu
    obtain ⟨mn, rfl⟩ : ∃ mn : Nat, m = mn := ⟨m.toNat, by omega⟩
    obtain ⟨nn, rfl⟩ : ∃ nn : Nat, n = nn := ⟨n.toNat, by omega⟩
    have HZ : Hid (beZ true mn s nn = (alL mn nn).getD (biN (lensF mn s nn) true (mn ^ nn)) []) := Lib.hid (by unfold beZ; rw [if_pos hu, Int.toNat_natCast, Int.toNat_natCast])
    have HF : Hid (beF true mn s nn = lensF mn s nn (biN (lensF mn s nn) true (mn ^ nn))) := Lib.hid (by unfold beF; rw [if_pos hu, Int.toNat_natCast, Int.toNat_natCast])
    clear hu
    go_enter Try.func35, Try.ntmps35
    go_wp2_with (first | (go_at_call 76; refine (diFew_any _ _ _ _ (by omega)).mono ?_; rw [HU.out]; rintro e wq ⟨rfl, hwq⟩; replace hwq := hwq.symm; subst hwq) | (go_at_call 77; refine (diBest_any mn nn s true _ HU.out).mono ?_; rw [← HZ.out, ← HF.out]; rintro e w1 ⟨A1, c1, rfl, hL, hb⟩))
    go_ret3
    rw [HU.out]
    exact ints3_mk rfl rfl hL hb

theorem specLongest_any (m s n : Int) (w : World) (hm : -9223372036854775808 ≤ m ∧ m ≤ 9223372036854775807) :
    Calls Try.prog 37 #[.int .i64 m, .int .i64 s, .int .i64 n] w (IntsL3 w (beZ false m s n) (beF false m s n) (fwB m s n)) := by
  obtain ⟨u, hu⟩ : ∃ u, fwB m s n = u := ⟨_, rfl⟩
  have HU := Lib.hid hu
  rcases u with _ | _
  · have HZ : Hid (beZ false m s n = []) := Lib.hid (by unfold beZ; rw [hu]; rfl)
    have HF : Hid (beF false m s n = 0) := Lib.hid (by unfold beF; rw [hu]; rfl)
    go_enter Try.func37, Try.ntmps37
    go_wp2_with (go_at_call 76; refine (diFew_any _ _ _ _ hm).mono ?_; rw [HU.out]; rintro e wq ⟨rfl, hwq⟩; replace hwq := hwq.symm; subst hwq)
    go_ret3
    rw [HZ.out, HF.out, HU.out]
    exact ints3_none (Below.refl _ _)
  · obtain ⟨_, m2, m12, n1, n3⟩ := fw_yes hu
    obtain ⟨mn, rfl⟩ : ∃ mn : Nat, m = mn := ⟨m.toNat, by omega⟩
    obtain ⟨nn, rfl⟩ : ∃ nn : Nat, n = nn := ⟨n.toNat, by omega⟩
    have HZ : Hid (beZ false mn s nn = (alL mn nn).getD (biN (lensF mn s nn) false (mn ^ nn)) []) := Lib.hid (by unfold beZ; rw [if_pos hu, Int.toNat_natCast, Int.toNat_natCast])
    have HF : Hid (beF false mn s nn = lensF mn s nn (biN (lensF mn s nn) false (mn ^ nn))) := Lib.hid (by unfold beF; rw [if_pos hu, Int.toNat_natCast, Int.toNat_natCast])
    clear hu
    go_enter Try.func37, Try.ntmps37
    go_wp2_with (first | (go_at_call 76; refine (diFew_any _ _ _ _ (by omega)).mono ?_; rw [HU.out]; rintro e wq ⟨rfl, hwq⟩; replace hwq := hwq.symm; subst hwq) | (go_at_call 77; refine (diBest_any mn nn s false _ HU.out).mono ?_; rw [← HZ.out, ← HF.out]; rintro e w1 ⟨A1, c1, rfl, hL, hb⟩))
    go_ret3
    rw [HU.out]
    exact ints3_mk rfl rfl hL hb

end Go.Proofs.Ytfcljanechlmkaa
