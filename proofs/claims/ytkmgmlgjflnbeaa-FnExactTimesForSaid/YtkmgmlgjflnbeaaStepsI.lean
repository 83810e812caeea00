/- The code behind a knob turned so many times, as the program makes it. For at most a thousand times. -/
import Derived.Test.YtkmgmlgjflnbeaaGearsI
import Derived.Test.YtkmgmlgjflnbeaaKnobs2
namespace Go.Proofs.Ytkmgmlgjflnbeaa
open Go.ChangeShapes Go.WideShapes Go.ChangeAt Go.RowKit Go.Joins

/-- Gears and a code of them. -/
theorem haveCode_any (a b : Int) (s : ByteArray) (A : Option Addr) (n c : Nat) (ks : List (List Int)) (w : World) (hm : n + lensAt ks n ≤ 1048576) (hs : s.size ≤ maxLen) (hA : KnobsC w A n ks) :
    Calls Try.prog 32 #[.agg #[.int .i64 a, .int .i64 b, .slice A n c], .string s] w fun e w' => e = .returned (.bool (gcB a b ks s)) ∧ Below w.heap.size w w' := by
  have HS := Lib.hid hs
  have HA := Lib.hid (hA.knobs hm)
  have CU := Lib.hid (Cells.new (W := w) (cs := #[.int .i64 a, .int .i64 b, .slice A n c]) (t := 33) (g := w.heap.size) (n := 3) rfl rfl)
  have HB0 := Lib.hid (show Below w.heap.size w (w.alloc (.cells #[.int .i64 a, .int .i64 b, .slice A n c] 33)) from (Below.refl _ _).alloc (Nat.le_refl _) _)
  clear hA hs
  obtain ⟨v, HV⟩ : ∃ v, Hid (gearsB a b ks = v) := ⟨_, Lib.hid rfl⟩
  rcases v with _ | _
  · go_enter Try.func32, Try.ntmps32
    go_wp2_with (go_at_call 44; refine (areGears_any _ _ _ _ _ ks _ hm (HA.out.below HB0.out)).mono ?_; rw [HV.out]; rintro e w1 ⟨rfl, hb1⟩)
    go_ret
    exact ⟨ret_bool (by unfold gcB; rw [HV.out]; rfl), bel_call HB0.out hb1⟩
  · have HG := Lib.hid (gearsB_yes HV.out).1
    go_enter Try.func32, Try.ntmps32
    go_wp2_with (first
      | (go_at_call 44; refine (areGears_any _ _ _ _ _ ks _ hm (HA.out.below HB0.out)).mono ?_; rw [HV.out]; rintro e w1 ⟨rfl, hb1⟩
         have D1 := Lib.hid (CU.out.call hb1)
         have B1 := Lib.hid (bel_call HB0.out hb1)
         have l0 : w1.cell? ⟨w.heap.size, 0, none⟩ = some (.int .i64 a) := D1.out.cell (show 0 < 3 by omega)
         have l1 : w1.cell? ⟨w.heap.size, 1, none⟩ = some (.int .i64 b) := D1.out.cell (show 1 < 3 by omega)
         clear hb1)
      | (go_at_call 45; refine (hasCode_any _ _ _ _ HS.out).mono ?_; rw [HG.out]; rintro e w2 ⟨rfl, hb2⟩))
    go_ret
    exact ⟨ret_bool (by unfold gcB; rw [HV.out, Bool.true_and]), bel_call B1.out hb2⟩

/-- How far each wheel goes. -/
def stI (b m : Int) (xs : List Int) (j : Nat) : Int := if j < xs.length then (xs.getD j 0 * m).tmod b else 0

def stF (b m : Int) (xs : List Int) (j : Nat) : Value := .int .i64 (stI b m xs j)

def stepsV (b m : Int) (xs : List Int) : Value := .agg #[stF b m xs 0, stF b m xs 1, stF b m xs 2, stF b m xs 3, stF b m xs 4, stF b m xs 5]

def zF (_ : Nat) : Value := .int .i64 0

theorem cells_zero6 (W : World) (t : TypeId) {g : Nat} (hg : g = W.heap.size) : Cells (W.alloc (.cells #[.int .i64 0, .int .i64 0, .int .i64 0, .int .i64 0, .int .i64 0, .int .i64 0] t)) g 6 zF :=
  (Cells.new (n := 6) hg rfl).congr fun j hj => by
    have : j = 0 ∨ j = 1 ∨ j = 2 ∨ j = 3 ∨ j = 4 ∨ j = 5 := by omega
    rcases this with rfl | rfl | rfl | rfl | rfl | rfl <;> rfl

set_option maxHeartbeats 2000000 in
theorem stepsOf_any (a b m : Int) (A : Option Addr) (n c q : Nat) (ks : List (List Int)) (w : World) (hq : q < n) (hA : KnobsC w A n ks) (hg : goodB a b = true) (hk : knobB a b (ks.getD q []) = true) (hm : -1000 ≤ m ∧ m ≤ 1000) :
    Calls Try.prog 34 #[.agg #[.int .i64 a, .int .i64 b, .slice A n c], .int .i64 (q : Int), .int .i64 m] w fun e w' => e = .returned (stepsV b m (ks.getD q [])) ∧ Below w.heap.size w w' := by
  obtain ⟨a1, a6, b2, b10⟩ := good_yes hg
  obtain ⟨k1, k2⟩ := knobB_yes hk
  have K2 := Lib.hid k2
  obtain ⟨b1, off, rfl, hb1, hc⟩ := hA.at_.resolve_left (by omega)
  obtain ⟨gk, ck, o1', hC⟩ := hc q hq
  obtain ⟨W3, hW3⟩ : ∃ W3, ((w.alloc (.cells #[.int .i64 a, .int .i64 b, .slice (some ⟨b1, off, none⟩) n c] 33)).alloc (.cells #[.int .i64 0, .int .i64 0, .int .i64 0, .int .i64 0, .int .i64 0, .int .i64 0] 67)).alloc (.cells #[.int .i64 0, .int .i64 0, .int .i64 0, .int .i64 0, .int .i64 0, .int .i64 0] 67) = W3 := ⟨_, rfl⟩
  have HB3 := Lib.hid (show Below w.heap.size w W3 from by rw [← hW3]; exact (((Below.refl _ _).alloc (Nat.le_refl _) _).alloc (by simp) _).alloc (by simp; omega) _)
  have o1 : (((w.alloc (.cells #[.int .i64 a, .int .i64 b, .slice (some ⟨b1, off, none⟩) n c] 33)).alloc (.cells #[.int .i64 0, .int .i64 0, .int .i64 0, .int .i64 0, .int .i64 0, .int .i64 0] 67)).alloc (.cells #[.int .i64 0, .int .i64 0, .int .i64 0, .int .i64 0, .int .i64 0, .int .i64 0] 67)).cell? ⟨b1, off + q, none⟩ = some (.slice (some ⟨gk, 0, none⟩) (ks.getD q []).length ck) := by
    rw [hW3, HB3.out.cell (p := ⟨b1, off + q, none⟩) hb1]; exact o1'
  have HC := Lib.hid (hC.call HB3.out)
  obtain ⟨xs, hxs⟩ : ∃ xs, ks.getD q [] = xs := ⟨_, rfl⟩
  rw [hxs] at o1 HC K2 k1 ⊢
  obtain ⟨k, hxk⟩ : ∃ k, xs.length = k := ⟨_, rfl⟩
  have HXK := Lib.hid hxk
  rw [hxk] at o1 HC k1 K2
  have hl6 : k ≤ 6 := by omega
  clear k1
  have CU := Lib.hid (show Cells W3 w.heap.size 3 (fun j => (#[.int .i64 a, .int .i64 b, .slice (some ⟨b1, off, none⟩) n c] : Array Value).toList.getD j undef) from by rw [← hW3]; exact ((Cells.new rfl rfl).alloc _).alloc _)
  have CR := Lib.hid (show Cells W3 (w.heap.size + 1) 6 zF from by rw [← hW3]; exact Cells.alloc (cells_zero6 (w.alloc _) _ (by rw [World.size_alloc])) _)
  have CS := Lib.hid (show Cells W3 (w.heap.size + 1 + 1) 6 zF from by rw [← hW3]; exact cells_zero6 ((w.alloc _).alloc _) _ (by rw [World.size_alloc, World.size_alloc]))
  have hgk : gk < w.heap.size := hC.lt
  have HS := Lib.hid hW3
  clear hA hg hk k2 hc hxs hC o1' hxk hW3
  go_enter Try.func34, Try.ntmps34
  go_wp2_with fail
  clear o1
  go_loopw [16] (fun iv wr => ∃ i : Nat, i ≤ k ∧ iv = .int .i64 i ∧ Cells wr w.heap.size 3 (fun j => (#[.int .i64 a, .int .i64 b, .slice (some ⟨b1, off, none⟩) n c] : Array Value).toList.getD j undef) ∧ Cells wr (w.heap.size + 1) 6 zF ∧ Cells wr (w.heap.size + 1 + 1) 6 (fun j => if j < i then stF b m xs j else zF j) ∧ Cells wr gk k (digF xs) ∧ Below w.heap.size w wr) (fun iv _ => k - (intOf iv).toNat)
  case atStart => rw [HS.out]; exact ⟨0, by omega, rfl, CU.out, CR.out, CS.out.congr (fun j _ => by rw [if_neg (by omega)]), HC.out, HB3.out⟩
  case round =>
    clear HS CU CR CS HC HB3
    obtain ⟨i, hi, rfl, hU, hR, hS, hX, hB⟩ := hrel
    have HU := Lib.hid hU
    have HR := Lib.hid hR
    have HS := Lib.hid hS
    have HX := Lib.hid hX
    clear hU hR hS hX
    by_cases hlt : i < k
    · have o1 : wr.cell? ⟨gk, i, none⟩ = some (.int .i64 (xs.getD i 0)) := HX.out.cell hlt
      have l1 : wr.cell? ⟨w.heap.size, 1, none⟩ = some (.int .i64 b) := HU.out.cell (show 1 < 3 by omega)
      have s1 := HS.out.cell (show i < 6 by omega)
      have s2 := HS.out.frozen (show i < 6 by omega)
      rw [if_neg (Nat.lt_irrefl i)] at s1
      obtain ⟨x0, x1⟩ := K2.out i hlt
      obtain ⟨x, hx⟩ : ∃ x, xs.getD i 0 = x := ⟨_, rfl⟩
      have HV : Hid (stF b m xs i = .int .i64 ((x * m).tmod b)) := Lib.hid (by unfold stF stI; rw [if_pos (by rw [HXK.out]; exact hlt), hx])
      rw [hx] at o1 x0 x1
      have hmu : -9000 ≤ x * m ∧ x * m ≤ 9000 := by rw [Int.mul_comm]; exact mul_bd hm.1 hm.2 x0 (by omega)
      obtain ⟨t1, t2, _, _⟩ := tmod_bd b2 b10 (x * m)
      clear hx
      go_wp2_with fail
      go_roundw
      case rel =>
        refine ⟨i + 1, by omega, by go_num, HU.out.far (show w.heap.size + 1 + 1 ≠ w.heap.size by omega) _, HR.out.far (show w.heap.size + 1 + 1 ≠ w.heap.size + 1 by omega) _, ?_, HX.out.far (show w.heap.size + 1 + 1 ≠ gk by omega) _, hB.setCell (show w.heap.size ≤ w.heap.size + 1 + 1 by omega) _⟩
        refine (HS.out.set_ (show i < 6 by omega) _).congr (fun j _ => ?_)
        by_cases hj : j = i
        · subst hj
          rw [if_pos rfl, if_pos (by omega), HV.out]
        · rw [if_neg hj]
          by_cases h2 : j < i
          · rw [if_pos h2, if_pos (by omega)]
          · rw [if_neg h2, if_neg (by omega)]
      case measure => simp [intOf]; omega
    · obtain rfl : i = k := by omega
      have HF := Lib.hid (HS.out.congr (f' := stF b m xs) fun j hj => by
        by_cases h2 : j < i
        · rw [if_pos h2]
        · rw [if_neg h2]; unfold stF stI; rw [if_neg (by rw [HXK.out]; exact h2)]; rfl)
      have f0 : wr.cell? ⟨w.heap.size + 1 + 1, 0, none⟩ = some (.int .i64 (stI b m xs 0)) := HF.out.cell (show 0 < 6 by omega)
      have f1 : wr.cell? ⟨w.heap.size + 1 + 1, 1, none⟩ = some (.int .i64 (stI b m xs 1)) := HF.out.cell (show 1 < 6 by omega)
      have f2 : wr.cell? ⟨w.heap.size + 1 + 1, 2, none⟩ = some (.int .i64 (stI b m xs 2)) := HF.out.cell (show 2 < 6 by omega)
      have f3 : wr.cell? ⟨w.heap.size + 1 + 1, 3, none⟩ = some (.int .i64 (stI b m xs 3)) := HF.out.cell (show 3 < 6 by omega)
      have f4 : wr.cell? ⟨w.heap.size + 1 + 1, 4, none⟩ = some (.int .i64 (stI b m xs 4)) := HF.out.cell (show 4 < 6 by omega)
      have f5 : wr.cell? ⟨w.heap.size + 1 + 1, 5, none⟩ = some (.int .i64 (stI b m xs 5)) := HF.out.cell (show 5 < 6 by omega)
      have r0 : wr.cell? ⟨w.heap.size + 1, 0, none⟩ = some (.int .i64 0) := HR.out.cell (show 0 < 6 by omega)
      have z0 := HR.out.frozen (show 0 < 6 by omega)
      have r1 : wr.cell? ⟨w.heap.size + 1, 1, none⟩ = some (.int .i64 0) := HR.out.cell (show 1 < 6 by omega)
      have z1 := HR.out.frozen (show 1 < 6 by omega)
      have r2 : wr.cell? ⟨w.heap.size + 1, 2, none⟩ = some (.int .i64 0) := HR.out.cell (show 2 < 6 by omega)
      have z2 := HR.out.frozen (show 2 < 6 by omega)
      have r3 : wr.cell? ⟨w.heap.size + 1, 3, none⟩ = some (.int .i64 0) := HR.out.cell (show 3 < 6 by omega)
      have z3 := HR.out.frozen (show 3 < 6 by omega)
      have r4 : wr.cell? ⟨w.heap.size + 1, 4, none⟩ = some (.int .i64 0) := HR.out.cell (show 4 < 6 by omega)
      have z4 := HR.out.frozen (show 4 < 6 by omega)
      have r5 : wr.cell? ⟨w.heap.size + 1, 5, none⟩ = some (.int .i64 0) := HR.out.cell (show 5 < 6 by omega)
      have z5 := HR.out.frozen (show 5 < 6 by omega)
      go_wp2_with fail
      refine bodyPost_ret (v := stepsV b m xs) (by simp [results, Try.results34, go_sem, r0, r1, r2, r3, r4, r5, stepsV, stF]) rfl ⟨rfl, ?_⟩
      have hle : w.heap.size ≤ w.heap.size + 1 := Nat.le_succ _
      exact (((((hB.setCell hle _).setCell hle _).setCell hle _).setCell hle _).setCell hle _).setCell hle _

theorem stI_add {b m : Int} {xs : List Int} {j : Nat} (hj : j < xs.length) (x : Int) : addI b x (stI b m xs j) = addN b m x (xs.getD j 0) := by
  unfold addI addN stI
  rw [if_pos hj, Int.mul_comm m]
  have t := Int.tmod_add_mul_tdiv (xs.getD j 0 * m) b
  have e : x + xs.getD j 0 * m = (x + (xs.getD j 0 * m).tmod b) + b * (xs.getD j 0 * m).tdiv b := by omega
  rw [e, Int.add_mul_emod_self_left]

theorem stI_bd {b m : Int} {xs : List Int} {j : Nat} (h2 : 2 ≤ b) (h10 : b ≤ 10) : -10 ≤ stI b m xs j ∧ stI b m xs j ≤ 10 ∧ 0 ≤ stI b m xs j + b := by
  unfold stI
  split
  · obtain ⟨t1, t2, t3, _⟩ := tmod_bd h2 h10 (xs.getD j 0 * m)
    exact ⟨t1, t2, t3⟩
  · omega

set_option maxHeartbeats 2000000 in
theorem codeBehind_any (a b m : Int) (s : ByteArray) (A : Option Addr) (n c q : Nat) (ks : List (List Int)) (w : World) (hq : q < n) (hA : KnobsC w A n ks) (hs : askB a b s = true) (hk : knobB a b (ks.getD q []) = true) (hm : -1000 ≤ m ∧ m ≤ 1000) :
    Calls Try.prog 20 #[.agg #[.int .i64 a, .int .i64 b, .slice A n c], .string s, .int .i64 (q : Int), .int .i64 m] w fun e w' => e = .returned (.string (turnK b m s (ks.getD q []))) ∧ Below w.heap.size w w' := by
  have HAS := Lib.hid (asked hs)
  have HKB := Lib.hid hk
  have HA := Lib.hid hA
  have HM := Lib.hid hm
  have HXL := Lib.hid (show (ks.getD q []).length = s.size by have h1 := (asked hs).size; have h2 := (knobB_yes hk).1; omega)
  obtain ⟨n6, b2, b10, n1⟩ : s.size ≤ 6 ∧ 2 ≤ b ∧ b ≤ 10 ∧ 1 ≤ s.size := ⟨HAS.out.n6, HAS.out.b2, HAS.out.b10, HAS.out.n1⟩
  have CU := Lib.hid (Cells.new (W := w) (cs := #[.int .i64 a, .int .i64 b, .slice A n c]) (t := 33) (g := w.heap.size) (n := 3) rfl rfl)
  have HB0 := Lib.hid (show Below w.heap.size w (w.alloc (.cells #[.int .i64 a, .int .i64 b, .slice A n c] 33)) from (Below.refl _ _).alloc (Nat.le_refl _) _)
  have HD6 := Lib.hid (show ((dg s).zipWith (addN b m) (ks.getD q [])).length = s.size by rw [List.length_zipWith, dg_length, HXL.out, Nat.min_self])
  have HDD := Lib.hid (knob_digits b10 (zip_knob (m := m) hs hk))
  obtain ⟨xs, hxs⟩ : ∃ xs, ks.getD q [] = xs := ⟨_, rfl⟩
  have HXS := Lib.hid hxs
  rw [hxs] at HXL HD6 HDD ⊢
  clear hs hk hA hm hxs
  go_enter Try.func20, Try.ntmps20
  go_wp2_with (first
    | (go_at_call 34; refine (stepsOf_any _ _ _ _ _ _ _ ks _ hq (HA.out.below HB0.out) HAS.out.good HKB.out HM.out).mono ?_; rw [HXS.out]; rintro e w1 ⟨rfl, hb1⟩
       unfold stepsV stF)
    | (go_at_call 35; refine (digitsOf_any _ _ HAS.out.digits (by omega)).mono ?_; rintro e w2 ⟨g2, c2, rfl, hg2, hC2, hb2⟩))
  obtain ⟨Z, hZ⟩ : ∃ Z, (dg s).zipWith (addN b m) xs = Z := ⟨_, rfl⟩
  have HZ := Lib.hid hZ
  rw [hZ] at HD6 HDD
  have HZK : Hid (∀ k, k < s.size → Z.getD k 0 = addI b ((dg s).getD k 0) (stI b m xs k)) := Lib.hid fun k hk => by
    rw [stI_add (by rw [HXL.out]; exact hk), ← HZ.out]; exact zip_at _ _ _ (by rw [dg_length]; exact hk) (by rw [HXL.out]; exact hk)
  have D1 := CU.out.call hb1
  have CT := (show Cells (w1.alloc (.cells #[.int .i64 (stI b m xs 0), .int .i64 (stI b m xs 1), .int .i64 (stI b m xs 2), .int .i64 (stI b m xs 3), .int .i64 (stI b m xs 4), .int .i64 (stI b m xs 5)] 67)) w1.heap.size 6 (stF b m xs) from (Cells.new (n := 6) rfl rfl).congr fun j hj => by
    have : j = 0 ∨ j = 1 ∨ j = 2 ∨ j = 3 ∨ j = 4 ∨ j = 5 := by omega
    rcases this with rfl | rfl | rfl | rfl | rfl | rfl <;> rfl)
  have hz1 : w.heap.size < w1.heap.size := by have := hb1.size; rw [World.size_alloc] at this; omega
  obtain ⟨g1, hg1⟩ : ∃ g1, w1.heap.size = g1 := ⟨_, rfl⟩
  have hz2 : g1 < g2 := by rw [World.size_alloc] at hg2; omega
  have HU := Lib.hid ((D1.alloc _).call hb2)
  have HT := Lib.hid (CT.call hb2)
  have HC2 := Lib.hid hC2
  have HB := Lib.hid (bel_call ((bel_call HB0.out hb1).alloc (Nat.le_of_lt hz1) _) hb2)
  rw [hg1] at HT hz1 ⊢
  clear D1 CT hC2 hb1 hb2 hg2 CU HB0 hZ hg1 HA HKB
  go_loopw [21] (fun i wr => ∃ k : Nat, k ≤ s.size ∧ i = .int .i64 k ∧ Cells wr g2 s.size (fun j => if j < k then digF Z j else digF (dg s) j) ∧ Cells wr g1 6 (stF b m xs) ∧ Cells wr w.heap.size 3 (fun j => (#[.int .i64 a, .int .i64 b, .slice A n c] : Array Value).toList.getD j undef) ∧ Below w.heap.size w wr) (fun i _ => s.size - (intOf i).toNat)
  case atStart => exact ⟨0, by omega, rfl, HC2.out.congr (fun j _ => by rw [if_neg (by omega)]), HT.out, HU.out, HB.out⟩
  case round =>
    clear HC2 HT HU HB
    obtain ⟨k, hk, rfl, hC2, hT, hU, hB⟩ := hrel
    have H2 := Lib.hid hC2
    have HT := Lib.hid hT
    have HU := Lib.hid hU
    have HB := Lib.hid hB
    clear hC2 hT hU hB
    by_cases hlt : k < s.size
    · have o1 : wr.cell? ⟨g2, k, none⟩ = some (.int .i64 ((dg s).getD k 0)) := by rw [H2.out.cell hlt, if_neg (by omega)]; rfl
      have o2 : wr.cell? ⟨g1, k, none⟩ = some (.int .i64 (stI b m xs k)) := HT.out.cell (show k < 6 by omega)
      have l0 : wr.cell? ⟨w.heap.size, 0, none⟩ = some (.int .i64 a) := HU.out.cell (show 0 < 3 by omega)
      have l1 : wr.cell? ⟨w.heap.size, 1, none⟩ = some (.int .i64 b) := HU.out.cell (show 1 < 3 by omega)
      obtain ⟨d1, d2⟩ := HAS.out.low k hlt
      obtain ⟨d3, d4, d5⟩ := stI_bd (m := m) (xs := xs) (j := k) b2 b10
      have HV := Lib.hid (HZK.out k hlt)
      generalize (dg s).getD k 0 = x at o1 d1 d2 HV
      generalize stI b m xs k = y at o2 d3 d4 d5 HV
      go_wp2_with fail
      go_region_with (go_at_call 36; refine (sum_any _ _ _ _ _ (by omega) (by omega) (by omega) (by omega) (by omega)).mono ?_; rintro e w3 ⟨rfl, hb3⟩; have h3 := Lib.hid (H2.out.drew.call hb3); have p1 := h3.out.cell hlt; have p2 := h3.out.frozen hlt)
      all_goals
        have HB3 := Lib.hid (below_undrew hb3)
        clear hb3
        go_wp2
        go_roundw
        case rel =>
          refine ⟨k + 1, by omega, by go_num, ?_, (HT.out.call HB3.out).far (show g2 ≠ g1 by omega) _, (HU.out.call HB3.out).far (show g2 ≠ w.heap.size by omega) _, (bel_call HB.out HB3.out).setCell (show w.heap.size ≤ g2 by omega) _⟩
          refine ((H2.out.call HB3.out).set_ hlt _).congr (fun j _ => ?_)
          by_cases hj : j = k
          · subst hj
            rw [if_pos rfl, if_pos (by omega), digF, HV.out]
          · rw [if_neg hj]
            by_cases h2 : j < k
            · rw [if_pos h2, if_pos (by omega)]
            · rw [if_neg h2, if_neg (by omega)]
        case measure => simp [intOf]; omega
    · obtain rfl : k = s.size := by omega
      go_wp2_with (go_at_call 37; refine (codeOf_n _ _ Z HD6.out _ (H2.out.congr (fun j hj => by rw [if_pos hj])) HDD.out (by omega)).mono ?_; rintro e w3 ⟨rfl, hb3⟩)
      go_ret
      exact ⟨ret_str (by unfold turnK; rw [HZ.out]), bel_call HB.out hb3⟩

end Go.Proofs.Ytkmgmlgjflnbeaa
