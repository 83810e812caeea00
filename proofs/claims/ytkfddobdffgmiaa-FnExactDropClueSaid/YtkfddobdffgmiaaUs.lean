/- A puzzle with one clue dropped, as both programs answer. For puzzles in blocks of the law's own. -/
import Derived.Test.YtkfddobdffgmiaaUq
namespace Go.Proofs.Ytkfddobdffgmiaa
open Go.ChangeShapes Go.WideShapes Go.ChangeAt Go.RowKit Go.Joins

/-- A puzzle handed back with yes or no. -/
def PzOut (w : World) (a b : Int) (cs : List Clu) (ok : Bool) (e : Ending) (w' : World) : Prop :=
  ∃ A c, e = .returned (.tuple #[.agg #[.int .i64 a, .int .i64 b, .slice A cs.length c], .bool ok]) ∧ KC w' w.heap.size w'.heap.size A cs.length (cluF cs) ∧ Below w.heap.size w w'

theorem pz_none {w w' : World} (hb : Below w.heap.size w w') : PzOut w 0 0 [] false (.returned (.tuple #[.agg #[.int .i64 0, .int .i64 0, .slice none 0 0], .bool false])) w' := ⟨none, 0, rfl, .inl rfl, hb⟩

/-- Whether a clue can be dropped, and what is left. -/
def dcB (a b : Int) (cs : List Clu) (q : Int) : Bool := pzB a b cs && inB q 0 ((cs.length : Int) - 1)
def dcA (a b : Int) (cs : List Clu) (q x : Int) : Int := if dcB a b cs q then x else 0
def dcZ (a b : Int) (cs : List Clu) (q : Int) : List Clu := if dcB a b cs q then woC cs q.toNat else []

theorem dcB_no {a b : Int} {cs : List Clu} {q : Int} (h : pzB a b cs = false ∨ inB q 0 ((cs.length : Int) - 1) = false) : dcB a b cs q = false := by
  unfold dcB
  rcases h with h | h <;> rw [h] <;> simp

theorem dcZ_size (a b : Int) (cs : List Clu) (q : Int) : (dcZ a b cs q).length ≤ 6 := by
  unfold dcZ
  by_cases h : dcB a b cs q = true
  · rw [if_pos h]
    have h2 := h
    unfold dcB at h2
    rw [Bool.and_eq_true] at h2
    have h3 := (pzB_yes h2.1).2.1
    have h4 := inB_yes h2.2
    rw [woC_length rfl (by omega)]
    omega
  · rw [if_neg h]; simp

theorem eqKC_any (a b : Int) (A1 A2 : Option Addr) (c1 c2 lo1 hi1 lo2 hi2 : Nat) (cs : List Clu) (w : World) (hm : cs.length ≤ 1048576) (h1 : KC w lo1 hi1 A1 cs.length (cluF cs)) (h2 : KC w lo2 hi2 A2 cs.length (cluF cs)) :
    Calls Try.prog 26 #[.agg #[.int .i64 a, .int .i64 b, .slice A1 cs.length c1], .agg #[.int .i64 a, .int .i64 b, .slice A2 cs.length c2]] w fun e w' => e = .returned (.bool true) ∧ Below w.heap.size w w' :=
  eqPuzzle_any a b A1 A2 cs.length c1 c2 cs w hm h1.argC h2.argC

set_option maxRecDepth 100000 in
set_option maxHeartbeats 4000000 in
theorem specDropClue_any (a b : Int) (g n : Nat) (cs : List Clu) (q : Int) (w : World) (hn : n ≤ maxLen) (hA : ArgC w (some ⟨g, 0, none⟩) n cs) :
    Calls Try.prog 48 #[.agg #[.int .i64 a, .int .i64 b, .slice (some ⟨g, 0, none⟩) n n], .int .i64 q] w (PzOut w (dcA a b cs q a) (dcA a b cs q b) (dcZ a b cs q) (dcB a b cs q)) := by
  obtain ⟨W0, hW0⟩ : ∃ W0, (w.alloc (.cells #[.int .i64 a, .int .i64 b, .slice (some ⟨g, 0, none⟩) n n] 39)).alloc (.cells #[.int .i64 0, .int .i64 0, .slice none 0 0] 39) = W0 := ⟨_, rfl⟩
  have HU := Lib.hid (show Cells W0 w.heap.size 3 (g3F a b (.slice (some ⟨g, 0, none⟩) n n)) from hW0 ▸ (Cells.new (W := w) (n := 3) rfl rfl).alloc _)
  have HQ := Lib.hid (show Cells W0 (w.heap.size + 1) 3 (g3F 0 0 (.slice none 0 0)) from hW0 ▸ Cells.new (n := 3) (by simp) rfl)
  have HB0 := Lib.hid (show Below w.heap.size w W0 from hW0 ▸ (by (repeat (first | assumption | exact Below.refl _ _ | (refine Below.alloc ?_ (by first | omega | (simp; done) | (simp; omega)) _) | (refine Below.setCell ?_ (by first | omega | (simp; done) | (simp; omega)) _) | refine bel_drewN ?_ _ | refine bel_drew ?_ | (refine bel_call ?_ (by assumption))))))
  have l0_0 : W0.cell? ⟨w.heap.size, 0, none⟩ = some (.int .i64 a) := HU.out.cell (show 0 < 3 by omega)
  have l1_0 : W0.cell? ⟨w.heap.size, 1, none⟩ = some (.int .i64 b) := HU.out.cell (show 1 < 3 by omega)
  have l2_0 : W0.cell? ⟨w.heap.size, 2, none⟩ = some (.slice (some ⟨g, 0, none⟩) n n) := HU.out.cell (show 2 < 3 by omega)
  have z0 : w.heap.size + 2 ≤ W0.heap.size := by rw [← hW0]; simp
  have HN := Lib.hid hn
  have HA := Lib.hid hA
  have HL := Lib.hid hA.len
  have hwn : IntKind.i64.wrap ((n : Int) - 1) = (n : Int) - 1 := by rw [IntKind.wrap_i64]; unfold maxLen at hn; omega
  clear hn hA
  obtain ⟨p, hp⟩ : ∃ p, pzB a b cs = p := ⟨_, rfl⟩
  have HP := Lib.hid hp
  obtain ⟨r, hr⟩ : ∃ r, inB q 0 ((n : Int) - 1) = r := ⟨_, rfl⟩
  have HR := Lib.hid hr
  clear hp hr
  rcases p with _ | _
  · have HD : Hid (dcB a b cs q = false) := Lib.hid (dcB_no (.inl HP.out))
    go_enter Try.func48, Try.ntmps48
    go_wp2_with (first
      | (go_at_call 64; refine (pzGood_any _ _ _ _ _ cs _ HN.out (HA.out.below HB0.out)).mono ?_; rw [HP.out]; rintro e w1 ⟨rfl, hb1⟩
         have D1 := Lib.hid (HU.out.call hb1)
         have E1 := Lib.hid (HQ.out.call hb1)
         have HB1 := Lib.hid (bel_call HB0.out hb1)
         have z1 : w.heap.size + 2 ≤ w1.heap.size := Nat.le_trans z0 hb1.size
         have l0 : w1.cell? ⟨w.heap.size, 0, none⟩ = some (.int .i64 a) := D1.out.cell (show 0 < 3 by omega)
         have l1 : w1.cell? ⟨w.heap.size, 1, none⟩ = some (.int .i64 b) := D1.out.cell (show 1 < 3 by omega)
         have l2 : w1.cell? ⟨w.heap.size, 2, none⟩ = some (.slice (some ⟨g, 0, none⟩) n n) := D1.out.cell (show 2 < 3 by omega)
         have q0 : w1.cell? ⟨w.heap.size + 1, 0, none⟩ = some (.int .i64 0) := E1.out.cell (show 0 < 3 by omega)
         have q1 : w1.cell? ⟨w.heap.size + 1, 1, none⟩ = some (.int .i64 0) := E1.out.cell (show 1 < 3 by omega)
         have q2 : w1.cell? ⟨w.heap.size + 1, 2, none⟩ = some (.slice none 0 0) := E1.out.cell (show 2 < 3 by omega)
         have f0 := E1.out.frozen (show 0 < 3 by omega)
         have f1 := E1.out.frozen (show 1 < 3 by omega)
         have f2 := E1.out.frozen (show 2 < 3 by omega)
         clear hb1)
      | (go_at_call 81; refine (l1In_any _ _ _ _).mono ?_; rw [HR.out]; rintro e wq ⟨rfl, hwq⟩; have hwz := hwq.symm; clear hwq; subst hwz))
    refine bodyPost_ret (v := .tuple #[.agg #[.int .i64 0, .int .i64 0, .slice none 0 0], .bool false]) (by simp [results, Try.results48, go_sem, q0, q1, q2]) rfl ?_
    unfold dcA dcZ
    rw [HD.out]
    exact pz_none (((HB1.out.setCell (p := ⟨w.heap.size + 1, 0, none⟩) (by show w.heap.size ≤ w.heap.size + 1; omega) _).setCell (p := ⟨w.heap.size + 1, 1, none⟩) (by show w.heap.size ≤ w.heap.size + 1; omega) _).setCell (p := ⟨w.heap.size + 1, 2, none⟩) (by show w.heap.size ≤ w.heap.size + 1; omega) _)
  rcases r with _ | _
  · have HD : Hid (dcB a b cs q = false) := Lib.hid (dcB_no (.inr (by rw [HL.out]; exact HR.out)))
    go_enter Try.func48, Try.ntmps48
    go_wp2_with (first
      | (go_at_call 64; refine (pzGood_any _ _ _ _ _ cs _ HN.out (HA.out.below HB0.out)).mono ?_; rw [HP.out]; rintro e w1 ⟨rfl, hb1⟩
         have D1 := Lib.hid (HU.out.call hb1)
         have E1 := Lib.hid (HQ.out.call hb1)
         have HB1 := Lib.hid (bel_call HB0.out hb1)
         have z1 : w.heap.size + 2 ≤ w1.heap.size := Nat.le_trans z0 hb1.size
         have l0 : w1.cell? ⟨w.heap.size, 0, none⟩ = some (.int .i64 a) := D1.out.cell (show 0 < 3 by omega)
         have l1 : w1.cell? ⟨w.heap.size, 1, none⟩ = some (.int .i64 b) := D1.out.cell (show 1 < 3 by omega)
         have l2 : w1.cell? ⟨w.heap.size, 2, none⟩ = some (.slice (some ⟨g, 0, none⟩) n n) := D1.out.cell (show 2 < 3 by omega)
         have q0 : w1.cell? ⟨w.heap.size + 1, 0, none⟩ = some (.int .i64 0) := E1.out.cell (show 0 < 3 by omega)
         have q1 : w1.cell? ⟨w.heap.size + 1, 1, none⟩ = some (.int .i64 0) := E1.out.cell (show 1 < 3 by omega)
         have q2 : w1.cell? ⟨w.heap.size + 1, 2, none⟩ = some (.slice none 0 0) := E1.out.cell (show 2 < 3 by omega)
         have f0 := E1.out.frozen (show 0 < 3 by omega)
         have f1 := E1.out.frozen (show 1 < 3 by omega)
         have f2 := E1.out.frozen (show 2 < 3 by omega)
         clear hb1)
      | (go_at_call 81; refine (l1In_any _ _ _ _).mono ?_; rw [HR.out]; rintro e wq ⟨rfl, hwq⟩; have hwz := hwq.symm; clear hwq; subst hwz))
    refine bodyPost_ret (v := .tuple #[.agg #[.int .i64 0, .int .i64 0, .slice none 0 0], .bool false]) (by simp [results, Try.results48, go_sem, q0, q1, q2]) rfl ?_
    unfold dcA dcZ
    rw [HD.out]
    exact pz_none (((HB1.out.setCell (p := ⟨w.heap.size + 1, 0, none⟩) (by show w.heap.size ≤ w.heap.size + 1; omega) _).setCell (p := ⟨w.heap.size + 1, 1, none⟩) (by show w.heap.size ≤ w.heap.size + 1; omega) _).setCell (p := ⟨w.heap.size + 1, 2, none⟩) (by show w.heap.size ≤ w.heap.size + 1; omega) _)
  · have HD : Hid (dcB a b cs q = true) := Lib.hid (by unfold dcB; rw [HP.out, HL.out, HR.out]; rfl)
    have hq := inB_yes HR.out
    obtain ⟨k, rfl⟩ : ∃ k : Nat, q = k := ⟨q.toNat, by omega⟩
    have hk : k < n := by omega
    have h6 : n ≤ 6 := by have := (pzB_yes HP.out).2.1; rw [HL.out] at this; exact this
    have HZ : Hid (dcZ a b cs (k : Int) = woC cs k) := Lib.hid (by unfold dcZ; rw [HD.out]; rfl)
    have HWL := Lib.hid (woC_length HL.out hk)
    clear hq
    have hki : (k : Int) < (n : Int) := by omega
    go_enter Try.func48, Try.ntmps48
    go_wp2_with (first
      | (go_at_call 64; refine (pzGood_any _ _ _ _ _ cs _ HN.out (HA.out.below HB0.out)).mono ?_; rw [HP.out]; rintro e w1 ⟨rfl, hb1⟩
         have D1 := Lib.hid (HU.out.call hb1)
         have E1 := Lib.hid (HQ.out.call hb1)
         have HB1 := Lib.hid (bel_call HB0.out hb1)
         have z1 : w.heap.size + 2 ≤ w1.heap.size := Nat.le_trans z0 hb1.size
         have l0 : w1.cell? ⟨w.heap.size, 0, none⟩ = some (.int .i64 a) := D1.out.cell (show 0 < 3 by omega)
         have l1 : w1.cell? ⟨w.heap.size, 1, none⟩ = some (.int .i64 b) := D1.out.cell (show 1 < 3 by omega)
         have l2 : w1.cell? ⟨w.heap.size, 2, none⟩ = some (.slice (some ⟨g, 0, none⟩) n n) := D1.out.cell (show 2 < 3 by omega)
         have q0 : w1.cell? ⟨w.heap.size + 1, 0, none⟩ = some (.int .i64 0) := E1.out.cell (show 0 < 3 by omega)
         have q1 : w1.cell? ⟨w.heap.size + 1, 1, none⟩ = some (.int .i64 0) := E1.out.cell (show 1 < 3 by omega)
         have q2 : w1.cell? ⟨w.heap.size + 1, 2, none⟩ = some (.slice none 0 0) := E1.out.cell (show 2 < 3 by omega)
         have f0 := E1.out.frozen (show 0 < 3 by omega)
         have f1 := E1.out.frozen (show 1 < 3 by omega)
         have f2 := E1.out.frozen (show 2 < 3 by omega)
         clear hb1)
      | (go_at_call 81; refine (l1In_any _ _ _ _).mono ?_; rw [HR.out]; rintro e wq ⟨rfl, hwq⟩; have hwz := hwq.symm; clear hwq; subst hwz))
    go_region_law (first
      | (go_simp; go_at_call 79; refine (pzWithout_any _ _ _ cs _ h6 hk (HA.out.below (bel_drew HB1.out))).mono ?_; rintro e w5 ⟨v5, rfl, hO5, hb5'⟩
         have hb5 : Below w1.heap.size w1 w5 := below_undrew hb5'
         obtain ⟨A5, c5, rfl, hK5⟩ := own_kc hO5 HWL.out
         clear hO5 hb5'
         have K5 := Lib.hid (hK5.wide (lo' := w1.heap.size) (Nat.le_refl _) (Nat.le_refl _))
         have HB5 := Lib.hid (bel_call HB1.out hb5)
         have D5 := Lib.hid (D1.out.call hb5)
         have E5 := Lib.hid (E1.out.call hb5)
         have m0 : w5.cell? ⟨w.heap.size, 0, none⟩ = some (.int .i64 a) := D5.out.cell (show 0 < 3 by omega)
         have m1 : w5.cell? ⟨w.heap.size, 1, none⟩ = some (.int .i64 b) := D5.out.cell (show 1 < 3 by omega)
         have m2 : w5.cell? ⟨w.heap.size, 2, none⟩ = some (.slice (some ⟨g, 0, none⟩) n n) := D5.out.cell (show 2 < 3 by omega)
         have r0 : w5.cell? ⟨w.heap.size + 1, 0, none⟩ = some (.int .i64 0) := E5.out.cell (show 0 < 3 by omega)
         have r1 : w5.cell? ⟨w.heap.size + 1, 1, none⟩ = some (.int .i64 0) := E5.out.cell (show 1 < 3 by omega)
         have r2 : w5.cell? ⟨w.heap.size + 1, 2, none⟩ = some (.slice none 0 0) := E5.out.cell (show 2 < 3 by omega)
         have s0 := E5.out.frozen (show 0 < 3 by omega)
         have s1 := E5.out.frozen (show 1 < 3 by omega)
         have s2 := E5.out.frozen (show 2 < 3 by omega)
         clear hb5 hK5))
    all_goals
      have ZE := E5.out.lt
      go_wp2_with fail
      refine bodyPost_ret (v := .tuple #[.agg #[.int .i64 a, .int .i64 b, .slice A5 (n - 1) c5], .bool true]) (by simp [results, Try.results48, go_sem, r0, r1, r2]) rfl ?_
      rw [HZ.out]
      unfold dcA
      rw [HD.out]
      refine ⟨A5, c5, by rw [HWL.out]; rfl, ?_, ((HB5.out.setCell (p := ⟨w.heap.size + 1, 0, none⟩) (by show w.heap.size ≤ w.heap.size + 1; omega) _).setCell (p := ⟨w.heap.size + 1, 1, none⟩) (by show w.heap.size ≤ w.heap.size + 1; omega) _).setCell (p := ⟨w.heap.size + 1, 2, none⟩) (by show w.heap.size ≤ w.heap.size + 1; omega) _⟩
      rw [size_setCell, size_setCell, size_setCell, HWL.out]
      exact (((K5.out.far (p := ⟨w.heap.size + 1, 0, none⟩) (by show w.heap.size + 1 < _; omega) _).far (p := ⟨w.heap.size + 1, 1, none⟩) (by show w.heap.size + 1 < _; omega) _).far (p := ⟨w.heap.size + 1, 2, none⟩) (by show w.heap.size + 1 < _; omega) _).wide (by omega) (Nat.le_refl _)

set_option maxRecDepth 100000 in
set_option maxHeartbeats 4000000 in
theorem dropClue_any (a b : Int) (g n : Nat) (cs : List Clu) (q : Int) (w : World) (hn : n ≤ maxLen) (hA : ArgC w (some ⟨g, 0, none⟩) n cs) :
    Calls Try.prog 49 #[.agg #[.int .i64 a, .int .i64 b, .slice (some ⟨g, 0, none⟩) n n], .int .i64 q] w (PzOut w (dcA a b cs q a) (dcA a b cs q b) (dcZ a b cs q) (dcB a b cs q)) := by
  obtain ⟨W0, hW0⟩ : ∃ W0, (w.alloc (.cells #[.int .i64 a, .int .i64 b, .slice (some ⟨g, 0, none⟩) n n] 39)).alloc (.cells #[.int .i64 0, .int .i64 0, .slice none 0 0] 39) = W0 := ⟨_, rfl⟩
  have HU := Lib.hid (show Cells W0 w.heap.size 3 (g3F a b (.slice (some ⟨g, 0, none⟩) n n)) from hW0 ▸ (Cells.new (W := w) (n := 3) rfl rfl).alloc _)
  have HQ := Lib.hid (show Cells W0 (w.heap.size + 1) 3 (g3F 0 0 (.slice none 0 0)) from hW0 ▸ Cells.new (n := 3) (by simp) rfl)
  have HB0 := Lib.hid (show Below w.heap.size w W0 from hW0 ▸ (by (repeat (first | assumption | exact Below.refl _ _ | (refine Below.alloc ?_ (by first | omega | (simp; done) | (simp; omega)) _) | (refine Below.setCell ?_ (by first | omega | (simp; done) | (simp; omega)) _) | refine bel_drewN ?_ _ | refine bel_drew ?_ | (refine bel_call ?_ (by assumption))))))
  have l0_0 : W0.cell? ⟨w.heap.size, 0, none⟩ = some (.int .i64 a) := HU.out.cell (show 0 < 3 by omega)
  have l1_0 : W0.cell? ⟨w.heap.size, 1, none⟩ = some (.int .i64 b) := HU.out.cell (show 1 < 3 by omega)
  have l2_0 : W0.cell? ⟨w.heap.size, 2, none⟩ = some (.slice (some ⟨g, 0, none⟩) n n) := HU.out.cell (show 2 < 3 by omega)
  have z0 : w.heap.size + 2 ≤ W0.heap.size := by rw [← hW0]; simp
  have HN := Lib.hid hn
  have HA := Lib.hid hA
  have HL := Lib.hid hA.len
  have hwn : IntKind.i64.wrap ((n : Int) - 1) = (n : Int) - 1 := by rw [IntKind.wrap_i64]; unfold maxLen at hn; omega
  clear hn hA
  obtain ⟨p, hp⟩ : ∃ p, pzB a b cs = p := ⟨_, rfl⟩
  have HP := Lib.hid hp
  obtain ⟨r, hr⟩ : ∃ r, inB q 0 ((n : Int) - 1) = r := ⟨_, rfl⟩
  have HR := Lib.hid hr
  clear hp hr
  rcases p with _ | _
  · have HD : Hid (dcB a b cs q = false) := Lib.hid (dcB_no (.inl HP.out))
    go_enter Try.func49, Try.ntmps49
    go_wp2_with (first
      | (go_at_call 25; refine (isPuzzle_any _ _ _ _ _ cs _ HN.out (HA.out.below HB0.out)).mono ?_; rw [HP.out]; rintro e w1 ⟨rfl, hb1⟩
         have D1 := Lib.hid (HU.out.call hb1)
         have E1 := Lib.hid (HQ.out.call hb1)
         have HB1 := Lib.hid (bel_call HB0.out hb1)
         have z1 : w.heap.size + 2 ≤ w1.heap.size := Nat.le_trans z0 hb1.size
         have l0 : w1.cell? ⟨w.heap.size, 0, none⟩ = some (.int .i64 a) := D1.out.cell (show 0 < 3 by omega)
         have l1 : w1.cell? ⟨w.heap.size, 1, none⟩ = some (.int .i64 b) := D1.out.cell (show 1 < 3 by omega)
         have l2 : w1.cell? ⟨w.heap.size, 2, none⟩ = some (.slice (some ⟨g, 0, none⟩) n n) := D1.out.cell (show 2 < 3 by omega)
         have q0 : w1.cell? ⟨w.heap.size + 1, 0, none⟩ = some (.int .i64 0) := E1.out.cell (show 0 < 3 by omega)
         have q1 : w1.cell? ⟨w.heap.size + 1, 1, none⟩ = some (.int .i64 0) := E1.out.cell (show 1 < 3 by omega)
         have q2 : w1.cell? ⟨w.heap.size + 1, 2, none⟩ = some (.slice none 0 0) := E1.out.cell (show 2 < 3 by omega)
         have f0 := E1.out.frozen (show 0 < 3 by omega)
         have f1 := E1.out.frozen (show 1 < 3 by omega)
         have f2 := E1.out.frozen (show 2 < 3 by omega)
         clear hb1))
    refine bodyPost_ret (v := .tuple #[.agg #[.int .i64 0, .int .i64 0, .slice none 0 0], .bool false]) (by simp [results, Try.results49, go_sem, q0, q1, q2]) rfl ?_
    unfold dcA dcZ
    rw [HD.out]
    exact pz_none (((HB1.out.setCell (p := ⟨w.heap.size + 1, 0, none⟩) (by show w.heap.size ≤ w.heap.size + 1; omega) _).setCell (p := ⟨w.heap.size + 1, 1, none⟩) (by show w.heap.size ≤ w.heap.size + 1; omega) _).setCell (p := ⟨w.heap.size + 1, 2, none⟩) (by show w.heap.size ≤ w.heap.size + 1; omega) _)
  rcases r with _ | _
  · have HD : Hid (dcB a b cs q = false) := Lib.hid (dcB_no (.inr (by rw [HL.out]; exact HR.out)))
    have hno := inB_no HR.out
    by_cases hq0 : q < 0
    · go_enter Try.func49, Try.ntmps49
      go_wp2_with (first
      | (go_at_call 25; refine (isPuzzle_any _ _ _ _ _ cs _ HN.out (HA.out.below HB0.out)).mono ?_; rw [HP.out]; rintro e w1 ⟨rfl, hb1⟩
         have D1 := Lib.hid (HU.out.call hb1)
         have E1 := Lib.hid (HQ.out.call hb1)
         have HB1 := Lib.hid (bel_call HB0.out hb1)
         have z1 : w.heap.size + 2 ≤ w1.heap.size := Nat.le_trans z0 hb1.size
         have l0 : w1.cell? ⟨w.heap.size, 0, none⟩ = some (.int .i64 a) := D1.out.cell (show 0 < 3 by omega)
         have l1 : w1.cell? ⟨w.heap.size, 1, none⟩ = some (.int .i64 b) := D1.out.cell (show 1 < 3 by omega)
         have l2 : w1.cell? ⟨w.heap.size, 2, none⟩ = some (.slice (some ⟨g, 0, none⟩) n n) := D1.out.cell (show 2 < 3 by omega)
         have q0 : w1.cell? ⟨w.heap.size + 1, 0, none⟩ = some (.int .i64 0) := E1.out.cell (show 0 < 3 by omega)
         have q1 : w1.cell? ⟨w.heap.size + 1, 1, none⟩ = some (.int .i64 0) := E1.out.cell (show 1 < 3 by omega)
         have q2 : w1.cell? ⟨w.heap.size + 1, 2, none⟩ = some (.slice none 0 0) := E1.out.cell (show 2 < 3 by omega)
         have f0 := E1.out.frozen (show 0 < 3 by omega)
         have f1 := E1.out.frozen (show 1 < 3 by omega)
         have f2 := E1.out.frozen (show 2 < 3 by omega)
         clear hb1))
      refine bodyPost_ret (v := .tuple #[.agg #[.int .i64 0, .int .i64 0, .slice none 0 0], .bool false]) (by simp [results, Try.results49, go_sem, q0, q1, q2]) rfl ?_
      unfold dcA dcZ
      rw [HD.out]
      exact pz_none (((HB1.out.setCell (p := ⟨w.heap.size + 1, 0, none⟩) (by show w.heap.size ≤ w.heap.size + 1; omega) _).setCell (p := ⟨w.heap.size + 1, 1, none⟩) (by show w.heap.size ≤ w.heap.size + 1; omega) _).setCell (p := ⟨w.heap.size + 1, 2, none⟩) (by show w.heap.size ≤ w.heap.size + 1; omega) _)
    · have hqn : (n : Int) ≤ q := by omega
      go_enter Try.func49, Try.ntmps49
      go_wp2_with (first
      | (go_at_call 25; refine (isPuzzle_any _ _ _ _ _ cs _ HN.out (HA.out.below HB0.out)).mono ?_; rw [HP.out]; rintro e w1 ⟨rfl, hb1⟩
         have D1 := Lib.hid (HU.out.call hb1)
         have E1 := Lib.hid (HQ.out.call hb1)
         have HB1 := Lib.hid (bel_call HB0.out hb1)
         have z1 : w.heap.size + 2 ≤ w1.heap.size := Nat.le_trans z0 hb1.size
         have l0 : w1.cell? ⟨w.heap.size, 0, none⟩ = some (.int .i64 a) := D1.out.cell (show 0 < 3 by omega)
         have l1 : w1.cell? ⟨w.heap.size, 1, none⟩ = some (.int .i64 b) := D1.out.cell (show 1 < 3 by omega)
         have l2 : w1.cell? ⟨w.heap.size, 2, none⟩ = some (.slice (some ⟨g, 0, none⟩) n n) := D1.out.cell (show 2 < 3 by omega)
         have q0 : w1.cell? ⟨w.heap.size + 1, 0, none⟩ = some (.int .i64 0) := E1.out.cell (show 0 < 3 by omega)
         have q1 : w1.cell? ⟨w.heap.size + 1, 1, none⟩ = some (.int .i64 0) := E1.out.cell (show 1 < 3 by omega)
         have q2 : w1.cell? ⟨w.heap.size + 1, 2, none⟩ = some (.slice none 0 0) := E1.out.cell (show 2 < 3 by omega)
         have f0 := E1.out.frozen (show 0 < 3 by omega)
         have f1 := E1.out.frozen (show 1 < 3 by omega)
         have f2 := E1.out.frozen (show 2 < 3 by omega)
         clear hb1))
      refine bodyPost_ret (v := .tuple #[.agg #[.int .i64 0, .int .i64 0, .slice none 0 0], .bool false]) (by simp [results, Try.results49, go_sem, q0, q1, q2]) rfl ?_
      unfold dcA dcZ
      rw [HD.out]
      exact pz_none (((HB1.out.setCell (p := ⟨w.heap.size + 1, 0, none⟩) (by show w.heap.size ≤ w.heap.size + 1; omega) _).setCell (p := ⟨w.heap.size + 1, 1, none⟩) (by show w.heap.size ≤ w.heap.size + 1; omega) _).setCell (p := ⟨w.heap.size + 1, 2, none⟩) (by show w.heap.size ≤ w.heap.size + 1; omega) _)
  · have HD : Hid (dcB a b cs q = true) := Lib.hid (by unfold dcB; rw [HP.out, HL.out, HR.out]; rfl)
    have hq := inB_yes HR.out
    obtain ⟨k, rfl⟩ : ∃ k : Nat, q = k := ⟨q.toNat, by omega⟩
    have hk : k < n := by omega
    have h6 : n ≤ 6 := by have := (pzB_yes HP.out).2.1; rw [HL.out] at this; exact this
    have HZ : Hid (dcZ a b cs (k : Int) = woC cs k) := Lib.hid (by unfold dcZ; rw [HD.out]; rfl)
    have HWL := Lib.hid (woC_length HL.out hk)
    clear hq
    have hki : (k : Int) < (n : Int) := by omega
    go_enter Try.func49, Try.ntmps49
    go_wp2_with (first
      | (go_at_call 25; refine (isPuzzle_any _ _ _ _ _ cs _ HN.out (HA.out.below HB0.out)).mono ?_; rw [HP.out]; rintro e w1 ⟨rfl, hb1⟩
         have D1 := Lib.hid (HU.out.call hb1)
         have E1 := Lib.hid (HQ.out.call hb1)
         have HB1 := Lib.hid (bel_call HB0.out hb1)
         have z1 : w.heap.size + 2 ≤ w1.heap.size := Nat.le_trans z0 hb1.size
         have l0 : w1.cell? ⟨w.heap.size, 0, none⟩ = some (.int .i64 a) := D1.out.cell (show 0 < 3 by omega)
         have l1 : w1.cell? ⟨w.heap.size, 1, none⟩ = some (.int .i64 b) := D1.out.cell (show 1 < 3 by omega)
         have l2 : w1.cell? ⟨w.heap.size, 2, none⟩ = some (.slice (some ⟨g, 0, none⟩) n n) := D1.out.cell (show 2 < 3 by omega)
         have q0 : w1.cell? ⟨w.heap.size + 1, 0, none⟩ = some (.int .i64 0) := E1.out.cell (show 0 < 3 by omega)
         have q1 : w1.cell? ⟨w.heap.size + 1, 1, none⟩ = some (.int .i64 0) := E1.out.cell (show 1 < 3 by omega)
         have q2 : w1.cell? ⟨w.heap.size + 1, 2, none⟩ = some (.slice none 0 0) := E1.out.cell (show 2 < 3 by omega)
         have f0 := E1.out.frozen (show 0 < 3 by omega)
         have f1 := E1.out.frozen (show 1 < 3 by omega)
         have f2 := E1.out.frozen (show 2 < 3 by omega)
         clear hb1)
      | (go_at_call 80; refine (without_any _ _ _ _ _ cs _ h6 hk (HA.out.below HB1.out)).mono ?_; rintro e w5 ⟨A5, c5, rfl, hK5, hb5⟩
         have K5 := Lib.hid (hK5.wide (lo' := w1.heap.size) (Nat.le_refl _) (Nat.le_refl _))
         have HB5 := Lib.hid (bel_call HB1.out hb5)
         have D5 := Lib.hid (D1.out.call hb5)
         have E5 := Lib.hid (E1.out.call hb5)
         have m0 : w5.cell? ⟨w.heap.size, 0, none⟩ = some (.int .i64 a) := D5.out.cell (show 0 < 3 by omega)
         have m1 : w5.cell? ⟨w.heap.size, 1, none⟩ = some (.int .i64 b) := D5.out.cell (show 1 < 3 by omega)
         have m2 : w5.cell? ⟨w.heap.size, 2, none⟩ = some (.slice (some ⟨g, 0, none⟩) n n) := D5.out.cell (show 2 < 3 by omega)
         have r0 : w5.cell? ⟨w.heap.size + 1, 0, none⟩ = some (.int .i64 0) := E5.out.cell (show 0 < 3 by omega)
         have r1 : w5.cell? ⟨w.heap.size + 1, 1, none⟩ = some (.int .i64 0) := E5.out.cell (show 1 < 3 by omega)
         have r2 : w5.cell? ⟨w.heap.size + 1, 2, none⟩ = some (.slice none 0 0) := E5.out.cell (show 2 < 3 by omega)
         have s0 := E5.out.frozen (show 0 < 3 by omega)
         have s1 := E5.out.frozen (show 1 < 3 by omega)
         have s2 := E5.out.frozen (show 2 < 3 by omega)
         clear hb5 hK5))
    all_goals
      have ZE := E5.out.lt
      refine bodyPost_ret (v := .tuple #[.agg #[.int .i64 a, .int .i64 b, .slice A5 (n - 1) c5], .bool true]) (by simp [results, Try.results49, go_sem, r0, r1, r2]) rfl ?_
      rw [HZ.out]
      unfold dcA
      rw [HD.out]
      refine ⟨A5, c5, by rw [HWL.out]; rfl, ?_, ((HB5.out.setCell (p := ⟨w.heap.size + 1, 0, none⟩) (by show w.heap.size ≤ w.heap.size + 1; omega) _).setCell (p := ⟨w.heap.size + 1, 1, none⟩) (by show w.heap.size ≤ w.heap.size + 1; omega) _).setCell (p := ⟨w.heap.size + 1, 2, none⟩) (by show w.heap.size ≤ w.heap.size + 1; omega) _⟩
      rw [size_setCell, size_setCell, size_setCell, HWL.out]
      exact (((K5.out.far (p := ⟨w.heap.size + 1, 0, none⟩) (by show w.heap.size + 1 < _; omega) _).far (p := ⟨w.heap.size + 1, 1, none⟩) (by show w.heap.size + 1 < _; omega) _).far (p := ⟨w.heap.size + 1, 2, none⟩) (by show w.heap.size + 1 < _; omega) _).wide (by omega) (Nat.le_refl _)

end Go.Proofs.Ytkfddobdffgmiaa
