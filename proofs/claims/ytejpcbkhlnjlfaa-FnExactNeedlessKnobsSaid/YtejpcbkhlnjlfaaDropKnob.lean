/- Gears without a knob and with one more, as the model tells them. For at most 1048576 numbers. -/
import Derived.Test.YtejpcbkhlnjlfaaWithout2
namespace Go.Proofs.Ytejpcbkhlnjlfaa
open Go.ChangeShapes Go.WideShapes Go.ChangeAt Go.RowKit Go.Joins

/-- Gears handed back, and whether there are some. -/
def GearsOut (w : World) (a b : Int) (ks : List (List Int)) (ok : Bool) (e : Ending) (w' : World) : Prop :=
  ∃ v B G Cp, e = .returned (.tuple #[.agg #[.int .i64 a, .int .i64 b, v], .bool ok]) ∧ w.heap.size ≤ B ∧ RowG w' B v ks G Cp ∧ Below w.heap.size w w'

theorem rowG_nil (w : World) (B : Nat) : RowG w B (.slice none 0 0) [] (fun _ => 0) (fun _ => 0) :=
  ⟨World.ownsRow_nil _ _ _ _, fun i hi => by simp at hi, fun i j hi => by simp at hi⟩

theorem gears_none {w w' : World} (hb : Below w.heap.size w w') : GearsOut w 0 0 [] false (.returned (.tuple #[.agg #[.int .i64 0, .int .i64 0, .slice none 0 0], .bool false])) w' :=
  ⟨_, w.heap.size, _, _, rfl, Nat.le_refl _, rowG_nil _ _, hb⟩

theorem RowG.call {w w' : World} {B : Nat} {v : Value} {ks : List (List Int)} {G Cp : Nat → Nat} (h : RowG w B v ks G Cp) (hb : Below w.heap.size w w') : RowG w' B v ks G Cp :=
  ⟨own_kept h.own hb, fun i hi => ⟨(h.row i hi).1, (h.row i hi).2.1, (h.row i hi).2.2.call hb⟩, h.apart⟩

theorem RowG.slice {w : World} {B : Nat} {v : Value} {ks : List (List Int)} {G Cp : Nat → Nat} (h : RowG w B v ks G Cp) : ∃ A c, v = .slice A ks.length c := by
  rcases h.own.2 with ⟨e, h0⟩ | ⟨g, cap, _, e, _⟩
  · exact ⟨none, 0, by rw [e, h0]⟩
  · exact ⟨_, cap, e⟩

def dkB (a b : Int) (ks : List (List Int)) (q : Int) : Bool := gearsB a b ks && inB q 0 ((ks.length : Int) - 1) && !decide (ks.length = 1)

def dkA (a b : Int) (ks : List (List Int)) (q x : Int) : Int := if dkB a b ks q then x else 0

def dkZ (a b : Int) (ks : List (List Int)) (q : Int) : List (List Int) := if dkB a b ks q then woAt ks q ks.length else []

set_option maxHeartbeats 2000000 in
theorem specDropKnob_any (a b q : Int) (A : Option Addr) (n c : Nat) (ks : List (List Int)) (w : World) (hm : n + lensAt ks n ≤ 1048576) (hA : KnobsA w A n ks) :
    Calls Try.prog 57 #[.agg #[.int .i64 a, .int .i64 b, .slice A n c], .int .i64 q] w (GearsOut w (dkA a b ks q a) (dkA a b ks q b) (dkZ a b ks q) (dkB a b ks q)) := by
  have HA := Lib.hid hA
  have HN := Lib.hid hA.len
  have hn2 : n ≤ 1048576 := by omega
  have CU : Cells ((w.alloc (.cells #[.int .i64 a, .int .i64 b, .slice A n c] 31)).alloc (.cells #[.int .i64 0, .int .i64 0, .slice none 0 0] 31)) w.heap.size 3 (gF a b (.slice A n c)) := (Cells.new (W := w) (n := 3) rfl rfl).alloc _
  have CQ : Cells ((w.alloc (.cells #[.int .i64 a, .int .i64 b, .slice A n c] 31)).alloc (.cells #[.int .i64 0, .int .i64 0, .slice none 0 0] 31)) (w.heap.size + 1) 3 (gF 0 0 (.slice none 0 0)) := Cells.new (n := 3) (by simp) rfl
  have hB0 : Below w.heap.size w ((w.alloc (.cells #[.int .i64 a, .int .i64 b, .slice A n c] 31)).alloc (.cells #[.int .i64 0, .int .i64 0, .slice none 0 0] 31)) := by (repeat (first | assumption | exact Below.refl _ _ | (refine Below.alloc ?_ (by first | omega | (simp; done) | (simp; omega)) _) | (refine Below.setCell ?_ (by first | omega | (simp; done) | (simp; omega)) _) | refine bel_drewN ?_ _ | refine bel_drew ?_ | (refine bel_call ?_ (by assumption))))
  have HU := Lib.hid CU
  have HQ := Lib.hid CQ
  have HB0 := Lib.hid hB0
  clear hA CU CQ hB0
  by_cases hg : gearsB a b ks = true
  · have HG := Lib.hid hg
    clear hg
    obtain ⟨u, HU2⟩ : ∃ u, Hid (inB q 0 ((n : Int) - 1) = u) := ⟨_, Lib.hid rfl⟩
    rcases u with _ | _
    · have HD : Hid (dkB a b ks q = false) := Lib.hid (by unfold dkB; rw [HN.out, HU2.out, Bool.and_false, Bool.false_and])
      go_enter Try.func57, Try.ntmps57
      go_wp2_with (first
        | (go_at_call 62; refine (joGood_any _ _ _ _ _ ks _ hm (HA.out.below HB0.out)).mono ?_; rw [HG.out]; rintro e w1 ⟨rfl, hb1⟩
           have D1 := Lib.hid (HU.out.call hb1)
           have E1 := Lib.hid (HQ.out.call hb1)
           have B1 := Lib.hid (bel_call HB0.out hb1)
           have l2 : w1.cell? ⟨w.heap.size, 2, none⟩ = some (.slice A n c) := D1.out.cell (show 2 < 3 by omega)
           have q0 : w1.cell? ⟨w.heap.size + 1, 0, none⟩ = some (.int .i64 0) := E1.out.cell (show 0 < 3 by omega)
           have q1 : w1.cell? ⟨w.heap.size + 1, 1, none⟩ = some (.int .i64 0) := E1.out.cell (show 1 < 3 by omega)
           have q2 : w1.cell? ⟨w.heap.size + 1, 2, none⟩ = some (.slice none 0 0) := E1.out.cell (show 2 < 3 by omega)
           have f0 := E1.out.frozen (show 0 < 3 by omega)
           have f1 := E1.out.frozen (show 1 < 3 by omega)
           have f2 := E1.out.frozen (show 2 < 3 by omega))
        | (go_at_call 74; refine (l1In_any _ _ _ _).mono ?_; rw [HU2.out]; rintro e w2 ⟨rfl, rfl⟩))
      refine bodyPost_ret (v := .tuple #[.agg #[.int .i64 0, .int .i64 0, .slice none 0 0], .bool false]) (by simp [results, Try.results57, go_sem, q0, q1, q2]) rfl ?_
      unfold dkA dkZ
      rw [HD.out]
      exact gears_none (((B1.out.setCell (p := ⟨w.heap.size + 1, 0, none⟩) (by show w.heap.size ≤ w.heap.size + 1; omega) _).setCell (p := ⟨w.heap.size + 1, 1, none⟩) (by show w.heap.size ≤ w.heap.size + 1; omega) _).setCell (p := ⟨w.heap.size + 1, 2, none⟩) (by show w.heap.size ≤ w.heap.size + 1; omega) _)
    · by_cases h1 : n = 1
      · have h1' : ((n : Int) == 1) = true := by simpa using (show (n : Int) = 1 by omega)
        have HD : Hid (dkB a b ks q = false) := Lib.hid (by unfold dkB; rw [HN.out, decide_eq_true h1]; simp)
        clear h1
        go_enter Try.func57, Try.ntmps57
        go_wp2_with (first
          | (go_at_call 62; refine (joGood_any _ _ _ _ _ ks _ hm (HA.out.below HB0.out)).mono ?_; rw [HG.out]; rintro e w1 ⟨rfl, hb1⟩
             have D1 := Lib.hid (HU.out.call hb1)
             have E1 := Lib.hid (HQ.out.call hb1)
             have B1 := Lib.hid (bel_call HB0.out hb1)
             have l2 : w1.cell? ⟨w.heap.size, 2, none⟩ = some (.slice A n c) := D1.out.cell (show 2 < 3 by omega)
             have q0 : w1.cell? ⟨w.heap.size + 1, 0, none⟩ = some (.int .i64 0) := E1.out.cell (show 0 < 3 by omega)
             have q1 : w1.cell? ⟨w.heap.size + 1, 1, none⟩ = some (.int .i64 0) := E1.out.cell (show 1 < 3 by omega)
             have q2 : w1.cell? ⟨w.heap.size + 1, 2, none⟩ = some (.slice none 0 0) := E1.out.cell (show 2 < 3 by omega)
             have f0 := E1.out.frozen (show 0 < 3 by omega)
             have f1 := E1.out.frozen (show 1 < 3 by omega)
             have f2 := E1.out.frozen (show 2 < 3 by omega))
          | (go_at_call 74; refine (l1In_any _ _ _ _).mono ?_; rw [HU2.out]; rintro e w2 ⟨rfl, rfl⟩))
        refine bodyPost_ret (v := .tuple #[.agg #[.int .i64 0, .int .i64 0, .slice none 0 0], .bool false]) (by simp [results, Try.results57, go_sem, q0, q1, q2]) rfl ?_
        unfold dkA dkZ
        rw [HD.out]
        exact gears_none (((B1.out.setCell (p := ⟨w.heap.size + 1, 0, none⟩) (by show w.heap.size ≤ w.heap.size + 1; omega) _).setCell (p := ⟨w.heap.size + 1, 1, none⟩) (by show w.heap.size ≤ w.heap.size + 1; omega) _).setCell (p := ⟨w.heap.size + 1, 2, none⟩) (by show w.heap.size ≤ w.heap.size + 1; omega) _)
      · have h1' : ((n : Int) == 1) = false := by simpa using (show ¬ (n : Int) = 1 by omega)
        have HD : Hid (dkB a b ks q = true) := Lib.hid (by unfold dkB; rw [HN.out, HU2.out, HG.out, decide_eq_false h1]; rfl)
        go_enter Try.func57, Try.ntmps57
        go_wp2_with (first
          | (go_at_call 62; refine (joGood_any _ _ _ _ _ ks _ hm (HA.out.below HB0.out)).mono ?_; rw [HG.out]; rintro e w1 ⟨rfl, hb1⟩
             have D1 := Lib.hid (HU.out.call hb1)
             have E1 := Lib.hid (HQ.out.call hb1)
             have B1 := Lib.hid (bel_call HB0.out hb1)
             have l0 : w1.cell? ⟨w.heap.size, 0, none⟩ = some (.int .i64 a) := D1.out.cell (show 0 < 3 by omega)
             have l1 : w1.cell? ⟨w.heap.size, 1, none⟩ = some (.int .i64 b) := D1.out.cell (show 1 < 3 by omega)
             have l2 : w1.cell? ⟨w.heap.size, 2, none⟩ = some (.slice A n c) := D1.out.cell (show 2 < 3 by omega)
             have q0 : w1.cell? ⟨w.heap.size + 1, 0, none⟩ = some (.int .i64 0) := E1.out.cell (show 0 < 3 by omega)
             have q1 : w1.cell? ⟨w.heap.size + 1, 1, none⟩ = some (.int .i64 0) := E1.out.cell (show 1 < 3 by omega)
             have q2 : w1.cell? ⟨w.heap.size + 1, 2, none⟩ = some (.slice none 0 0) := E1.out.cell (show 2 < 3 by omega)
             have f0 := E1.out.frozen (show 0 < 3 by omega)
             have f1 := E1.out.frozen (show 1 < 3 by omega)
             have f2 := E1.out.frozen (show 2 < 3 by omega))
          | (go_at_call 74; refine (l1In_any _ _ _ _).mono ?_; rw [HU2.out]; rintro e w2 ⟨rfl, rfl⟩))
        refine (joWithout_any _ _ _ _ _ _ ks _ hm (HA.out.below B1.out)).mono ?_
        rintro e w3 ⟨v, G, Cp, rfl, hR, _, hb3⟩
        have E3 := Lib.hid (E1.out.call hb3)
        have B3 := Lib.hid (bel_call B1.out hb3)
        have Z3 := Lib.hid (show w.heap.size + 1 < w2.heap.size + 3 from Nat.lt_trans E1.out.lt (by omega))
        have ZB := Lib.hid (show w.heap.size ≤ w2.heap.size + 3 from Nat.le_trans B1.out.size (by omega))
        obtain ⟨A', c', hv⟩ := hR.slice
        generalize hml : (woAt ks q n).length = m' at hv
        subst hv
        have HR := Lib.hid hR
        clear q0 q1 q2 f0 f1 f2 hR hb3 hml
        have q0 : w3.cell? ⟨w.heap.size + 1, 0, none⟩ = some (.int .i64 0) := E3.out.cell (show 0 < 3 by omega)
        have q1 : w3.cell? ⟨w.heap.size + 1, 1, none⟩ = some (.int .i64 0) := E3.out.cell (show 1 < 3 by omega)
        have q2 : w3.cell? ⟨w.heap.size + 1, 2, none⟩ = some (.slice none 0 0) := E3.out.cell (show 2 < 3 by omega)
        have f0 := E3.out.frozen (show 0 < 3 by omega)
        have f1 := E3.out.frozen (show 1 < 3 by omega)
        have f2 := E3.out.frozen (show 2 < 3 by omega)
        go_wp2_with fail
        refine bodyPost_ret (v := .tuple #[.agg #[.int .i64 a, .int .i64 b, .slice A' m' c'], .bool true]) (by simp [results, Try.results57, go_sem, q0, q1, q2]) rfl ?_
        unfold dkA dkZ
        rw [HD.out, HN.out]
        exact ⟨_, _, G, Cp, rfl, ZB.out, ((HR.out.far Z3.out _).far Z3.out _).far Z3.out _, (((B3.out.setCell (p := ⟨w.heap.size + 1, 0, none⟩) (by show w.heap.size ≤ w.heap.size + 1; omega) _).setCell (p := ⟨w.heap.size + 1, 1, none⟩) (by show w.heap.size ≤ w.heap.size + 1; omega) _).setCell (p := ⟨w.heap.size + 1, 2, none⟩) (by show w.heap.size ≤ w.heap.size + 1; omega) _)⟩
  · have HG := Lib.hid (Bool.eq_false_iff.2 hg)
    have HD : Hid (dkB a b ks q = false) := Lib.hid (by unfold dkB; rw [HG.out]; rfl)
    clear hg
    go_enter Try.func57, Try.ntmps57
    go_wp2_with (first
      | (go_at_call 62; refine (joGood_any _ _ _ _ _ ks _ hm (HA.out.below HB0.out)).mono ?_; rw [HG.out]; rintro e w1 ⟨rfl, hb1⟩
         have D1 := Lib.hid (HU.out.call hb1)
         have E1 := Lib.hid (HQ.out.call hb1)
         have B1 := Lib.hid (bel_call HB0.out hb1)
         have l2 : w1.cell? ⟨w.heap.size, 2, none⟩ = some (.slice A n c) := D1.out.cell (show 2 < 3 by omega)
         have q0 : w1.cell? ⟨w.heap.size + 1, 0, none⟩ = some (.int .i64 0) := E1.out.cell (show 0 < 3 by omega)
         have q1 : w1.cell? ⟨w.heap.size + 1, 1, none⟩ = some (.int .i64 0) := E1.out.cell (show 1 < 3 by omega)
         have q2 : w1.cell? ⟨w.heap.size + 1, 2, none⟩ = some (.slice none 0 0) := E1.out.cell (show 2 < 3 by omega)
         have f0 := E1.out.frozen (show 0 < 3 by omega)
         have f1 := E1.out.frozen (show 1 < 3 by omega)
         have f2 := E1.out.frozen (show 2 < 3 by omega)))
    refine bodyPost_ret (v := .tuple #[.agg #[.int .i64 0, .int .i64 0, .slice none 0 0], .bool false]) (by simp [results, Try.results57, go_sem, q0, q1, q2]) rfl ?_
    unfold dkA dkZ
    rw [HD.out]
    exact gears_none (((B1.out.setCell (p := ⟨w.heap.size + 1, 0, none⟩) (by show w.heap.size ≤ w.heap.size + 1; omega) _).setCell (p := ⟨w.heap.size + 1, 1, none⟩) (by show w.heap.size ≤ w.heap.size + 1; omega) _).setCell (p := ⟨w.heap.size + 1, 2, none⟩) (by show w.heap.size ≤ w.heap.size + 1; omega) _)

end Go.Proofs.Ytejpcbkhlnjlfaa
