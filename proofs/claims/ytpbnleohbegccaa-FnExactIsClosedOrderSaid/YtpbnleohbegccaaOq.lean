/- Whether a list is an order, and a whole one, as both programs tell it; the turns of an order, as the model tells them. For lists that can be. -/
import Derived.Test.YtpbnleohbegccaaOm
import Derived.Test.YtpbnleohbegccaaOl
namespace Go.Proofs.Ytpbnleohbegccaa
open Go.ChangeShapes Go.WideShapes Go.ChangeAt Go.RowKit Go.Joins

theorem or_bad {a b : Int} {ts : List ByteArray} (h : goodB a b = false) : orB a b ts = false := by unfold orB; rw [h]; rfl

theorem wo_bad {a b : Int} {ts : List ByteArray} (h : goodB a b = false) : woB a b ts = false := by unfold woB; rw [or_bad h]; rfl

theorem specIsTurnOrder_any (a b : Int) (A : Option Addr) (n c : Nat) (ts : List ByteArray) (w : World) (hn : n ≤ maxLen) (hA : ArgS w A n ts) :
    Calls Try.prog 46 #[.agg #[.int .i64 a, .int .i64 b], .slice A n c] w fun e w' => e = .returned (.tuple #[.bool (orB a b ts), .bool (goodB a b)]) ∧ Below w.heap.size w w' := by
  have HA := Lib.hid hA
  have HN := Lib.hid hn
  clear hA hn
  have X0 := Lib.hid (show Below w.heap.size w (w.alloc (.cells #[.int .i64 a, .int .i64 b] 26)) from (Below.refl _ _).alloc (Nat.le_refl _) _)
  by_cases hg : goodB a b = true
  · have HG := Lib.hid hg
    clear hg
    go_enter Try.func46, Try.ntmps46
    go_wp2_with (first | (go_at_call 88; refine (whGood_any _ _ _).mono ?_; rw [HG.out]; rintro e w1 ⟨rfl, hb⟩; obtain ⟨hc, hf, hz⟩ := bcell hb; have hz0 : w.heap.size < w1.heap.size := by (try simp at hz); omega) | (go_at_call 90; refine (orGood_any _ _ _ _ _ ts _ HN.out HG.out (HA.out.below (show Below w.heap.size w w1 from by (repeat (first | assumption | exact Below.refl _ _ | (refine Below.alloc ?_ (by first | omega | (simp; done) | (simp; omega)) _) | (refine Below.setCell ?_ (by first | omega | (simp; done) | (simp; omega)) _) | refine bel_drewN ?_ _ | refine bel_drew ?_ | (refine bel_call ?_ (by assumption))))))).mono ?_; rintro e w2 ⟨rfl, hb2⟩))
    go_ret2
    refine ⟨by rw [HG.out]; first | done | rfl, ?_⟩
    exact bel_call (show Below w.heap.size w w1 from by (repeat (first | assumption | exact Below.refl _ _ | (refine Below.alloc ?_ (by first | omega | (simp; done) | (simp; omega)) _) | (refine Below.setCell ?_ (by first | omega | (simp; done) | (simp; omega)) _) | refine bel_drewN ?_ _ | refine bel_drew ?_ | (refine bel_call ?_ (by assumption))))) hb2
  · have HG := Lib.hid (Bool.eq_false_iff.2 hg)
    clear hg
    go_enter Try.func46, Try.ntmps46
    go_wp2_with (go_at_call 88; refine (whGood_any _ _ _).mono ?_; rw [HG.out]; rintro e w1 ⟨rfl, hb⟩; obtain ⟨hc, hf, hz⟩ := bcell hb; have hz0 : w.heap.size < w1.heap.size := by (try simp at hz); omega)
    go_ret2
    refine ⟨by rw [HG.out, or_bad HG.out]; first | done | rfl, ?_⟩
    (repeat (first | assumption | exact Below.refl _ _ | (refine Below.alloc ?_ (by first | omega | (simp; done) | (simp; omega)) _) | (refine Below.setCell ?_ (by first | omega | (simp; done) | (simp; omega)) _) | refine bel_drewN ?_ _ | refine bel_drew ?_ | (refine bel_call ?_ (by assumption))))

theorem isTurnOrder_any (a b : Int) (A : Option Addr) (n c : Nat) (ts : List ByteArray) (w : World) (hn : n ≤ maxLen) (hA : ArgS w A n ts) :
    Calls Try.prog 48 #[.agg #[.int .i64 a, .int .i64 b], .slice A n c] w fun e w' => e = .returned (.tuple #[.bool (orB a b ts), .bool (goodB a b)]) ∧ Below w.heap.size w w' := by
  have HA := Lib.hid hA
  have HN := Lib.hid hn
  clear hA hn
  have X0 := Lib.hid (show Below w.heap.size w (w.alloc (.cells #[.int .i64 a, .int .i64 b] 26)) from (Below.refl _ _).alloc (Nat.le_refl _) _)
  have C0 := Lib.hid (box_new (W := w) (a := a) (b := b) (t := 26) rfl)
  go_enter Try.func48, Try.ntmps48
  go_wp2_with (go_at_call 54; refine (turnsOfOrder_any _ _ _ _ _ ts _ HN.out (HA.out.below X0.out)).mono ?_; rintro e w1 ⟨A1, c1, rfl, _, hb1⟩
               have X1 := Lib.hid (bel_call X0.out hb1)
               have C1 := C0.out.call hb1
               have l0 : w1.cell? ⟨w.heap.size, 0, none⟩ = some (.int .i64 a) := C1.cell (show 0 < 2 by omega)
               have l1 : w1.cell? ⟨w.heap.size, 1, none⟩ = some (.int .i64 b) := C1.cell (show 1 < 2 by omega)
               clear hb1)
  refine (isLock_any _ _ _).mono ?_
  rintro e w2 ⟨rfl, hb2⟩
  go_wp2_with fail
  go_ret2
  exact ⟨rfl, bel_call X1.out hb2⟩

theorem wo_eq {a b : Int} {ts : List ByteArray} {n : Nat} {N : Int} (h : orB a b ts = true) (hl : ts.length = n) (hN : countZ a b = N) : woB a b ts = decide ((n : Int) = N) := by
  unfold woB; rw [h, hl, hN]; rfl

theorem orWhole_any (a b : Int) (A : Option Addr) (n c : Nat) (ts : List ByteArray) (w : World) (hn : n ≤ maxLen) (hg : goodB a b = true) (hA : ArgS w A n ts) :
    Calls Try.prog 91 #[.agg #[.int .i64 a, .int .i64 b], .slice A n c] w fun e w' => e = .returned (.bool (woB a b ts)) ∧ Below w.heap.size w w' := by
  have HA := Lib.hid hA
  have HN := Lib.hid hn
  have HG := Lib.hid hg
  have HL := Lib.hid hA.len
  have hg' := good_yes hg
  obtain ⟨m, hme⟩ : ∃ m : Nat, a = m := ⟨a.toNat, by omega⟩
  subst hme
  have HC := Lib.hid (countZ_yes hg)
  have X0 := Lib.hid (show Below w.heap.size w (w.alloc (.cells #[.int .i64 m, .int .i64 b] 26)) from (Below.refl _ _).alloc (Nat.le_refl _) _)
  have C0 := Lib.hid (box_new (W := w) (a := (m : Int)) (b := b) (t := 26) rfl)
  clear hA hn hg hg'
  by_cases ho : orB m b ts = true
  · have HO := Lib.hid ho
    have HW := Lib.hid (wo_eq ho HL.out HC.out)
    clear ho
    go_enter Try.func91, Try.ntmps91
    go_wp2_with (first
      | (go_at_call 90; refine (orGood_any _ _ _ _ _ ts _ HN.out HG.out (HA.out.below X0.out)).mono ?_; rw [HO.out]; rintro e w1 ⟨rfl, hb1⟩
         have X1 := Lib.hid (bel_call X0.out hb1)
         have C1 := C0.out.call hb1
         have l0 : w1.cell? ⟨w.heap.size, 0, none⟩ = some (.int .i64 m) := C1.cell (show 0 < 2 by omega)
         have l1 : w1.cell? ⟨w.heap.size, 1, none⟩ = some (.int .i64 b) := C1.cell (show 1 < 2 by omega)
         clear hb1)
      | (go_at_call 80; refine (whCount_any _ _ _ HG.out).mono ?_; rintro e w2 ⟨rfl, hb2⟩))
    go_ret
    exact ⟨ret_bool (by rw [HW.out]; rfl), bel_call X1.out hb2⟩
  · have HO := Lib.hid (Bool.eq_false_iff.2 ho)
    have HW : Hid (woB m b ts = false) := Lib.hid (by unfold woB; rw [HO.out]; rfl)
    clear ho
    go_enter Try.func91, Try.ntmps91
    go_wp2_with (go_at_call 90; refine (orGood_any _ _ _ _ _ ts _ HN.out HG.out (HA.out.below X0.out)).mono ?_; rw [HO.out]; rintro e w1 ⟨rfl, hb1⟩)
    go_ret
    exact ⟨ret_bool HW.out.symm, bel_call X0.out hb1⟩

theorem specIsWholeOrder_any (a b : Int) (A : Option Addr) (n c : Nat) (ts : List ByteArray) (w : World) (hn : n ≤ maxLen) (hA : ArgS w A n ts) :
    Calls Try.prog 49 #[.agg #[.int .i64 a, .int .i64 b], .slice A n c] w fun e w' => e = .returned (.tuple #[.bool (woB a b ts), .bool (goodB a b)]) ∧ Below w.heap.size w w' := by
  have HA := Lib.hid hA
  have HN := Lib.hid hn
  clear hA hn
  by_cases hg : goodB a b = true
  · have HG := Lib.hid hg
    clear hg
    go_enter Try.func49, Try.ntmps49
    go_wp2_with (first | (go_at_call 88; refine (whGood_any _ _ _).mono ?_; rw [HG.out]; rintro e w1 ⟨rfl, hb⟩; obtain ⟨hc, hf, hz⟩ := bcell hb; have hz0 : w.heap.size < w1.heap.size := by (try simp at hz); omega) | (go_at_call 91; refine (orWhole_any _ _ _ _ _ ts _ HN.out HG.out (HA.out.below (show Below w.heap.size w w1 from by (repeat (first | assumption | exact Below.refl _ _ | (refine Below.alloc ?_ (by first | omega | (simp; done) | (simp; omega)) _) | (refine Below.setCell ?_ (by first | omega | (simp; done) | (simp; omega)) _) | refine bel_drewN ?_ _ | refine bel_drew ?_ | (refine bel_call ?_ (by assumption))))))).mono ?_; rintro e w2 ⟨rfl, hb2⟩))
    go_ret2
    refine ⟨by rw [HG.out]; first | done | rfl, ?_⟩
    exact bel_call (show Below w.heap.size w w1 from by (repeat (first | assumption | exact Below.refl _ _ | (refine Below.alloc ?_ (by first | omega | (simp; done) | (simp; omega)) _) | (refine Below.setCell ?_ (by first | omega | (simp; done) | (simp; omega)) _) | refine bel_drewN ?_ _ | refine bel_drew ?_ | (refine bel_call ?_ (by assumption))))) hb2
  · have HG := Lib.hid (Bool.eq_false_iff.2 hg)
    clear hg
    go_enter Try.func49, Try.ntmps49
    go_wp2_with (go_at_call 88; refine (whGood_any _ _ _).mono ?_; rw [HG.out]; rintro e w1 ⟨rfl, hb⟩; obtain ⟨hc, hf, hz⟩ := bcell hb; have hz0 : w.heap.size < w1.heap.size := by (try simp at hz); omega)
    go_ret2
    refine ⟨by rw [HG.out, wo_bad HG.out]; first | done | rfl, ?_⟩
    (repeat (first | assumption | exact Below.refl _ _ | (refine Below.alloc ?_ (by first | omega | (simp; done) | (simp; omega)) _) | (refine Below.setCell ?_ (by first | omega | (simp; done) | (simp; omega)) _) | refine bel_drewN ?_ _ | refine bel_drew ?_ | (refine bel_call ?_ (by assumption))))

theorem isWholeOrder_any (a b : Int) (A : Option Addr) (n c : Nat) (ts : List ByteArray) (w : World) (hn : n ≤ maxLen) (hA : ArgS w A n ts) :
    Calls Try.prog 50 #[.agg #[.int .i64 a, .int .i64 b], .slice A n c] w fun e w' => e = .returned (.tuple #[.bool (woB a b ts), .bool (goodB a b)]) ∧ Below w.heap.size w w' := by
  have HA := Lib.hid hA
  have HN := Lib.hid hn
  have HL := Lib.hid hA.len
  obtain ⟨N, hNe⟩ : ∃ N, countZ a b = N := ⟨_, rfl⟩
  have HC := Lib.hid hNe
  have X0 := Lib.hid (show Below w.heap.size w (w.alloc (.cells #[.int .i64 a, .int .i64 b] 26)) from (Below.refl _ _).alloc (Nat.le_refl _) _)
  have C0 := Lib.hid (box_new (W := w) (a := a) (b := b) (t := 26) rfl)
  clear hA hn hNe
  by_cases ho : orB a b ts = true
  · have HO := Lib.hid ho
    have HW := Lib.hid (wo_eq ho HL.out HC.out)
    clear ho
    go_enter Try.func50, Try.ntmps50
    go_wp2_with (first
      | (go_at_call 48; refine (isTurnOrder_any _ _ _ _ _ ts _ HN.out (HA.out.below X0.out)).mono ?_; rw [HO.out]; rintro e w1 ⟨rfl, hb1⟩
         have X1 := Lib.hid (bel_call X0.out hb1)
         have C1 := C0.out.call hb1
         have l0 : w1.cell? ⟨w.heap.size, 0, none⟩ = some (.int .i64 a) := C1.cell (show 0 < 2 by omega)
         have l1 : w1.cell? ⟨w.heap.size, 1, none⟩ = some (.int .i64 b) := C1.cell (show 1 < 2 by omega)
         clear hb1)
      | (go_at_call 66; refine (count_any _ _ _).mono ?_; rw [HC.out]; rintro e w2 ⟨rfl, hb2⟩))
    go_ret2
    exact ⟨by rw [HW.out]; first | done | rfl, bel_call X1.out hb2⟩
  · have HO := Lib.hid (Bool.eq_false_iff.2 ho)
    have HW : Hid (woB a b ts = false) := Lib.hid (by unfold woB; rw [HO.out]; rfl)
    clear ho
    go_enter Try.func50, Try.ntmps50
    go_wp2_with (first
      | (go_at_call 48; refine (isTurnOrder_any _ _ _ _ _ ts _ HN.out (HA.out.below X0.out)).mono ?_; rw [HO.out]; rintro e w1 ⟨rfl, hb1⟩
         have X1 := Lib.hid (bel_call X0.out hb1)
         have C1 := C0.out.call hb1
         have l0 : w1.cell? ⟨w.heap.size, 0, none⟩ = some (.int .i64 a) := C1.cell (show 0 < 2 by omega)
         have l1 : w1.cell? ⟨w.heap.size, 1, none⟩ = some (.int .i64 b) := C1.cell (show 1 < 2 by omega)
         clear hb1)
      | (go_at_call 66; refine (count_any _ _ _).mono ?_; rw [HC.out]; rintro e w2 ⟨rfl, hb2⟩))
    go_ret2
    exact ⟨by rw [HW.out]; first | done | rfl, bel_call X1.out hb2⟩

end Go.Proofs.Ytpbnleohbegccaa
