/- Whether a code cuts, as the program tells it. For lists that can be. -/
import Derived.Test.YtilnjlcljjpnmaaPt
import Derived.Test.YtilnjlcljjpnmaaWo
import Derived.Test.YtilnjlcljjpnmaaWk
namespace Go.Proofs.Ytilnjlcljjpnmaa
open Go.ChangeShapes Go.WideShapes Go.ChangeAt Go.RowKit Go.Joins

/-- More parts are left if the code is dead, too. -/
def cuB (a b : Int) (ts : List ByteArray) (s : ByteArray) : Bool := dkB a b ts s && decide (paN a b ts < paN a b (s :: ts))

set_option maxRecDepth 100000 in
set_option maxHeartbeats 4000000 in
theorem cutting_any (a b : Int) (A : Option Addr) (n c : Nat) (ts : List ByteArray) (s : ByteArray) (w : World) (hn : n ≤ maxLen) (hs : s.size ≤ maxLen) (hA : ArgS w A n ts) :
    Calls Try.prog 56 #[.agg #[.int .i64 a, .int .i64 b], .slice A n c, .string s] w fun e w' => e = .returned (.tuple #[.bool (cuB a b ts s), .bool (dkB a b ts s)]) ∧ Below w.heap.size w w' := by
  have HA := Lib.hid hA
  have HN := Lib.hid hn
  have HS := Lib.hid hs
  have X0 := Lib.hid (show Below w.heap.size w ((w.alloc (.cells #[.int .i64 a, .int .i64 b] 28)).alloc (.cells #[.string s] 9)) by (repeat (first | assumption | exact Below.refl _ _ | (refine Below.alloc ?_ (by first | omega | (simp; done) | (simp; omega)) _) | (refine Below.setCell ?_ (by first | omega | (simp; done) | (simp; omega)) _) | refine bel_drewN ?_ _ | refine bel_drew ?_ | (refine bel_call ?_ (by assumption)))))
  have E0 := Lib.hid (argS_one (W := w.alloc (.cells #[.int .i64 a, .int .i64 b] 28)) (s := s) (t := 9) (g := w.heap.size + 1) (by simp) hs)
  clear hA hn hs
  go_enter Try.func56, Try.ntmps56
  go_wp2_with fail
  refine (mazeOf_any _ _ _ _ _ ts _ _ _ [s] _ HN.out (HA.out.below X0.out) (by unfold maxLen; omega) E0.out).mono ?_
  rintro e w1 h1
  rcases h1 with ⟨hd, B, rfl, hB, hlv, hb1⟩ | ⟨hd, rfl, hb1⟩
  · rw [mzB_one] at hd
    unfold mzV
    have HD := Lib.hid hd
    have HP := Lib.hid (dkB_parts hd)
    have HV : Hid (cuB a b ts s = decide (paN a b ts < paN a b (s :: ts))) := Lib.hid (by unfold cuB; rw [hd, Bool.true_and])
    have hwB : w.heap.size ≤ B := by have := X0.out.size; omega
    have X1 := Lib.hid ((bel_call X0.out hb1).alloc (bel_call X0.out hb1).size (.cells #[.int .i64 a, .int .i64 b, .map (some B)] 72))
    have M1 := Lib.hid (m3_new (W := w1) (a := a) (b := b) (v := .map (some B)) (t := 72) rfl)
    have L1 := Lib.hid (hlv.call ((Below.refl _ _).alloc (Nat.le_refl _) (.cells #[.int .i64 a, .int .i64 b, .map (some B)] 72)))
    have k0 : (w1.alloc (.cells #[.int .i64 a, .int .i64 b, .map (some B)] 72)).cell? ⟨w1.heap.size, 0, none⟩ = some (.int .i64 a) := M1.out.cell (show 0 < 3 by omega)
    have k1 : (w1.alloc (.cells #[.int .i64 a, .int .i64 b, .map (some B)] 72)).cell? ⟨w1.heap.size, 1, none⟩ = some (.int .i64 b) := M1.out.cell (show 1 < 3 by omega)
    have k2 : (w1.alloc (.cells #[.int .i64 a, .int .i64 b, .map (some B)] 72)).cell? ⟨w1.heap.size, 2, none⟩ = some (.map (some B)) := M1.out.cell (show 2 < 3 by omega)
    have hBw1 : B < w1.heap.size := hlv.lt
    clear hd hb1 hlv X0 E0 hB
    go_wp2_with fail
    refine (without_any _ _ _ _ _ _ L1.out HS.out).mono ?_
    rintro e w3 ⟨B', rfl, hB', hlv3, hb3⟩
    rw [World.size_alloc] at hB'
    have X3 := Lib.hid (bel_call X1.out hb3)
    have M3 := Lib.hid (M1.out.call hb3)
    have L3 := Lib.hid (L1.out.call hb3)
    have V3 := Lib.hid (hlv3.congr (al' := alB a b (s :: ts)) (fun t => (alB_cons t).symm))
    clear k0 k1 k2 hb3 hlv3 X1 M1 L1
    unfold mzV
    go_wp2_with fail
    refine (takeParts_any _ _ _ (s :: ts) _ V3.out HP.out.2.2.1 HP.out.2.2.2.1).mono ?_
    rintro e w4 ⟨rfl, hgr4⟩
    have X4 := Lib.hid (bel_grownP X3.out (by omega) hgr4)
    have M4 := Lib.hid (M3.out.grownM hgr4 (fun e => by injection e with e; omega))
    have L4 := Lib.hid (L3.out.kept hgr4 (fun e => by injection e with e; omega))
    have k0 : w4.cell? ⟨w1.heap.size, 0, none⟩ = some (.int .i64 a) := M4.out.cell (show 0 < 3 by omega)
    have k1 : w4.cell? ⟨w1.heap.size, 1, none⟩ = some (.int .i64 b) := M4.out.cell (show 1 < 3 by omega)
    have k2 : w4.cell? ⟨w1.heap.size, 2, none⟩ = some (.map (some B)) := M4.out.cell (show 2 < 3 by omega)
    clear hgr4 X3 M3 L3 V3
    go_wp2_with fail
    refine (takeParts_any _ _ _ ts _ L4.out HP.out.2.2.1 HP.out.2.2.2.1).mono ?_
    rintro e w5 ⟨rfl, hgr5⟩
    have X5 := Lib.hid (bel_grownP X4.out hwB hgr5)
    clear hgr5 k0 k1 k2
    go_wp2_with fail
    go_ret2
    exact ⟨by rw [HV.out, HD.out]; first | done | rfl, X5.out⟩
  · rw [mzB_one] at hd
    have HD := Lib.hid hd
    have X1 := Lib.hid ((bel_call X0.out hb1).alloc (bel_call X0.out hb1).size (.cells #[.int .i64 0, .int .i64 0, .map none] 72))
    unfold mzV
    have HV : Hid (cuB a b ts s = false) := Lib.hid (by unfold cuB; rw [hd]; rfl)
    clear hd hb1
    go_wp2_with fail
    go_ret2
    exact ⟨by rw [HV.out, HD.out]; first | done | rfl, X1.out⟩

end Go.Proofs.Ytilnjlcljjpnmaa
