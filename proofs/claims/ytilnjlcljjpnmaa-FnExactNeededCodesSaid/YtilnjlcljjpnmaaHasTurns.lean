/- Lists of turns: which ones a lock has, as both programs ask it. No conditions. -/
import Derived.Test.YtilnjlcljjpnmaaValid
namespace Go.Proofs.Ytilnjlcljjpnmaa
open Go.ChangeShapes Go.WideShapes Go.ChangeAt Go.RowKit Go.Joins

/-- Turns, as cells: two for each. -/
def turnF (ts : List (Int × Int)) (j : Nat) : Value := if j % 2 = 0 then .int .i64 (ts.getD (j / 2) (0, 0)).1 else .int .i64 (ts.getD (j / 2) (0, 0)).2

theorem turnF_0 (ts : List (Int × Int)) (k : Nat) : turnF ts (k * 2) = .int .i64 (ts.getD k (0, 0)).1 := by
  unfold turnF
  rw [if_pos (by omega), show k * 2 / 2 = k by omega]

theorem turnF_1 (ts : List (Int × Int)) (k : Nat) : turnF ts (k * 2 + 1) = .int .i64 (ts.getD k (0, 0)).2 := by
  unfold turnF
  rw [if_neg (by omega), show (k * 2 + 1) / 2 = k by omega]

/-- A list of turns of a lock. -/
def turnsB (a : Int) (ts : List (Int × Int)) : Bool := decide (ts.length ≤ 200) && ts.all fun t => turnB a t.1 t.2

theorem tAll_snoc {ts : List (Int × Int)} {k : Nat} {p : Int × Int → Bool} (h : k < ts.length) (ha : (ts.take k).all p = true) (hd : p (ts.getD k (0, 0)) = true) : (ts.take (k + 1)).all p = true := by
  rw [List.take_succ_eq_append_getElem h, List.all_append, ha]
  simpa [List.getD, List.getElem?_eq_getElem h] using hd

theorem tAll_not {ts : List (Int × Int)} {k : Nat} {p : Int × Int → Bool} (h : k < ts.length) (hd : p (ts.getD k (0, 0)) = false) : ts.all p = false := by
  rw [List.all_eq_false]
  refine ⟨ts[k], List.getElem_mem _, ?_⟩
  simpa [List.getD, List.getElem?_eq_getElem h] using hd

theorem hasTurns_any (a b : Int) (ts : List (Int × Int)) (n g c : Nat) (w : World) (hl : ts.length = n) (hm : n ≤ 1048576) (hC : Cells w g (n * 2) (turnF ts)) :
    Calls Try.prog 95 #[.agg #[.int .i64 a, .int .i64 b], .slice (some ⟨g, 0, none⟩) n c] w fun e w' => e = .returned (.bool (turnsB a ts)) ∧ Below w.heap.size w w' := by
  have HL := Lib.hid hl
  have HC := Lib.hid hC
  clear hl
  by_cases h2 : 200 < n
  · clear hC
    go_enter Try.func95, Try.ntmps95
    go_wp2_with fail
    go_ret
    refine ⟨ret_bool (by unfold turnsB; rw [HL.out, decide_eq_false (by omega)]; rfl), ?_⟩
    (repeat (first | assumption | exact Below.refl _ _ | (refine Below.alloc ?_ (by first | omega | (simp; done) | (simp; omega)) _) | (refine Below.setCell ?_ (by first | omega | (simp; done) | (simp; omega)) _) | refine bel_drewN ?_ _ | refine bel_drew ?_ | (refine bel_call ?_ (by assumption))))
  · have z1 : g < w.heap.size := hC.lt
    clear hC
    go_enter Try.func95, Try.ntmps95
    go_wp2_with fail
    go_loopw [12] (fun i wr => ∃ k : Nat, k ≤ n ∧ i = .int .i64 k ∧ (ts.take k).all (fun t => turnB a t.1 t.2) = true ∧ Cells wr g (n * 2) (turnF ts) ∧ wr.cell? ⟨w.heap.size, 0, none⟩ = some (.int .i64 a) ∧ wr.cell? ⟨w.heap.size, 1, none⟩ = some (.int .i64 b) ∧ w.heap.size < wr.heap.size ∧ Below w.heap.size w wr) (fun i _ => n - (intOf i).toNat)
    case atStart => exact ⟨0, by omega, rfl, by simp, HC.out.alloc _, by simp, by simp, by simp, by (repeat (first | assumption | exact Below.refl _ _ | (refine Below.alloc ?_ (by first | omega | (simp; done) | (simp; omega)) _) | (refine Below.setCell ?_ (by first | omega | (simp; done) | (simp; omega)) _) | refine bel_drewN ?_ _ | refine bel_drew ?_ | (refine bel_call ?_ (by assumption))))⟩
    case round =>
      obtain ⟨k, hk, rfl, hall, hCr, l0, l1, z4, hB⟩ := hrel
      have HA := Lib.hid hall
      have HR := Lib.hid hCr
      clear hall hCr
      by_cases hlt : k < n
      · have o0 : wr.cell? ⟨g, k * 2, none⟩ = some (.int .i64 (ts.getD k (0, 0)).1) := by rw [← turnF_0]; exact HR.out.cell (by omega)
        have o1 : wr.cell? ⟨g, k * 2 + 1, none⟩ = some (.int .i64 (ts.getD k (0, 0)).2) := by rw [← turnF_1]; exact HR.out.cell (by omega)
        obtain ⟨v, HV⟩ : ∃ v, Hid (turnB a (ts.getD k (0, 0)).1 (ts.getD k (0, 0)).2 = v) := ⟨_, Lib.hid rfl⟩
        generalize hx : (ts.getD k (0, 0)).1 = x at o0
        generalize hy : (ts.getD k (0, 0)).2 = y at o1
        have HXY : Hid (turnB a x y = v) := Lib.hid (by rw [← hx, ← hy]; exact HV.out)
        clear hx hy
        rcases v with _ | _
        · go_wp2_with (go_at_call 125; refine (isValid_any _ _ _ _ _).mono ?_; rw [HXY.out]; rintro e w3 ⟨rfl, hb3⟩)
          go_ret
          refine ⟨ret_bool (by unfold turnsB; rw [tAll_not (by rw [HL.out]; exact hlt) HV.out, Bool.and_false]), ?_⟩
          (repeat (first | assumption | exact Below.refl _ _ | (refine Below.alloc ?_ (by first | omega | (simp; done) | (simp; omega)) _) | (refine Below.setCell ?_ (by first | omega | (simp; done) | (simp; omega)) _) | refine bel_drewN ?_ _ | refine bel_drew ?_ | (refine bel_call ?_ (by assumption))))
        · go_wp2_with (go_at_call 125; refine (isValid_any _ _ _ _ _).mono ?_; rw [HXY.out]; rintro e w3 ⟨rfl, hb3⟩)
          have hW : Below wr.heap.size wr w3 := by
            clear hB
            (repeat (first | assumption | exact Below.refl _ _ | (refine Below.alloc ?_ (by first | omega | (simp; done) | (simp; omega)) _) | (refine Below.setCell ?_ (by first | omega | (simp; done) | (simp; omega)) _) | refine bel_drewN ?_ _ | refine bel_drew ?_ | (refine bel_call ?_ (by assumption))))
          have HW := Lib.hid hW
          clear hW hb3
          go_roundw
          case rel => exact ⟨k + 1, by omega, by go_num, tAll_snoc (by rw [HL.out]; exact hlt) HA.out HV.out, HR.out.call HW.out, by rw [HW.out.cell (p := ⟨w.heap.size, 0, none⟩) z4, l0], by rw [HW.out.cell (p := ⟨w.heap.size, 1, none⟩) z4, l1], Nat.lt_of_lt_of_le z4 HW.out.size, bel_call hB HW.out⟩
          case measure => simp [intOf]; omega
      · go_wp2_with fail
        go_ret
        refine ⟨ret_bool ?_, hB⟩
        have e : k = n := by omega
        have := HA.out
        rw [e, List.take_of_length_le (by rw [HL.out]; omega)] at this
        unfold turnsB
        rw [this, HL.out, decide_eq_true (by omega)]
        rfl

theorem whTurns_any (a b : Int) (ts : List (Int × Int)) (n g c : Nat) (w : World) (hl : ts.length = n) (hm : n ≤ 1048576) (ha0 : 0 ≤ a) (ha6 : a ≤ 6) (hC : Cells w g (n * 2) (turnF ts)) :
    Calls Try.prog 92 #[.agg #[.int .i64 a, .int .i64 b], .slice (some ⟨g, 0, none⟩) n c] w fun e w' => e = .returned (.bool (turnsB a ts)) ∧ Below w.heap.size w w' := by
  have HL := Lib.hid hl
  have HC := Lib.hid hC
  clear hl
  by_cases h2 : 200 < n
  · clear hC
    go_enter Try.func92, Try.ntmps92
    go_wp2_with fail
    go_ret
    refine ⟨ret_bool (by unfold turnsB; rw [HL.out, decide_eq_false (by omega)]; rfl), ?_⟩
    (repeat (first | assumption | exact Below.refl _ _ | (refine Below.alloc ?_ (by first | omega | (simp; done) | (simp; omega)) _) | (refine Below.setCell ?_ (by first | omega | (simp; done) | (simp; omega)) _) | refine bel_drewN ?_ _ | refine bel_drew ?_ | (refine bel_call ?_ (by assumption))))
  · have z1 : g < w.heap.size := hC.lt
    clear hC
    go_enter Try.func92, Try.ntmps92
    go_wp2_with fail
    go_loopw [12] (fun i wr => ∃ k : Nat, k ≤ n ∧ i = .int .i64 k ∧ (ts.take k).all (fun t => turnB a t.1 t.2) = true ∧ Cells wr g (n * 2) (turnF ts) ∧ wr.cell? ⟨w.heap.size, 0, none⟩ = some (.int .i64 a) ∧ wr.cell? ⟨w.heap.size, 1, none⟩ = some (.int .i64 b) ∧ w.heap.size < wr.heap.size ∧ Below w.heap.size w wr) (fun i _ => n - (intOf i).toNat)
    case atStart => exact ⟨0, by omega, rfl, by simp, HC.out.alloc _, by simp, by simp, by simp, by (repeat (first | assumption | exact Below.refl _ _ | (refine Below.alloc ?_ (by first | omega | (simp; done) | (simp; omega)) _) | (refine Below.setCell ?_ (by first | omega | (simp; done) | (simp; omega)) _) | refine bel_drewN ?_ _ | refine bel_drew ?_ | (refine bel_call ?_ (by assumption))))⟩
    case round =>
      obtain ⟨k, hk, rfl, hall, hCr, l0, l1, z4, hB⟩ := hrel
      have HA := Lib.hid hall
      have HR := Lib.hid hCr
      clear hall hCr
      by_cases hlt : k < n
      · have o0 : wr.cell? ⟨g, k * 2, none⟩ = some (.int .i64 (ts.getD k (0, 0)).1) := by rw [← turnF_0]; exact HR.out.cell (by omega)
        have o1 : wr.cell? ⟨g, k * 2 + 1, none⟩ = some (.int .i64 (ts.getD k (0, 0)).2) := by rw [← turnF_1]; exact HR.out.cell (by omega)
        obtain ⟨v, HV⟩ : ∃ v, Hid (turnB a (ts.getD k (0, 0)).1 (ts.getD k (0, 0)).2 = v) := ⟨_, Lib.hid rfl⟩
        generalize hx : (ts.getD k (0, 0)).1 = x at o0
        generalize hy : (ts.getD k (0, 0)).2 = y at o1
        have HXY : Hid (turnB a x y = v) := Lib.hid (by rw [← hx, ← hy]; exact HV.out)
        clear hx hy
        rcases v with _ | _
        · go_wp2_with (go_at_call 124; refine (whTurn_any _ _ _ _ _ ⟨ha0, ha6⟩).mono ?_; rw [HXY.out]; rintro e w3 ⟨rfl, hb3⟩)
          go_ret
          refine ⟨ret_bool (by unfold turnsB; rw [tAll_not (by rw [HL.out]; exact hlt) HV.out, Bool.and_false]), ?_⟩
          (repeat (first | assumption | exact Below.refl _ _ | (refine Below.alloc ?_ (by first | omega | (simp; done) | (simp; omega)) _) | (refine Below.setCell ?_ (by first | omega | (simp; done) | (simp; omega)) _) | refine bel_drewN ?_ _ | refine bel_drew ?_ | (refine bel_call ?_ (by assumption))))
        · go_wp2_with (go_at_call 124; refine (whTurn_any _ _ _ _ _ ⟨ha0, ha6⟩).mono ?_; rw [HXY.out]; rintro e w3 ⟨rfl, hb3⟩)
          have hW : Below wr.heap.size wr w3 := by
            clear hB
            (repeat (first | assumption | exact Below.refl _ _ | (refine Below.alloc ?_ (by first | omega | (simp; done) | (simp; omega)) _) | (refine Below.setCell ?_ (by first | omega | (simp; done) | (simp; omega)) _) | refine bel_drewN ?_ _ | refine bel_drew ?_ | (refine bel_call ?_ (by assumption))))
          have HW := Lib.hid hW
          clear hW hb3
          go_roundw
          case rel => exact ⟨k + 1, by omega, by go_num, tAll_snoc (by rw [HL.out]; exact hlt) HA.out HV.out, HR.out.call HW.out, by rw [HW.out.cell (p := ⟨w.heap.size, 0, none⟩) z4, l0], by rw [HW.out.cell (p := ⟨w.heap.size, 1, none⟩) z4, l1], Nat.lt_of_lt_of_le z4 HW.out.size, bel_call hB HW.out⟩
          case measure => simp [intOf]; omega
      · go_wp2_with fail
        go_ret
        refine ⟨ret_bool ?_, hB⟩
        have e : k = n := by omega
        have := HA.out
        rw [e, List.take_of_length_le (by rw [HL.out]; omega)] at this
        unfold turnsB
        rw [this, HL.out, decide_eq_true (by omega)]
        rfl

end Go.Proofs.Ytilnjlcljjpnmaa
