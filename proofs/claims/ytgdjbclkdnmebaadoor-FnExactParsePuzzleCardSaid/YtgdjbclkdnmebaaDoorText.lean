/- Texts of digits: what the two programs make of a list of digits. Digits 0 to 9. -/
import Derived.Test.YtgdjbclkdnmebaaDoorCells
import Derived.LoopTactic
namespace Go.Proofs.YtgdjbclkdnmebaaDoor
open Go.ChangeShapes Go.WideShapes Go.ChangeAt Go.RowKit Go.Joins

theorem conv_one (n : Int) (w : World) : (convert 92 9 (.slice (some ⟨w.heap.size, 0, none⟩) 1 1)).run Tryd.prog (w.alloc (.cells #[.int .u8 n] 5)) = .ok (.string (strOfNums [n])) (w.alloc (.cells #[.int .u8 n] 5)) :=
  run_convert_bytes_arg _ _ _ Tryd.underlying92 Tryd.underlying5 _ 0 1 1 [n] rfl (fun i hi => by
    obtain rfl : i = 0 := by omega
    simp) _ Tryd.underlying9

set_option maxRecDepth 20000 in
theorem l1Num_any (n : Int) (w : World) (h0 : 0 ≤ n) (h9 : n ≤ 9) :
    Calls Tryd.prog 59 #[.int .i64 n] w fun e w' => e = .returned (.string (strOfNums [48 + n])) ∧ Below w.heap.size w w' := by
  have hcv := conv_one (48 + n) w
  go_enter Tryd.func59, Tryd.ntmps59
  go_wp2_with fail
  go_ret
  refine ⟨rfl, ?_⟩
  (repeat (first | assumption | exact Below.refl _ _ | (refine Below.alloc ?_ (by first | omega | (simp; done) | (simp; omega)) _) | (refine Below.setCell ?_ (by first | omega | (simp; done) | (simp; omega)) _) | refine bel_drewN ?_ _ | refine bel_drew ?_ | (refine bel_call ?_ (by assumption))))

theorem whText_any (g c : Nat) (ds : List Int) (w : World) (hr : Cells w g ds.length (digF ds)) (hd : Digits ds) (hl : ds.length ≤ 1000) :
    Calls Tryd.prog 60 #[.slice (some ⟨g, 0, none⟩) ds.length c] w fun e w' => e = .returned (.string (textOf ds)) ∧ Below w.heap.size w w' := by
  have HD := Lib.hid hd
  have HR := Lib.hid hr
  clear hd hr
  go_enter Tryd.func60, Tryd.ntmps60
  go_wp2
  go_loopw [3, 8] (fun s i wr => ∃ k : Nat, k ≤ ds.length ∧ i = .int .i64 k ∧ s = .string (textOf (ds.take k)) ∧ Below w.heap.size w wr) (fun _ i _ => ds.length - (intOf i).toNat)
  case atStart => exact ⟨0, by omega, rfl, by simp [textOf, strOfNums], Below.refl _ _⟩
  case round =>
    obtain ⟨k, hk, rfl, rfl, hB⟩ := hrel
    by_cases hlt : k < ds.length
    · have hc : wr.cell? ⟨g, k, none⟩ = some (.int .i64 (ds.getD k 0)) := (HR.out.below hB HR.out.lt).cell hlt
      obtain ⟨b0, b9⟩ := HD.out k hlt
      have hadd : ∀ W : World, (Op.stringOp .add (textOf (ds.take k)) (strOfNums [48 + ds.getD k 0])).run Tryd.prog W = .ok (.string (textOf (ds.take (k + 1)))) W := fun W => by
        rw [run_string_add_sum _ _ _ (by rw [textOf_size, strOne_size, List.length_take]; omega), textOf_snoc ds hlt]
      generalize ds.getD k 0 = d at hc b0 b9 hadd
      go_wp2_with (go_at_call 59; refine (l1Num_any _ _ (by omega) (by omega)).mono ?_; rintro e w1 ⟨rfl, hb⟩)
      go_roundw
      case rel => exact ⟨k + 1, by omega, by go_num, rfl, bel_call hB hb⟩
      case measure => simp [intOf]; omega
    · go_wp2
      go_ret
      exact ⟨ret_str (textOf_all ds (by omega)), hB⟩

theorem cells_step (j k : Nat) (f : Nat → Value) (z : Value) : (if j = k then f k else if j < k then f j else z) = if j < k + 1 then f j else z := by
  by_cases h : j = k
  · subst h; simp
  · rw [if_neg h]
    by_cases h2 : j < k
    · rw [if_pos h2, if_pos (by omega)]
    · rw [if_neg h2, if_neg (by omega)]

theorem codeOf_any (g c : Nat) (ds : List Int) (w : World) (hr : Cells w g ds.length (digF ds)) (hd : Digits ds) (hl : ds.length ≤ 1000) :
    Calls Tryd.prog 30 #[.slice (some ⟨g, 0, none⟩) ds.length c] w fun e w' => e = .returned (.string (textOf ds)) ∧ Below w.heap.size w w' := by
  have HD := Lib.hid hd
  have HR := Lib.hid hr
  clear hd hr
  have hmk := fun W : World => run_make_row' (P := Tryd.prog) 92 5 (.int .u8 0) 1 Tryd.underlying92 (by kernel_rfl) rfl .i64 .i64 ds.length (by omega) (by omega) W
  go_enter Tryd.func30, Tryd.ntmps30
  go_wp2
  have hN : Cells (w.alloc (.cells (madeCells #[.int .u8 0] ds.length) 5)) w.heap.size ds.length (fun _ => .int .u8 0) := Cells.made _ _ _ _
  go_loopw [11] (fun i wr => ∃ k : Nat, k ≤ ds.length ∧ i = .int .i64 k ∧ Cells wr w.heap.size ds.length (fun j => if j < k then .int .u8 (48 + ds.getD j 0) else .int .u8 0) ∧ Below w.heap.size w wr) (fun i _ => ds.length - (intOf i).toNat)
  case atStart => exact ⟨0, by omega, rfl, hN.congr (fun j _ => by simp), by (repeat (first | assumption | exact Below.refl _ _ | (refine Below.alloc ?_ (by first | omega | (simp; done) | (simp; omega)) _) | (refine Below.setCell ?_ (by first | omega | (simp; done) | (simp; omega)) _) | refine bel_drewN ?_ _ | refine bel_drew ?_ | (refine bel_call ?_ (by assumption))))⟩
  case round =>
    clear hN hmk
    obtain ⟨k, hk, rfl, hC, hB⟩ := hrel
    have HC := Lib.hid hC
    clear hC
    by_cases hlt : k < ds.length
    · have hc : wr.cell? ⟨g, k, none⟩ = some (.int .i64 (ds.getD k 0)) := (HR.out.below hB HR.out.lt).cell hlt
      have ho : wr.cell? ⟨w.heap.size, k, none⟩ = some (.int .u8 0) := by rw [HC.out.cell hlt, if_neg (by omega)]
      have hf : wr.frozen? ⟨w.heap.size, k, none⟩ = false := HC.out.frozen hlt
      obtain ⟨b0, b9⟩ := HD.out k hlt
      have HS := Lib.hid ((HC.out.set_ hlt (.int .u8 (48 + ds.getD k 0))).congr (f' := fun j => if j < k + 1 then .int .u8 (48 + ds.getD j 0) else .int .u8 0) (fun j hj => cells_step j k (fun j => .int .u8 (48 + ds.getD j 0)) _))
      generalize ds.getD k 0 = d at hc b0 b9 HS
      go_wp2
      go_roundw
      case rel => exact ⟨k + 1, by omega, by go_num, HS.out, hB.setCell (Nat.le_refl _) _⟩
      case measure => simp [intOf]; omega
    · have hcv : (convert 92 9 (.slice (some ⟨w.heap.size, 0, none⟩) ds.length ds.length)).run Tryd.prog wr = .ok (.string (textOf ds)) wr :=
        run_convert_bytes_arg _ _ _ Tryd.underlying92 Tryd.underlying5 _ 0 _ _ (ds.map (48 + ·)) (by simp) (fun i hi => by
          rw [Nat.zero_add, HC.out.cell hi, if_pos (by omega)]
          simp [List.getD, List.getElem?_eq_getElem hi]) _ Tryd.underlying9
      go_wp2
      go_ret
      exact ⟨rfl, hB⟩

end Go.Proofs.YtgdjbclkdnmebaaDoor
