/- One wheel more, as the program counts it. For locks. -/
import Derived.Test.YthnekpdakjcadaaAtDist
import Derived.IntWalk
namespace Go.Proofs.Ythnekpdakjcadaa
open Go.ChangeShapes Go.WideShapes Go.ChangeAt Go.RowKit Go.Joins

set_option maxRecDepth 100000 in
set_option maxHeartbeats 2000000 in
theorem counts_any (a b : Int) (C : List Int) (g c : Nat) (w : World) (b2 : 2 ≤ b) (b10 : b ≤ 10) (hC : Cells w g 101 (digF C)) (hB : Bnd C 1000000) :
    Calls Try.prog 80 #[.agg #[.int .i64 a, .int .i64 b], .slice (some ⟨g, 0, none⟩) 101 c] w (IntsOut w (cwP b C b.toNat) 101) := by
  have HC0 := Lib.hid hC
  have HBn := Lib.hid hB
  have zg := hC.lt
  have hmk : ∀ W : World, (Instr.makeSlice 66 (.int .i64 101) (.int .i64 101)).run Try.prog W = .ok (.slice (some ⟨W.heap.size, 0, none⟩) 101 101) (W.alloc (.cells (madeCells #[.int .i64 0] 101) 3)) := fun W => make_ints 101 (by omega) W
  clear hC hB
  go_enter Try.func80, Try.ntmps80
  go_wp2_with fail
  obtain ⟨bn, hbn⟩ : ∃ bn : Nat, b = bn := ⟨b.toNat, by omega⟩
  subst hbn
  clear hmk
  have HZ := Lib.hid ((Cells.made (w.alloc (.cells #[.int .i64 a, .int .i64 (bn : Int)] 25)) (.int .i64 0) 101 3).congr (f' := digF (cwP bn C 0)) (fun j hj => by unfold digF; rw [cwP_at hj]; rfl))
  have HC1 := Lib.hid ((HC0.out.alloc (.cells #[.int .i64 a, .int .i64 (bn : Int)] 25)).alloc (.cells (madeCells #[.int .i64 0] 101) 3))
  go_loopw [14] (fun i wr => ∃ q : Nat, q ≤ bn ∧ i = .int .i64 q ∧ Cells wr (w.heap.size + 1) 101 (digF (cwP bn C q)) ∧ Cells wr g 101 (digF C) ∧ wr.cell? ⟨w.heap.size, 0, none⟩ = some (.int .i64 a) ∧ wr.cell? ⟨w.heap.size, 1, none⟩ = some (.int .i64 bn) ∧ w.heap.size < wr.heap.size ∧ Below w.heap.size w wr) (fun i _ => bn - (intOf i).toNat)
  case atStart => exact ⟨0, by omega, rfl, by simpa using HZ.out, HC1.out, by simp, by simp, by simp; omega, by (repeat (first | assumption | exact Below.refl _ _ | (refine Below.alloc ?_ (by first | omega | (simp; done) | (simp; omega)) _) | (refine Below.setCell ?_ (by first | omega | (simp; done) | (simp; omega)) _) | refine bel_drewN ?_ _ | refine bel_drew ?_ | (refine bel_call ?_ (by assumption))))⟩
  case round =>
    obtain ⟨q, hq, rfl, hP, hCr, l0, l1, z4, hB⟩ := hrel
    have HP := Lib.hid hP
    have HCr := Lib.hid hCr
    clear hP hCr
    by_cases hqb : q < bn
    · have hfh := far_half b2 0 (q : Int)
      obtain ⟨f, hf⟩ : ∃ f : Nat, farI bn 0 q = f := ⟨(farI bn 0 q).toNat, by omega⟩
      have HF := Lib.hid hf
      have f5 : f ≤ 5 := by omega
      clear hf hfh
      go_wp2_with (go_at_call 67; refine (digitDistance_any _ _ _ _ _ (by omega) (by omega) (by omega) (by omega)).mono ?_; rw [HF.out]; rintro e w4 ⟨rfl, hb4⟩)
      have HP4 := Lib.hid ((HP.out.call hb4).congr (f' := fun j => if f ≤ j ∧ j < f then digF (cwP bn C (q + 1)) j else digF (cwP bn C q) j) (fun j _ => by rw [if_neg (by omega)]))
      have HC4 := Lib.hid (HCr.out.call hb4)
      have k0 : w4.cell? ⟨w.heap.size, 0, none⟩ = some (.int .i64 a) := by rw [hb4.cell (p := ⟨w.heap.size, 0, none⟩) z4, l0]
      have k1 : w4.cell? ⟨w.heap.size, 1, none⟩ = some (.int .i64 bn) := by rw [hb4.cell (p := ⟨w.heap.size, 1, none⟩) z4, l1]
      have z5 : w.heap.size < w4.heap.size := Nat.lt_of_lt_of_le z4 hb4.size
      have hB4 : Below w.heap.size w w4 := bel_call hB hb4
      clear l0 l1 z4 hB hb4
      go_loopw [8] (fun i wr => ∃ t : Nat, f ≤ t ∧ t ≤ 101 ∧ i = .int .i64 t ∧ Cells wr (w.heap.size + 1) 101 (fun j => if f ≤ j ∧ j < t then digF (cwP bn C (q + 1)) j else digF (cwP bn C q) j) ∧ Cells wr g 101 (digF C) ∧ wr.cell? ⟨w.heap.size, 0, none⟩ = some (.int .i64 a) ∧ wr.cell? ⟨w.heap.size, 1, none⟩ = some (.int .i64 bn) ∧ w.heap.size < wr.heap.size ∧ Below w.heap.size w wr) (fun i _ => 101 - (intOf i).toNat)
      case atStart => exact ⟨f, by omega, by omega, rfl, HP4.out, HC4.out, k0, k1, z5, hB4⟩
      case round =>
        clear k0 k1 z5 hB4
        obtain ⟨t, hft, ht, rfl, hT, hCt, l0, l1, z4, hB⟩ := hrel
        have HT := Lib.hid hT
        have HCt := Lib.hid hCt
        clear hT hCt
        by_cases htl : t < 101
        · have o1 : wr.cell? ⟨w.heap.size + 1, t, none⟩ = some (.int .i64 (cW bn C t q)) := by
            rw [HT.out.cell htl, if_neg (by omega)]; unfold digF; rw [cwP_at htl]
          have o2 : wr.frozen? ⟨w.heap.size + 1, t, none⟩ = false := HT.out.frozen htl
          have o3 : wr.cell? ⟨g, t - f, none⟩ = some (.int .i64 (C.getD (t - f) 0)) := HCt.out.cell (by omega)
          have htf : (t : Int) - (f : Int) = ((t - f : Nat) : Int) := by omega
          have htg : t - f < 101 := by omega
          have hth : ((t - f : Nat) : Int) < 101 := by omega
          obtain ⟨x0, x1⟩ := cW_bd HBn.out t q
          obtain ⟨y0, y1⟩ := HBn.out (t - f)
          have hst : cW bn C t (q + 1) = cW bn C t q + C.getD (t - f) 0 := by rw [cW, HF.out, Int.toNat_natCast, if_pos hft]
          have HST := Lib.hid hst
          clear hst
          generalize cW bn C t q = x at o1 x0 x1 HST
          generalize C.getD (t - f) 0 = y at o3 y0 y1 HST
          have HS := Lib.hid ((HT.out.set_ htl (.int .i64 (x + y))).congr (f' := fun j => if f ≤ j ∧ j < t + 1 then digF (cwP bn C (q + 1)) j else digF (cwP bn C q) j) (fun j hj => by
            by_cases e : j = t
            · subst e; rw [if_pos rfl, if_pos (by omega)]; unfold digF; rw [cwP_at htl, HST.out]
            · rw [if_neg e]
              by_cases e2 : f ≤ j ∧ j < t
              · rw [if_pos e2, if_pos (by omega)]
              · rw [if_neg e2, if_neg (by omega)]))
          go_wp2_with fail
          have hw1 : IntKind.i64.wrap ((t - f : Nat) : Int) = ((t - f : Nat) : Int) := IntWalk.i64_in _ (by omega)
          have hw2 : IntKind.i64.wrap (x + y) = x + y := IntWalk.i64_in _ (by omega)
          refine wp_region_still_tail 12 (by kernel_rfl) (by kernel_rfl) ?_
          simp only [List.take_succ_cons, List.take_zero, List.drop_succ_cons, List.drop_zero]
          repeat still_step
          refine wpStill_nil ?_
          clear hw1 hw2
          change wpList _ _ _ _ _ wr.drew
          go_wp2_with fail
          go_roundw
          case rel => exact ⟨t + 1, by omega, by omega, by go_num, HS.out.drew, ((HCt.out).far (by show w.heap.size + 1 ≠ g; omega) _).drew, (World.cell?_setCell_far _ _ _ _ (by simp)).trans l0, (World.cell?_setCell_far _ _ _ _ (by simp)).trans l1, by rw [show ∀ W : World, W.drew.heap = W.heap from fun _ => rfl, size_setCell]; exact z4, bel_drew (hB.setCell (by simp) _)⟩
          case measure => simp [intOf]; omega
        · go_wp2_with fail
          have hte : t = 101 := by omega
          have HTE : Hid (Cells wr (w.heap.size + 1) 101 (digF (cwP bn C (q + 1)))) := Lib.hid (HT.out.congr (fun j hj => by
            by_cases e : f ≤ j
            · rw [if_pos (by omega)]
            · rw [if_neg (by omega)]
              unfold digF
              rw [cwP_at hj, cwP_at hj, cW, HF.out, Int.toNat_natCast, if_neg (by omega), Int.add_zero]))
          clear hte
          go_roundw
          case rel => exact ⟨q + 1, by omega, by go_num, HTE.out, HCt.out, l0, l1, z4, hB⟩
          case measure => simp [intOf]; omega
    · go_wp2_with fail
      go_ret
      have hqe := congrArg (cwP (bn : Int) C) (show q = bn by omega)
      refine ⟨_, _, rfl, by omega, ?_, hB⟩
      rw [Int.toNat_natCast, ← hqe]
      exact HP.out

end Go.Proofs.Ythnekpdakjcadaa
