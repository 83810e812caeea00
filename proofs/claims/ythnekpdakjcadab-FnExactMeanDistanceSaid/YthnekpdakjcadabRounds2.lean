/- The model's loop over wheels, distances and digits. For locks. -/
import Derived.Test.YthnekpdakjcadabRounds
namespace Go.Proofs.Ythnekpdakjcadab
open Go.ChangeShapes Go.WideShapes Go.ChangeAt Go.RowKit Go.Joins

theorem one_cell (w : World) (x : Int) : Cells (w.alloc (.cells #[.int .i64 x] 3)) w.heap.size 1 (digF [x]) :=
  ⟨by simp, fun j hj => by
    rw [World.cell?_alloc_new, World.frozen?_alloc_new]
    obtain rfl : j = 0 := by omega
    exact ⟨rfl, rfl⟩⟩
theorem one_cell_at (w : World) (x : Int) {g : Nat} (hg : g = w.heap.size) : Cells (w.alloc (.cells #[.int .i64 x] 3)) g 1 (digF [x]) := by
  subst hg; exact one_cell w x

def RoundsOut (w : World) (ds : List Int) (e : Ending) (w' : World) : Prop :=
  ∃ g c, e = .returned (.slice (some ⟨g, 0, none⟩) ds.length c) ∧ w.heap.size ≤ g ∧ Cells w' g ds.length (digF ds) ∧ Below w.heap.size w w'

set_option maxHeartbeats 2000000 in
theorem whRounds_any (n : Nat) (b : Int) (w : World) (hg : goodB n b = true) :
    Calls Try.prog 46 #[.agg #[.int .i64 n, .int .i64 b]] w (RoundsOut w (roundsL b n)) := by
  obtain ⟨_, n6, b2, b10⟩ := good_yes hg
  clear hg
  go_enter Try.func46, Try.ntmps46
  go_wp2_with fail
  go_loopw [3, 4] (fun v i wr => ∃ (k j g c : Nat), k + j = n ∧ i = .int .i64 (j : Int) ∧ v = .slice (some ⟨g, 0, none⟩) (roundsL b k).length c ∧ w.heap.size < g ∧ Cells wr g (roundsL b k).length (digF (roundsL b k)) ∧ wr.cell? ⟨w.heap.size, 0, none⟩ = some (.int .i64 n) ∧ wr.cell? ⟨w.heap.size, 1, none⟩ = some (.int .i64 b) ∧ w.heap.size < wr.heap.size ∧ Below w.heap.size w wr) (fun _ i _ => (intOf i).toNat)
  case atStart => exact ⟨0, n, w.heap.size + 1, 1, by omega, rfl, rfl, by omega, one_cell_at _ _ (by simp), by simp, by simp, by simp; omega, by (repeat (first | assumption | exact Below.refl _ _ | (refine Below.alloc ?_ (by first | omega | (simp; done) | (simp; omega)) _) | (refine Below.setCell ?_ (by first | omega | (simp; done) | (simp; omega)) _) | refine bel_drewN ?_ _ | refine bel_drew ?_ | (refine bel_call ?_ (by assumption))))⟩
  case round =>
    obtain ⟨k, j, g, c, hkj, rfl, rfl, zg, hC, l0, l1, z4, hB⟩ := hrel
    have hk : k ≤ n := by omega
    have hj6 : j ≤ 6 := by omega
    have HKJ := Lib.hid hkj
    clear hkj
    have HC := Lib.hid hC
    have HBn := Lib.hid (rounds_bnd b2 b10 (k := k) (by omega))
    have hlen : (roundsL b k).length ≤ 31 := by
      rw [roundsL_length]
      have h5 : (b / 2).toNat ≤ 5 := by omega
      have := Nat.mul_le_mul (show k ≤ 6 by omega) h5
      omega
    have HK : Hid (roundsL b (k + 1) = nextL b (roundsL b k)) := Lib.hid rfl
    clear hC
    by_cases hlt : 0 < j
    · obtain ⟨R, HR⟩ : ∃ R, Hid (roundsL b k = R) := ⟨_, Lib.hid rfl⟩
      rw [HR.out] at HC HBn hlen HK ⊢
      obtain ⟨len, hl⟩ : ∃ len, len = R.length := ⟨_, rfl⟩
      have HLn := Lib.hid hl
      rw [← hl] at HC hlen ⊢
      clear hl
      obtain ⟨L, hL⟩ : ∃ L : Nat, L = len + (b / 2).toNat := ⟨_, rfl⟩
      have hLi : (len : Int) + b / 2 = (L : Int) := by omega
      have hLb : L ≤ 36 := by omega
      have hmk : ∀ W : World, (Instr.makeSlice 55 (.int .i64 ((len : Int) + b / 2)) (.int .i64 ((len : Int) + b / 2))).run Try.prog W = .ok (.slice (some ⟨W.heap.size, 0, none⟩) L L) (W.alloc (.cells (madeCells #[.int .i64 0] L) 3)) := fun W => by rw [hLi]; exact make_ints L (by omega) W
      have HLI := Lib.hid hLi
      have HLL := Lib.hid hL
      clear hLi hL
      go_wp2_with fail
      obtain ⟨G, hG⟩ : ∃ G, G = wr.heap.size := ⟨_, rfl⟩
      have hzc : Cells (wr.alloc (.cells (madeCells #[.int .i64 0] L) 3)) G L (digF (List.replicate L 0)) := by rw [hG]; exact zeros_cells L wr
      have hgG : g < G := by rw [hG]; exact HC.out.lt
      have hwG : w.heap.size < G := by rw [hG]; exact z4
      have HZC := Lib.hid hzc
      have m0 : (wr.alloc (.cells (madeCells #[.int .i64 0] L) 3)).cell? ⟨w.heap.size, 0, none⟩ = some (.int .i64 n) := by rw [World.cell?_alloc_lt _ _ _ z4]; exact l0
      have m1 : (wr.alloc (.cells (madeCells #[.int .i64 0] L) 3)).cell? ⟨w.heap.size, 1, none⟩ = some (.int .i64 b) := by rw [World.cell?_alloc_lt _ _ _ z4]; exact l1
      have hB1 : Below w.heap.size w (wr.alloc (.cells (madeCells #[.int .i64 0] L) 3)) := hB.alloc (Nat.le_of_lt z4) _
      have HC1 := Lib.hid (HC.out.alloc (.cells (madeCells #[.int .i64 0] L) 3))
      have z5 : w.heap.size < (wr.alloc (.cells (madeCells #[.int .i64 0] L) 3)).heap.size := by simp; omega
      rw [← hG]
      generalize wr.alloc (.cells (madeCells #[.int .i64 0] L) 3) = wa at HZC m0 m1 hB1 HC1 z5
      obtain ⟨bn, hbn⟩ : ∃ bn : Nat, b = bn := ⟨b.toNat, by omega⟩
      subst hbn
      clear hzc hmk l0 l1 z4 hB HC hG
      go_loopw [27] (fun i w2 => ∃ d : Nat, d ≤ len ∧ i = .int .i64 d ∧ Cells w2 G L (digF (stepAll bn R (List.replicate L 0) d)) ∧ Cells w2 g len (digF R) ∧ w2.cell? ⟨w.heap.size, 0, none⟩ = some (.int .i64 n) ∧ w2.cell? ⟨w.heap.size, 1, none⟩ = some (.int .i64 bn) ∧ w.heap.size < w2.heap.size ∧ Below w.heap.size w w2) (fun i _ => len - (intOf i).toNat)
      case atStart => exact ⟨0, by omega, rfl, HZC.out, HC1.out, m0, m1, z5, hB1⟩
      case round =>
        clear m0 m1 hB1 z5
        obtain ⟨d, hd, rfl, hA, hR2, l0, l1, z4, hB⟩ := hrel
        have HA := Lib.hid hA
        have HR2 := Lib.hid hR2
        clear hA hR2
        by_cases hdl : d < len
        · have o1 := HR2.out.cell hdl
          obtain ⟨x0, x1⟩ := HBn.out d
          have HBA := Lib.hid ((Bnd.zeros L).stepAll (b := (bn : Int)) HBn.out d)
          have hAl : (stepAll bn R (List.replicate L 0) d).length = L := by rw [stepAll_length, List.length_replicate]
          have HAL := Lib.hid hAl
          have HS1 : Hid (stepAll bn R (List.replicate L 0) (d + 1) = stepQ bn (R.getD d 0) d (stepAll bn R (List.replicate L 0) d) bn) := Lib.hid (by rw [stepAll, Int.toNat_natCast])
          unfold digF at o1
          generalize R.getD d 0 = x at o1 x0 x1 HS1
          generalize stepAll bn R (List.replicate L 0) d = A at HA HBA HAL HS1
          clear hAl
          go_wp2_with fail
          go_loopw [8] (fun i w3 => ∃ q : Nat, q ≤ bn ∧ i = .int .i64 q ∧ Cells w3 G L (digF (stepQ bn x d A q)) ∧ Cells w3 g len (digF R) ∧ w3.cell? ⟨w.heap.size, 0, none⟩ = some (.int .i64 n) ∧ w3.cell? ⟨w.heap.size, 1, none⟩ = some (.int .i64 bn) ∧ w.heap.size < w3.heap.size ∧ Below w.heap.size w w3) (fun i _ => bn - (intOf i).toNat)
          case atStart => exact ⟨0, by omega, rfl, HA.out, HR2.out, l0, l1, z4, hB⟩
          case round =>
            clear l0 l1 z4 hB
            obtain ⟨q, hq, rfl, hQ3, hR3, l0, l1, z4, hB⟩ := hrel
            have HQ3 := Lib.hid hQ3
            have HR3 := Lib.hid hR3
            clear hQ3 hR3
            by_cases hqb : q < bn
            · have hfh := far_half b2 0 (q : Int)
              obtain ⟨f, hf⟩ : ∃ f : Nat, farI bn 0 q = f := ⟨(farI bn 0 q).toNat, by omega⟩
              have HF : Hid (lstI (subI bn q 0) (subI bn 0 q) = (f : Int)) := Lib.hid hf
              have hdf : d + f < L := by have := HLL.out; omega
              have HQL : Hid ((stepQ bn x d A q).length = L) := Lib.hid (by rw [stepQ_length, HAL.out])
              have HQN : Hid (stepQ bn x d A (q + 1) = addAt (stepQ bn x d A q) (d + f) x) := Lib.hid (by rw [stepQ, hf, Int.toNat_natCast])
              obtain ⟨v0, v1⟩ := (HBA.out.stepQ (b := (bn : Int)) ⟨x0, x1⟩ d q) (d + f)
              have v2 : (d : Int) * (((bn : Int).toNat : Int) * 1000000) + (q : Int) * 1000000 ≤ 400000000 := by
                have h1 : (d : Int) * (((bn : Int).toNat : Int) * 1000000) ≤ 31 * (10 * 1000000) := Int.mul_le_mul (by omega) (by rw [Int.toNat_natCast]; omega) (by omega) (by omega)
                omega
              have v3 : (stepQ bn x d A q).getD (d + f) 0 ≤ 400000000 := by omega
              clear v1 v2 hf hfh
              have o2 := HQ3.out.cell hdf
              have o3 := HQ3.out.frozen hdf
              unfold digF at o2
              generalize hv : (stepQ bn x d A q).getD (d + f) 0 = v at o2 v0 v3
              have HV := Lib.hid hv
              clear hv
              go_wp2_with (first | (go_at_call 38; refine (whFar_any _ _ _ _ _ (by omega) (by omega) (by omega) (by omega)).mono ?_; rintro e w4 ⟨rfl, hb4⟩; have H4 := Lib.hid (HQ3.out.call hb4); have p1 := H4.out.cell hdf; have p2 := H4.out.frozen hdf; unfold digF at p1; rw [HV.out] at p1) | (go_at_call 39; refine (l1Least_any _ _ _).mono ?_; rw [HF.out]; rintro e w5 ⟨rfl, rfl⟩))
              have HS4 := Lib.hid ((H4.out.set_ hdf (.int .i64 (v + x))).congr (f' := digF (stepQ bn x d A (q + 1))) (fun j hj => by
                show (if j = d + f then Value.int .i64 (v + x) else digF (stepQ bn x d A q) j) = digF (stepQ bn x d A (q + 1)) j
                unfold digF
                rw [HQN.out, addAt_at _ _ (by rw [HQL.out]; exact hdf), HV.out]
                by_cases e : j = d + f
                · rw [if_pos e, if_pos e]
                · rw [if_neg e, if_neg e]))
              go_roundw
              case rel => exact ⟨q + 1, by omega, by go_num, HS4.out, (HR3.out.call hb4).far (by show G ≠ g; omega) _, by rw [World.cell?_setCell_far _ _ _ _ (by simp; omega), hb4.cell (p := ⟨w.heap.size, 0, none⟩) z4, l0], by rw [World.cell?_setCell_far _ _ _ _ (by simp; omega), hb4.cell (p := ⟨w.heap.size, 1, none⟩) z4, l1], by rw [size_setCell]; exact Nat.lt_of_lt_of_le z4 hb4.size, (bel_call hB hb4).setCell (Nat.le_of_lt hwG) _⟩
              case measure => simp [intOf]; omega
            · go_wp2_with fail
              have hqe := congrArg (stepQ (bn : Int) x d A) (show q = bn by omega)
              have HQE : Hid (Cells wr G L (digF (stepQ bn x d A bn))) := Lib.hid (by rw [← hqe]; exact HQ3.out)
              clear hqe
              go_roundw
              case rel => exact ⟨d + 1, by omega, by go_num, by rw [HS1.out]; exact HQE.out, HR3.out, l0, l1, z4, hB⟩
              case measure => simp [intOf]; omega
        · go_wp2_with fail
          have hde : d = len := by omega
          have HNX : Hid (roundsL bn (k + 1) = stepAll bn R (List.replicate L 0) len) := Lib.hid (by rw [HK.out, nextL, ← HLn.out, ← HLL.out])
          have HNL : Hid ((roundsL bn (k + 1)).length = L) := Lib.hid (by rw [HNX.out, stepAll_length, List.length_replicate])
          have HAE : Hid (Cells wr G L (digF (roundsL bn (k + 1)))) := Lib.hid (by rw [HNX.out, ← hde]; exact HA.out)
          clear hde
          go_roundw
          case rel => exact ⟨k + 1, j - 1, G, L, by have := HKJ.out; omega, congrArg (Value.int .i64) (by omega), by rw [HNL.out], hwG, by rw [HNL.out]; exact HAE.out, l0, l1, z4, hB⟩
          case measure => simp [intOf]; omega
    · go_wp2_with fail
      go_ret
      obtain rfl : k = n := by have := HKJ.out; omega
      exact ⟨g, c, rfl, Nat.le_of_lt zg, HC.out, hB⟩

end Go.Proofs.Ythnekpdakjcadab
