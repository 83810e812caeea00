/- The masks of the places, as the program makes them. For lists of numbers from 0 to 8, at most 7 of them. -/
import Derived.Test.YtaajklkldfgppaaVg
import Derived.Laws.Shifts
namespace Go.Proofs.Ytaajklkldfgppaa
open Go.ChangeShapes Go.WideShapes Go.ChangeAt Go.RowKit Go.Joins

def zF (_ : Nat) : Value := .int .i64 0

/-- Masks as a value. -/
def cutV (f : Nat → Int) : Value := .agg #[.int .i64 (f 0), .int .i64 (f 1), .int .i64 (f 2), .int .i64 (f 3), .int .i64 (f 4), .int .i64 (f 5), .int .i64 (f 6)]

theorem cells_zero7 (W : World) (t : TypeId) {g : Nat} (hg : g = W.heap.size) : Cells (W.alloc (.cells #[.int .i64 0, .int .i64 0, .int .i64 0, .int .i64 0, .int .i64 0, .int .i64 0, .int .i64 0] t)) g 7 zF :=
  (Cells.new (n := 7) hg rfl).congr fun j hj => by
    have : j = 0 ∨ j = 1 ∨ j = 2 ∨ j = 3 ∨ j = 4 ∨ j = 5 ∨ j = 6 := by omega
    rcases this with rfl | rfl | rfl | rfl | rfl | rfl | rfl <;> rfl

/-- The masks of the first k places, and the first i numbers of the next. -/
def cutF (ks : List (List Int)) (k i : Nat) (j : Nat) : Value := .int .i64 ((if j < k then mkP ks j else if j = k then mkT (ks.getD k []) i else 0 : Nat) : Int)

theorem cutF_zero (ks : List (List Int)) (j : Nat) : cutF ks 0 0 j = zF j := by
  unfold cutF zF
  rw [if_neg (by omega)]
  split <;> rfl

theorem cutF_next (ks : List (List Int)) (k j : Nat) : cutF ks k (ks.getD k []).length j = cutF ks (k + 1) 0 j := by
  unfold cutF
  by_cases h1 : j < k
  · rw [if_pos h1, if_pos (by omega)]
  · rw [if_neg h1]
    by_cases h2 : j = k
    · subst h2; rw [if_pos rfl, if_pos (by omega)]; rfl
    · rw [if_neg h2, if_neg (by omega)]
      split <;> rfl

theorem cutF_set (ks : List (List Int)) (k i j : Nat) : (if j = k then .int .i64 ((mkT (ks.getD k []) (i + 1) : Nat) : Int) else cutF ks k i j) = cutF ks k (i + 1) j := by
  unfold cutF
  by_cases h2 : j = k
  · subst h2; rw [if_pos rfl, if_neg (by omega), if_pos rfl]
  · rw [if_neg h2]
    by_cases h1 : j < k
    · rw [if_pos h1, if_pos h1]
    · rw [if_neg h1, if_neg h2, if_neg h1, if_neg h2]

theorem shl_small {e : Nat} (h : e < 9) : wrap64 ((2 : Int) ^ e) = ((2 ^ e : Nat) : Int) := by
  have : e = 0 ∨ e = 1 ∨ e = 2 ∨ e = 3 ∨ e = 4 ∨ e = 5 ∨ e = 6 ∨ e = 7 ∨ e = 8 := by omega
  rcases this with rfl | rfl | rfl | rfl | rfl | rfl | rfl | rfl | rfl <;> decide +kernel

set_option maxRecDepth 100000 in
set_option maxHeartbeats 4000000 in
theorem cuts_any (d : Int) (A : Option Addr) (n c : Nat) (ks : List (List Int)) (w : World) (hn : n ≤ 7) (hA : KnobsA w A n ks) (hS : SmallP ks) :
    Calls Try.prog 66 #[.agg #[.int .i64 d, .slice A n c]] w fun e w' => e = .returned (cutV (fun j => (mkP ks j : Int))) ∧ Below w.heap.size w w' := by
  have HN := Lib.hid hA.len
  have HA := Lib.hid hA
  have HS := Lib.hid hS
  clear hA hS
  obtain ⟨W3, hW3⟩ : ∃ W3, ((w.alloc (.cells #[.int .i64 d, .slice A n c] 26)).alloc (.cells #[.int .i64 0, .int .i64 0, .int .i64 0, .int .i64 0, .int .i64 0, .int .i64 0, .int .i64 0] 76)).alloc (.cells #[.int .i64 0, .int .i64 0, .int .i64 0, .int .i64 0, .int .i64 0, .int .i64 0, .int .i64 0] 76) = W3 := ⟨_, rfl⟩
  have HB3 := Lib.hid (show Below w.heap.size w W3 from by rw [← hW3]; (repeat (first | assumption | exact Below.refl _ _ | (refine Below.alloc ?_ (by first | omega | (simp; done) | (simp; omega)) _) | (refine Below.setCell ?_ (by first | omega | (simp; done) | (simp; omega)) _) | refine bel_drewN ?_ _ | refine bel_drew ?_ | (refine bel_call ?_ (by assumption)))))
  have CR := Lib.hid (show Cells W3 (w.heap.size + 1) 7 zF from by rw [← hW3]; exact Cells.alloc (cells_zero7 (w.alloc _) _ (by rw [World.size_alloc])) _)
  have CS := Lib.hid (show Cells W3 (w.heap.size + 1 + 1) 7 zF from by rw [← hW3]; exact cells_zero7 ((w.alloc _).alloc _) _ (by rw [World.size_alloc, World.size_alloc]))
  have HW := Lib.hid hW3
  clear hW3
  go_enter Try.func66, Try.ntmps66
  go_wp2_with fail
  go_loopw [11] (fun iv wr => ∃ k : Nat, k ≤ n ∧ iv = .int .i64 k ∧ Cells wr (w.heap.size + 1) 7 zF ∧ Cells wr (w.heap.size + 1 + 1) 7 (cutF ks k 0) ∧ Below w.heap.size w wr) (fun iv _ => n - (intOf iv).toNat)
  case atStart => rw [HW.out]; exact ⟨0, by omega, rfl, CR.out, CS.out.congr (fun j _ => (cutF_zero ks j).symm), HB3.out⟩
  case round =>
    clear HW CR CS HB3
    obtain ⟨k, hk, rfl, hR, hC, hB⟩ := hrel
    have HR := Lib.hid hR
    have HC := Lib.hid hC
    have HB := Lib.hid hB
    clear hR hC hB
    by_cases hlt : k < n
    · obtain ⟨b, off, rfl, hb, hc⟩ := HA.out.at_.resolve_left (by omega)
      obtain ⟨Ak, ck, o1', hmx, hI⟩ := hc k hlt
      unfold maxLen at hmx
      have o1 : wr.cell? ⟨b, off + k, none⟩ = some (.slice Ak (ks.getD k []).length ck) := by rw [HB.out.cell (p := ⟨b, off + k, none⟩) hb]; exact o1'
      clear o1'
      have HI := Lib.hid hI
      have HSK := Lib.hid (HS.out k (by rw [HN.out]; exact hlt))
      have HMZ : Hid (mkT (ks.getD k []) 0 = 0) := Lib.hid rfl
      clear hc hI
      obtain ⟨m, hm⟩ : ∃ m, (ks.getD k []).length = m := ⟨_, rfl⟩
      have HM := Lib.hid hm
      rw [hm] at o1 HI hmx
      clear hm
      obtain ⟨w1, hw1⟩ : ∃ w1, w1 = wr := ⟨wr, rfl⟩
      subst hw1
      go_wp2_with fail
      go_loopw [18] (fun iv wr => ∃ i : Nat, i ≤ m ∧ iv = .int .i64 i ∧ Cells wr (w.heap.size + 1) 7 zF ∧ Cells wr (w.heap.size + 1 + 1) 7 (cutF ks k i) ∧ Below w.heap.size w wr) (fun iv _ => m - (intOf iv).toNat)
      case atStart => exact ⟨0, by omega, rfl, HR.out, HC.out, HB.out⟩
      case round =>
        clear HR HC
        obtain ⟨i, hi, rfl, hR, hC, hB2⟩ := hrel
        have HR := Lib.hid hR
        have HC := Lib.hid hC
        have HB2 := Lib.hid hB2
        clear hR hC hB2
        by_cases hlt2 : i < m
        · obtain ⟨b2, off2, rfl, hb2, hc2⟩ := (HI.out.below HB2.out).at_.resolve_left (by omega)
          have o2 := hc2 i hlt2
          have hx := small_at HSK.out (k := i) (by rw [HM.out]; exact hlt2)
          have HMX : Hid (mkT (ks.getD k []) (i + 1) = mkT (ks.getD k []) i ||| 2 ^ ((ks.getD k []).getD i 0).toNat) := Lib.hid rfl
          have hml := mkT_lt HSK.out (k := i) (by rw [HM.out]; omega)
          obtain ⟨e, he⟩ : ∃ e : Nat, (ks.getD k []).getD i 0 = (e : Int) := ⟨((ks.getD k []).getD i 0).toNat, by omega⟩
          rw [he] at o2 hx HMX
          rw [Int.toNat_natCast] at HMX
          have he9 : e < 9 := by omega
          have p1 : wr.cell? ⟨w.heap.size + 1 + 1, k, none⟩ = some (.int .i64 ((mkT (ks.getD k []) i : Nat) : Int)) := by
            have h := HC.out.cell (show k < 7 by omega)
            unfold cutF at h
            rw [if_neg (by omega), if_pos rfl] at h
            exact h
          have p2 := HC.out.frozen (show k < 7 by omega)
          have HCN := Lib.hid ((HC.out.set_ (show k < 7 by omega) (.int .i64 ((mkT (ks.getD k []) (i + 1) : Nat) : Int))).congr (fun j _ => cutF_set ks k i j))
          have HRN := Lib.hid (HR.out.far (p := ⟨w.heap.size + 1 + 1, k, none⟩) (by show w.heap.size + 1 + 1 ≠ w.heap.size + 1; omega) (.int .i64 ((mkT (ks.getD k []) (i + 1) : Nat) : Int)))
          have hor := or_small hml (Nat.pow_lt_pow_right (a := 2) (by decide) he9)
          rw [← HMX.out] at hor
          generalize mkT (ks.getD k []) (i + 1) = z1 at hor HCN HRN
          generalize mkT (ks.getD k []) i = z0 at hor p1 hml
          clear hc2 he HMX hx
          go_wp2_with fail
          go_region
          all_goals
            rw [shl_small he9, hor]
            go_wp2_with fail
            go_roundw
            case rel => exact ⟨i + 1, by omega, by go_num, HRN.out.drew, HCN.out.drew, bel_drew (HB2.out.setCell (by show w.heap.size ≤ w.heap.size + 1 + 1; omega) _)⟩
            case measure => simp [intOf]; omega
        · obtain rfl : i = m := by omega
          go_wp2_with fail
          go_roundw
          case rel => exact ⟨k + 1, by omega, by go_num, HR.out, HC.out.congr (fun j _ => by rw [← HM.out]; exact cutF_next ks k j), HB2.out⟩
          case measure => simp [intOf]; omega
    · obtain rfl : k = n := by omega
      have CF : ∀ j, j < 7 → wr.cell? ⟨w.heap.size + 1 + 1, j, none⟩ = some (.int .i64 ((mkP ks j : Nat) : Int)) := fun j hj => by
        rw [HC.out.cell hj]
        unfold cutF
        by_cases h1 : j < k
        · rw [if_pos h1]
        · rw [if_neg h1, mkP_out (by rw [HN.out]; omega)]
          split <;> rfl
      have HE := Lib.hid (show cutV (fun j => (mkP ks j : Int)) = .agg #[.int .i64 (mkP ks 0 : Int), .int .i64 (mkP ks 1 : Int), .int .i64 (mkP ks 2 : Int), .int .i64 (mkP ks 3 : Int), .int .i64 (mkP ks 4 : Int), .int .i64 (mkP ks 5 : Int), .int .i64 (mkP ks 6 : Int)] from rfl)
      have c0 := CF 0 (by omega)
      have c1 := CF 1 (by omega)
      have c2 := CF 2 (by omega)
      have c3 := CF 3 (by omega)
      have c4 := CF 4 (by omega)
      have c5 := CF 5 (by omega)
      have c6 := CF 6 (by omega)
      generalize ((mkP ks 0 : Nat) : Int) = x0 at HE c0
      generalize ((mkP ks 1 : Nat) : Int) = x1 at HE c1
      generalize ((mkP ks 2 : Nat) : Int) = x2 at HE c2
      generalize ((mkP ks 3 : Nat) : Int) = x3 at HE c3
      generalize ((mkP ks 4 : Nat) : Int) = x4 at HE c4
      generalize ((mkP ks 5 : Nat) : Int) = x5 at HE c5
      generalize ((mkP ks 6 : Nat) : Int) = x6 at HE c6
      have r0 : wr.cell? ⟨w.heap.size + 1, 0, none⟩ = some (.int .i64 0) := HR.out.cell (by omega)
      have r1 : wr.cell? ⟨w.heap.size + 1, 1, none⟩ = some (.int .i64 0) := HR.out.cell (by omega)
      have r2 : wr.cell? ⟨w.heap.size + 1, 2, none⟩ = some (.int .i64 0) := HR.out.cell (by omega)
      have r3 : wr.cell? ⟨w.heap.size + 1, 3, none⟩ = some (.int .i64 0) := HR.out.cell (by omega)
      have r4 : wr.cell? ⟨w.heap.size + 1, 4, none⟩ = some (.int .i64 0) := HR.out.cell (by omega)
      have r5 : wr.cell? ⟨w.heap.size + 1, 5, none⟩ = some (.int .i64 0) := HR.out.cell (by omega)
      have r6 : wr.cell? ⟨w.heap.size + 1, 6, none⟩ = some (.int .i64 0) := HR.out.cell (by omega)
      have f0 := HR.out.frozen (show 0 < 7 by omega)
      have f1 := HR.out.frozen (show 1 < 7 by omega)
      have f2 := HR.out.frozen (show 2 < 7 by omega)
      have f3 := HR.out.frozen (show 3 < 7 by omega)
      have f4 := HR.out.frozen (show 4 < 7 by omega)
      have f5 := HR.out.frozen (show 5 < 7 by omega)
      have f6 := HR.out.frozen (show 6 < 7 by omega)
      clear CF
      go_wp2_with fail
      refine bodyPost_ret (v := .agg #[.int .i64 x0, .int .i64 x1, .int .i64 x2, .int .i64 x3, .int .i64 x4, .int .i64 x5, .int .i64 x6]) (by simp [results, Try.results66, go_sem, r0, r1, r2, r3, r4, r5, r6]) rfl ⟨congrArg Ending.returned HE.out.symm, ?_⟩
      iterate 7 (refine Below.setCell ?_ (by show w.heap.size ≤ w.heap.size + 1; omega) _)
      exact HB.out

end Go.Proofs.Ytaajklkldfgppaa
