/- Clues read from texts by the program. For texts of at most 2^20 bytes. -/
import Derived.Test.YtgdjbclkdnmebaaDoorJp
namespace Go.Proofs.YtgdjbclkdnmebaaDoor
set_option maxRecDepth 100000
open Go.ChangeShapes Go.WideShapes Go.ChangeAt Go.RowKit Go.Joins

theorem splitN_any (t : ByteArray) (ht : t.size ≤ 1048576) (w : World) (hL : LibW w) :
    Calls Tryd.prog 86 #[.string t, .string ⟨#[46]⟩, .int .i64 3] w fun e w' => ∃ c, e = .returned (.slice (some ⟨w.heap.size, 0, none⟩) (cnP t).length c) ∧ Cells w' w.heap.size (cnP t).length (strF (cnP t)) ∧ Below w.heap.size w w' := by
  obtain ⟨m, hm⟩ := hL.max
  refine (Go.Proofs.Tryd.strings_SplitN t ⟨#[46]⟩ 3 m w (by omega) hm (Nat.le_refl 1) (by omega) (by omega)).mono ?_
  rintro e w' ⟨rfl, rfl⟩
  refine ⟨_, rfl, ?_, (Below.refl _ _).alloc (Nat.le_refl _) _⟩
  have hle := Lib.splitB_length_le ⟨#[46]⟩ 0 (min 3 (t.size + 1) - 1) t
  have hsz := Lib.cellsOf_size (done := cnP t) (N := min 3 (t.size + 1)) (by unfold cnP; omega)
  have h := Cells.new (W := w) (t := 9) (g := w.heap.size) (n := min 3 (t.size + 1)) (cs := Lib.cellsOf (cnP t) (min 3 (t.size + 1))) rfl hsz.symm
  refine ⟨h.lt, fun j hj => ?_⟩
  have h2 := h.at_ j (by unfold cnP at hj; omega)
  have e : (Lib.cellsOf (cnP t) (min 3 (t.size + 1))).toList.getD j undef = strF (cnP t) j := by
    unfold Lib.cellsOf strF
    rw [List.getD, List.getD, List.getElem?_append_left (by rw [List.length_map]; exact hj), List.getElem?_map, List.getElem?_eq_getElem hj]
    rfl
  rw [e] at h2
  exact h2

theorem cqN_lt {t : ByteArray} {j : Nat} (h : j < (cnP t).length) : cqN t j = atoiV ((cnP t).getD j ByteArray.empty).data.toList := by
  unfold cqN
  rw [if_pos h]

theorem cqN_ge {t : ByteArray} {j : Nat} (h : ¬ j < (cnP t).length) : cqN t j = 0 := by
  unfold cqN
  rw [if_neg h]

theorem splitB_part_le (sep : ByteArray) : ∀ (k : Nat) (s : ByteArray), ∀ p ∈ Lib.splitB sep 0 k s, p.size ≤ s.size
  | 0, s, p, h => by
    rw [Lib.splitB_zero, List.mem_singleton] at h
    rw [h]
    exact Nat.le_refl _
  | k + 1, s, p, h => by
    rcases Lib.indexB_cases s sep with hi | ⟨i, hi, _⟩
    · rw [Lib.splitB_miss _ _ _ _ hi, List.mem_singleton] at h
      rw [h]
      exact Nat.le_refl _
    · rw [Lib.splitB_hit _ _ _ _ i hi] at h
      rcases List.mem_cons.1 h with rfl | h
      · rw [ByteArray.size_extract]; omega
      · have := splitB_part_le sep k _ p h
        rw [ByteArray.size_extract] at this
        omega

theorem cnP_part {t : ByteArray} {j : Nat} (h : j < (cnP t).length) : ((cnP t).getD j ByteArray.empty).size ≤ t.size := by
  rw [List.getD, List.getElem?_eq_getElem h]
  exact splitB_part_le _ _ _ _ (List.getElem_mem _)

/-- The first numbers, the others 0. -/
def nuF (t : ByteArray) (k j : Nat) : Value := .int .i64 (if j < k then cqN t j else 0)

set_option maxHeartbeats 4000000 in
theorem clueNear_any (t : ByteArray) (ht : t.size ≤ 1048576) (w : World) (hL : LibW w) :
    Calls Tryd.prog 53 #[.string t] w fun e w' => e = .returned (.agg #[.int .i64 (cqN t 0), .int .i64 (cqN t 1), .int .i64 (cqN t 2)]) ∧ Below w.heap.size w w' := by
  have HL := Lib.hid hL
  have hl := hL.low
  have h3 := cnP_length t
  obtain ⟨L, hLn⟩ : ∃ L, (cnP t).length = L := ⟨_, rfl⟩
  have HLN := Lib.hid hLn
  have C0 := Lib.hid (show Cells (w.alloc (.cells #[.int .i64 0, .int .i64 0, .int .i64 0] 77)) w.heap.size 3 (fun j => #[Value.int .i64 0, .int .i64 0, .int .i64 0].toList.getD j undef) from Cells.new (n := 3) rfl rfl)
  have B0 := Lib.hid (show Below w.heap.size w (w.alloc (.cells #[.int .i64 0, .int .i64 0, .int .i64 0] 77)) from (Below.refl _ _).alloc (Nat.le_refl _) _)
  have C1 := Lib.hid (C0.out.alloc (.cells #[.int .i64 0, .int .i64 0, .int .i64 0] 109))
  have B1 := Lib.hid (B0.out.alloc B0.out.size (.cells #[.int .i64 0, .int .i64 0, .int .i64 0] 109))
  have N1 := Lib.hid ((show Cells ((w.alloc (.cells #[.int .i64 0, .int .i64 0, .int .i64 0] 77)).alloc (.cells #[.int .i64 0, .int .i64 0, .int .i64 0] 109)) (w.heap.size + 1) 3 (fun j => #[Value.int .i64 0, .int .i64 0, .int .i64 0].toList.getD j undef) from Cells.new (n := 3) (by simp) rfl).congr (f' := nuF t 0) (fun j hj => by
    have : j = 0 ∨ j = 1 ∨ j = 2 := by omega
    rcases this with rfl | rfl | rfl <;> rfl))
  have hz1 : ((w.alloc (.cells #[.int .i64 0, .int .i64 0, .int .i64 0] 77)).alloc (.cells #[.int .i64 0, .int .i64 0, .int .i64 0] 109)).heap.size = w.heap.size + 2 := by simp
  rw [hLn] at h3
  clear hL hLn
  go_enter Tryd.func53, Tryd.ntmps53
  go_wp2_with (first
    | (go_at_call 86; refine (splitN_any t ht _ (HL.out.below B1.out hl)).mono ?_; rw [HLN.out, hz1]; rintro e w2 ⟨cc, rfl, hS2, hb2⟩
       have C2 := Lib.hid (C1.out.call (hz1 ▸ hb2))
       have N2 := Lib.hid (N1.out.call (hz1 ▸ hb2))
       have B2 := Lib.hid (bel_call B1.out (hz1 ▸ hb2))
       have S2 := Lib.hid hS2
       clear hb2 hS2))
  go_loopw [9] (fun i wr => ∃ k : Nat, k ≤ L ∧ i = .int .i64 k ∧ Cells wr (w.heap.size + 1) 3 (nuF t k) ∧ Cells wr w.heap.size 3 (fun j => #[Value.int .i64 0, .int .i64 0, .int .i64 0].toList.getD j undef) ∧ Cells wr (w.heap.size + 2) L (strF (cnP t)) ∧ Below w.heap.size w wr) (fun i _ => L - (intOf i).toNat)
  case atStart => exact ⟨0, by omega, rfl, N2.out, C2.out, S2.out, B2.out⟩
  case round =>
    clear C0 B0 C1 B1 N1 C2 N2 B2 S2
    obtain ⟨k, hk, rfl, hN, hC, hS, hB⟩ := hrel
    have HN := Lib.hid hN
    have HC := Lib.hid hC
    have HS := Lib.hid hS
    have HB := Lib.hid hB
    clear hN hC hS hB
    by_cases hlt : k < L
    · have o0 : wr.cell? ⟨w.heap.size + 2, k, none⟩ = some (.string ((cnP t).getD k ByteArray.empty)) := HS.out.cell hlt
      have hp : ((cnP t).getD k ByteArray.empty).size ≤ 1048576 := Nat.le_trans (cnP_part (by rw [HLN.out]; exact hlt)) ht
      have HV := Lib.hid (cqN_lt (t := t) (j := k) (by rw [HLN.out]; exact hlt))
      generalize (cnP t).getD k ByteArray.empty = p at o0 hp HV
      obtain ⟨V, hV⟩ : ∃ V, cqN t k = V := ⟨_, rfl⟩
      have HVV := Lib.hid hV
      rw [hV] at HV
      clear hV
      have hk3 : k < 3 := by omega
      go_wp2_with (first
        | (go_at_call 36; refine (atoi_any p hp _ (HL.out.below HB.out hl)).mono ?_; rintro e w3 ⟨q, rfl, hb3⟩; rw [show atoiV p.data.toList = V from HV.out.symm]
           have N3 := Lib.hid (HN.out.call hb3)
           have C3 := Lib.hid (HC.out.call hb3)
           have S3 := Lib.hid (HS.out.call hb3)
           have B3 := Lib.hid (bel_call HB.out hb3)
           have f0 := N3.out.frozen hk3
           have o1 : w3.cell? ⟨w.heap.size + 1, k, none⟩ = some (nuF t k k) := N3.out.cell hk3
           clear hb3 o0))
      go_roundw
      case rel =>
        refine ⟨k + 1, by omega, by go_num, ?_, ?_, ?_, ?_⟩
        · refine (N3.out.set_ hk3 (.int .i64 V)).congr fun j hj => ?_
          unfold nuF
          by_cases e : j = k
          · subst e
            rw [if_pos rfl, if_pos (by omega), HVV.out]
          · rw [if_neg e]
            by_cases e2 : j < k
            · rw [if_pos e2, if_pos (by omega)]
            · rw [if_neg e2, if_neg (by omega)]
        · exact C3.out.far (by show w.heap.size + 1 ≠ w.heap.size; omega) _
        · exact S3.out.far (by show w.heap.size + 1 ≠ w.heap.size + 2; omega) _
        · exact B3.out.setCell (by show w.heap.size ≤ w.heap.size + 1; omega) _
      case measure => simp [intOf]; omega
    · obtain rfl : k = L := by omega
      have hN := HN.out.congr (f' := fun j => .int .i64 (cqN t j)) (fun j hj => by
        unfold nuF
        by_cases e : j < k
        · rw [if_pos e]
        · rw [if_neg e, cqN_ge (by rw [HLN.out]; exact e)])
      have n0 := hN.cell (show 0 < 3 by omega)
      have n1 := hN.cell (show 1 < 3 by omega)
      have n2 := hN.cell (show 2 < 3 by omega)
      have f0 := HC.out.frozen (show 0 < 3 by omega)
      have f1 := HC.out.frozen (show 1 < 3 by omega)
      have f2 := HC.out.frozen (show 2 < 3 by omega)
      have c0 := HC.out.cell (show 0 < 3 by omega)
      have c1 := HC.out.cell (show 1 < 3 by omega)
      have c2 := HC.out.cell (show 2 < 3 by omega)
      clear hN
      go_wp2_with fail
      refine bodyPost_ret (v := .agg #[.int .i64 (cqN t 0), .int .i64 (cqN t 1), .int .i64 (cqN t 2)]) (by simp [results, Tryd.results53, go_sem, c0, c1, c2]) rfl ?_
      exact ⟨rfl, ((HB.out.setCell (p := ⟨w.heap.size, 0, none⟩) (Nat.le_refl _) _).setCell (p := ⟨w.heap.size, 1, none⟩) (Nat.le_refl _) _).setCell (p := ⟨w.heap.size, 2, none⟩) (Nat.le_refl _) _⟩

end Go.Proofs.YtgdjbclkdnmebaaDoor
