/- The text of a puzzle, as both programs write it. Where the library's table of powers is as it is laid. -/
import Derived.Test.YtgdjbclkdnmebaaDoorJl
namespace Go.Proofs.YtgdjbclkdnmebaaDoor
set_option maxRecDepth 100000
open Go.ChangeShapes Go.WideShapes Go.ChangeAt Go.RowKit Go.Joins

set_option maxHeartbeats 2000000 in
theorem specPuzzleText_any (a b : Int) (A : Option Addr) (n c : Nat) (cs : List Clu) (w : World) (hn : n ≤ maxLen) (hA : ArgC w A n cs) :
    Calls Tryd.prog 17 #[.agg #[.int .i64 a, .int .i64 b, .slice A n c]] w fun e w' => e = .returned (.tuple #[.string (ptB a b cs), .bool (pzB a b cs)]) ∧ Below w.heap.size w w' := by
  have HA := Lib.hid hA
  have HL := Lib.hid hA.len
  have HMX := Lib.hid hn
  have X0 := Lib.hid (show Below w.heap.size w (w.alloc (.cells #[.int .i64 a, .int .i64 b, .slice A n c] 46)) from (Below.refl _ _).alloc (Nat.le_refl _) _)
  have C0 := Lib.hid (show Cells (w.alloc (.cells #[.int .i64 a, .int .i64 b, .slice A n c] 46)) w.heap.size 3 (fun j => #[Value.int .i64 a, .int .i64 b, .slice A n c].toList.getD j undef) from Cells.new (n := 3) rfl rfl)
  clear hA hn
  by_cases hg : pzB a b cs = true
  · have HG := Lib.hid hg
    have HV : Hid (ptB a b cs = pzU a b cs n) := Lib.hid (by unfold ptB; rw [hg, if_pos rfl, HL.out])
    clear hg
    go_enter Tryd.func17, Tryd.ntmps17
    go_wp2_with (first
      | (go_at_call 42; refine (pzGood_any _ _ _ _ _ cs _ HMX.out (HA.out.below X0.out)).mono ?_; rw [HG.out]; rintro e w1 ⟨rfl, hb1⟩
         have X1 := Lib.hid (bel_call X0.out hb1)
         have C1 := Lib.hid (C0.out.call hb1)
         have j0 : w1.cell? ⟨w.heap.size, 0, none⟩ = some (.int .i64 a) := C1.out.cell (show 0 < 3 by omega)
         have j1 : w1.cell? ⟨w.heap.size, 1, none⟩ = some (.int .i64 b) := C1.out.cell (show 1 < 3 by omega)
         have j2 : w1.cell? ⟨w.heap.size, 2, none⟩ = some (.slice A n c) := C1.out.cell (show 2 < 3 by omega)
         clear hb1)
      | (go_at_call 43; refine (pzText_any _ _ _ _ _ cs _ HG.out (HA.out.below X1.out)).mono ?_; rintro e w2 ⟨rfl, hb2⟩))
    go_ret2
    exact ⟨by rw [HV.out, HG.out]; first | done | rfl, bel_call X1.out hb2⟩
  · have HG := Lib.hid (Bool.eq_false_iff.2 hg)
    have HV : Hid (ptB a b cs = ⟨#[]⟩) := Lib.hid (by unfold ptB; rw [HG.out]; rfl)
    clear hg
    go_enter Tryd.func17, Tryd.ntmps17
    go_wp2_with (go_at_call 42; refine (pzGood_any _ _ _ _ _ cs _ HMX.out (HA.out.below X0.out)).mono ?_; rw [HG.out]; rintro e w1 ⟨rfl, hb1⟩; have X1 := Lib.hid (bel_call X0.out hb1); clear hb1)
    go_ret2
    exact ⟨by rw [HV.out, HG.out]; first | done | rfl, X1.out⟩

theorem pzJ_size {a b : Int} {cs : List Clu} {n : Nat} (h : PzH a b cs n) : (pzJ cs n).size ≤ 80 := by
  have h1 := pzU_size h n (Nat.le_refl _)
  have e := pzU_join (a := a) (b := b) (cs := cs) n (by rw [h.len]; exact Nat.le_refl _)
  rw [e, ByteArray.size_append] at h1
  have := h.n6
  omega

theorem join_clues (g n c : Nat) (cs : List Clu) (w : World) (hl : cs.length = n) (hn : n ≤ 6) (hc : n ≤ c) (hz : (pzJ cs n).size ≤ 80) (hA : g < w.heap.size) (hC : Cells w g n (strF (pzP cs n))) :
    Calls Tryd.prog 32 #[.slice (some ⟨g, 0, none⟩) n c, .string ⟨#[44]⟩] w fun e w' => e = .returned (.string (pzJ cs n)) ∧ Below w.heap.size w w' := by
  have hp : (pzP cs n).length = n := pzP_length (by omega)
  have h := Go.Proofs.Tryd.strings_Join g 0 c (pzP cs n) ⟨#[44]⟩ w (fun j x hj => by
    have hj' : j < (pzP cs n).length := (List.getElem?_eq_some_iff.1 hj).1
    rw [Nat.zero_add, hC.cell (by omega)]
    unfold strF
    rw [List.getD, hj]
    rfl) hA (by omega) (by omega) (by
      have : (Lib.join ((pzP cs n).map (·.data.toList)) (⟨#[44]⟩ : ByteArray).data.toList).length = (pzJ cs n).size := rfl
      omega)
  rw [hp] at h
  exact h

set_option maxHeartbeats 8000000 in
theorem puzzleText_any (a b : Int) (A : Option Addr) (n c : Nat) (cs : List Clu) (w : World) (hn : n ≤ maxLen) (hA : ArgC w A n cs) (hT : TabW w) :
    Calls Tryd.prog 19 #[.agg #[.int .i64 a, .int .i64 b, .slice A n c]] w fun e w' => e = .returned (.tuple #[.string (ptB a b cs), .bool (pzB a b cs)]) ∧ Below w.heap.size w w' := by
  have HA := Lib.hid hA
  have HL := Lib.hid hA.len
  have HMX := Lib.hid hn
  have HT := Lib.hid hT
  have hlow := hT.low
  have X0 := Lib.hid (show Below w.heap.size w (w.alloc (.cells #[.int .i64 a, .int .i64 b, .slice A n c] 46)) from (Below.refl _ _).alloc (Nat.le_refl _) _)
  have C0 := Lib.hid (show Cells (w.alloc (.cells #[.int .i64 a, .int .i64 b, .slice A n c] 46)) w.heap.size 3 (fun j => #[Value.int .i64 a, .int .i64 b, .slice A n c].toList.getD j undef) from Cells.new (n := 3) rfl rfl)
  clear hA hn hT
  by_cases hg : pzB a b cs = true
  · obtain ⟨i0, hi, hz0, hz1, hz2⟩ := info_parts info_string
    have HG := Lib.hid hg
    have HH := Lib.hid (pzH hg HL.out)
    have HV : Hid (ptB a b cs = pzU a b cs n) := Lib.hid (by unfold ptB; rw [hg, if_pos rfl, HL.out])
    obtain ⟨a1, a6, b2, b10, n6⟩ : 1 ≤ a ∧ a ≤ 6 ∧ 2 ≤ b ∧ b ≤ 10 ∧ n ≤ 6 := ⟨HH.out.a1, HH.out.a6, HH.out.b2, HH.out.b10, HH.out.n6⟩
    clear hg
    go_enter Tryd.func19, Tryd.ntmps19
    go_wp2_with (first
      | (go_at_call 46; refine (isPuzzle_any _ _ _ _ _ cs _ HMX.out (HA.out.below X0.out)).mono ?_; rw [HG.out]; rintro e w1 ⟨rfl, hb1⟩
         have X1 := Lib.hid (bel_call X0.out hb1)
         have C1 := Lib.hid (C0.out.call hb1)
         have j2 : w1.cell? ⟨w.heap.size, 2, none⟩ = some (.slice A n c) := C1.out.cell (show 2 < 3 by omega)
         have hz1' := C1.out.lt
         clear hb1))
    obtain ⟨R0, hR0⟩ : ∃ R, w1.heap.size = R := ⟨_, rfl⟩
    clear j2
    go_loopw [4, 13] (fun s i wr => ∃ (k : Nat) (v : Value), k ≤ n ∧ i = .int .i64 k ∧ v = s ∧ wr.ownsRow R0 9 1 v k (sv (pzP cs k)) ∧ R0 ≤ wr.heap.size ∧ Below w.heap.size w wr ∧ Cells wr w.heap.size 3 (fun j => #[Value.int .i64 a, .int .i64 b, .slice A n c].toList.getD j undef)) (fun _ i _ => n - (intOf i).toNat)
    case atStart => exact ⟨0, _, by omega, rfl, rfl, World.ownsRow_nil _ _ _ _, by omega, X1.out, C1.out⟩
    case round =>
      clear X1 C1
      obtain ⟨k, v, hk, rfl, hsv, hO, hRz, hB, hC⟩ := hrel
      subst hsv
      have HO := Lib.hid hO
      have HB := Lib.hid hB
      have HC := Lib.hid hC
      clear hO hB hC
      by_cases hlt : k < n
      · obtain ⟨b0, off, rfl, hb0, hcs⟩ := (HA.out.below HB.out).at_.resolve_left (by omega)
        obtain ⟨o0, o1, o2⟩ := hcs k hlt
        have HCL := Lib.hid (HH.out.clu k hlt)
        have HPS := Lib.hid (pzP_succ (cs := cs) (k := k) (by rw [HL.out]; exact hlt))
        clear hcs
        generalize cs.getD k cu0 = C at o0 o1 o2 HCL HPS
        obtain ⟨x, y, z⟩ := C
        change wr.cell? ⟨b0, off + k * 3, none⟩ = some (.int .i64 x) at o0
        change wr.cell? ⟨b0, off + k * 3 + 1, none⟩ = some (.int .i64 y) at o1
        change wr.cell? ⟨b0, off + k * 3 + 2, none⟩ = some (.int .i64 z) at o2
        go_wp2_with (first
          | (go_at_call 47; refine (clueText_any x y z _ HCL.out (HT.out.below (HB.out.alloc HB.out.size _) hlow)).mono ?_; rintro e w3 ⟨rfl, hb3⟩
             have HO3 := Lib.hid ((HO.out.alloc (.cells #[.int .i64 x, .int .i64 y, .int .i64 z] 77)).kept (row := none) ⟨hb3.os, hb3.tape, hb3.output, hb3.size, fun i hi _ => hb3.block i hi⟩ (Classical.em _))
             have HB3 := Lib.hid (bel_call (HB.out.alloc HB.out.size (.cells #[.int .i64 x, .int .i64 y, .int .i64 z] 77)) hb3)
             have HC3 := Lib.hid ((HC.out.alloc (.cells #[.int .i64 x, .int .i64 y, .int .i64 z] 77)).call hb3)
             have hz3 : wr.heap.size + 1 ≤ w3.heap.size := by have := hb3.size; rw [World.size_alloc] at this; exact this
             clear hb3)
          | (at_builtin; refine wpList_append_own _ rfl _ _ 57 rfl R0 9 i0 (.string ByteArray.empty) 1 16 Tryd.underlying57 hi hz0 hz1 hz2 rfl (by decide) _ _ _ rfl (HO3.out.alloc _) ⟨w3.heap.size, 0, none⟩ 1 1 [.string (clT (x, y, z))] rfl rfl (news_of rfl) (by simp [Value.oneCell']) (by unfold maxLen; omega) (by omega) (by simp; omega) ?_; intro v9 w9 hown9 hgrow9 hiff9; clear hiff9))
        have HB9 := Lib.hid ((HB3.out.alloc HB3.out.size _).grown hgrow9 (by rw [World.size_alloc]; have := HB3.out.size; omega) (fun j hj => by have := (HO3.out.lt j hj).1; omega))
        have HC9 : Hid (Cells w9 w.heap.size 3 (fun j => #[Value.int .i64 a, .int .i64 b, .slice (some ⟨b0, off, none⟩) n c].toList.getD j undef)) := Lib.hid (by
          have h1 := HC3.out.alloc (.cells #[.string (clT (x, y, z))] 9)
          have e1 := hgrow9.block w.heap.size h1.lt (fun e => by
            have := (HO3.out.lt w.heap.size e.symm).1
            omega)
          exact ⟨Nat.lt_of_lt_of_le h1.lt hgrow9.size, fun j hj => by
            have := h1.at_ j hj
            rw [World.cell?_of_block (a := ⟨w.heap.size, j, none⟩) e1, World.frozen?_of_block (a := ⟨w.heap.size, j, none⟩) e1]; exact this⟩)
        have HO9 := Lib.hid hown9
        have hz9 := hgrow9.size
        rw [World.size_alloc] at hz9
        clear hown9 hgrow9
        go_roundw
        case rel => exact ⟨k + 1, _, by omega, by go_num, rfl, by rw [HPS.out]; unfold sv; rw [List.map_append]; exact HO9.out, by omega, HB9.out, HC9.out⟩
        case measure => simp [intOf]; omega
      · obtain rfl : k = n := by omega
        have x0 : wr.cell? ⟨w.heap.size, 0, none⟩ = some (.int .i64 a) := HC.out.cell (show 0 < 3 by omega)
        have x1 : wr.cell? ⟨w.heap.size, 1, none⟩ = some (.int .i64 b) := HC.out.cell (show 1 < 3 by omega)
        have hlz := lkB_size ⟨a1, a6⟩ ⟨b2, b10⟩
        have hjz := pzJ_size HH.out
        have h58 : (⟨#[58]⟩ : ByteArray).size = 1 := rfl
        obtain ⟨u1, hu1⟩ : ∃ u, lkB a b ++ ⟨#[58]⟩ = u := ⟨_, rfl⟩
        have hs1 : u1.size ≤ 8 := by rw [← hu1, ByteArray.size_append]; omega
        have hadd1 : ∀ W : World, (Op.stringOp .add (lkB a b) ⟨#[58]⟩).run Tryd.prog W = .ok (.string u1) W := fun W => by rw [← hu1]; exact run_string_add_sum _ _ _ (by omega)
        have hadd2 : ∀ W : World, (Op.stringOp .add u1 (pzJ cs k)).run Tryd.prog W = .ok (.string (pzU a b cs k)) W := fun W => by rw [pzU_join k (by rw [HL.out]; exact Nat.le_refl _), hu1]; exact run_string_add_sum _ _ _ (by omega)
        have HJ : Hid (∃ A9 c9, v = .slice A9 k c9 ∧ ∀ W : World, Below wr.heap.size wr W → Calls Tryd.prog 32 #[.slice A9 k c9, .string ⟨#[44]⟩] W fun e w' => e = .returned (.string (pzJ cs k)) ∧ Below W.heap.size W w') := Lib.hid (by
          rcases Nat.eq_zero_or_pos k with h0 | h0
          · subst h0
            have hv : ∃ A9 c9, v = .slice A9 0 c9 := by
              rcases HO.out.2 with ⟨e1, _⟩ | ⟨g, cap, cur, e1, _⟩
              · exact ⟨none, 0, e1⟩
              · exact ⟨_, cap, e1⟩
            obtain ⟨A9, c9, e1⟩ := hv
            refine ⟨A9, c9, e1, fun W _ => (Go.Proofs.Tryd.strings_Join_none A9 c9 ⟨#[44]⟩ W).mono ?_⟩
            rintro e w' ⟨rfl, rfl⟩
            exact ⟨rfl, Below.refl _ _⟩
          · obtain ⟨g, cg, e1, hg1, hg2⟩ := HO.out.form h0
            have hO := HO.out
            rw [e1] at hO
            have hcap : k ≤ cg := by
              rcases hO.2 with ⟨e, _⟩ | ⟨g', cap, cur, e, _, _, hle, _⟩
              · cases e
              · injection e with _ _ e3
                omega
            have hrow : Cells wr g k (strF (pzP cs k)) := ⟨hg2, fun j hj => ⟨by
              have hl := pzP_length (cs := cs) (k := k) (by rw [HL.out]; exact Nat.le_refl _)
              rw [hO.cellAt j (by omega)]
              unfold sv strF
              rw [List.getElem?_map, List.getElem?_eq_getElem (by omega)]
              simp [List.getD, List.getElem?_eq_getElem (show j < (pzP cs k).length by omega)], hO.frozenAt j⟩⟩
            exact ⟨_, cg, e1, fun W hb => join_clues g k cg cs W HL.out n6 hcap hjz (Nat.lt_of_lt_of_le hg2 hb.size) (hrow.call hb)⟩)
        obtain ⟨A9, c9, hv9, hj9⟩ := HJ.out
        subst hv9
        have HJ9 := Lib.hid hj9
        clear HJ hj9 hjz hlz h58 hu1 hs1
        go_wp2_with (first
          | (go_at_call 48; refine (lockTextT_any a b _ ⟨a1, a6⟩ ⟨b2, b10⟩ (HT.out.below HB.out hlow)).mono ?_; rintro e w5 ⟨rfl, hb5⟩
             have HB5 := Lib.hid hb5
             clear hb5)
          | (go_at_call 32; refine (HJ9.out _ HB5.out).mono ?_; rintro e w6 ⟨rfl, hb6⟩))
        go_ret2
        exact ⟨by rw [HV.out, HG.out]; first | done | rfl, bel_call (bel_call HB.out HB5.out) hb6⟩
  · have HG := Lib.hid (Bool.eq_false_iff.2 hg)
    have HV : Hid (ptB a b cs = ⟨#[]⟩) := Lib.hid (by unfold ptB; rw [HG.out]; rfl)
    clear hg
    go_enter Tryd.func19, Tryd.ntmps19
    go_wp2_with (go_at_call 46; refine (isPuzzle_any _ _ _ _ _ cs _ HMX.out (HA.out.below X0.out)).mono ?_; rw [HG.out]; rintro e w1 ⟨rfl, hb1⟩; have X1 := Lib.hid (bel_call X0.out hb1); clear hb1)
    go_ret2
    exact ⟨by rw [HV.out, HG.out]; first | done | rfl, X1.out⟩

end Go.Proofs.YtgdjbclkdnmebaaDoor
