/- The turns of an order, as the program tells them. For lists that can be. -/
import Derived.Test.YtpbnleohbegccaaOn
import Derived.Test.YtpbnleohbegccaaOt
import Derived.Test.YtpbnleohbegccaaDead
import Derived.Test.YtpbnleohbegccaaFirst3
namespace Go.Proofs.Ytpbnleohbegccaa
open Go.ChangeShapes Go.WideShapes Go.ChangeAt Go.RowKit Go.Joins

/-- What the making holds. -/
structure ToSt (w wr : World) (a b : Int) (ts : List ByteArray) (B0 Bm k j : Nat) (v : Value) : Prop where
  row : wr.ownsRow B0 33 2 v (k - 1) (tv (trL a b ts k))
  map : MpS wr RdB Bm (ts.take j) ltB
  box : Cells wr w.heap.size 2 (b2F a b)
  bel : Below w.heap.size w wr
  big : Bm < B0 ∧ w.heap.size < Bm ∧ B0 ≤ wr.heap.size

theorem ToSt.call {w wr w2 : World} {a b : Int} {ts : List ByteArray} {B0 Bm k j : Nat} {v : Value} (h : ToSt w wr a b ts B0 Bm k j v) (hb : Below wr.heap.size wr w2) : ToSt w w2 a b ts B0 Bm k j v :=
  ⟨own_below h.row hb, h.map.call hb, h.box.call hb, bel_call h.bel hb, ⟨h.big.1, h.big.2.1, Nat.le_trans h.big.2.2 hb.size⟩⟩

theorem ToSt.put {w wr w2 : World} {a b : Int} {ts : List ByteArray} {B0 Bm k j : Nat} {v : Value} (h : ToSt w wr a b ts B0 Bm k j v) (hm : MpS w2 RdB Bm (ts.take (j + 1)) ltB) (hg : wr.grownBy w2 (some Bm)) : ToSt w w2 a b ts B0 Bm k (j + 1) v := by
  have hb := h.big
  refine ⟨h.row.kept hg (.inr fun e => ?_), hm, ?_, h.bel.grown hg h.bel.size (fun j hj => by injection hj with hj; omega), ⟨hb.1, hb.2.1, ?_⟩⟩
  · have := (h.row.lt Bm e).1; omega
  · have e1 := hg.block w.heap.size h.box.lt (fun e => by injection e with e; omega)
    exact ⟨Nat.lt_of_lt_of_le h.box.lt hg.size, fun j hj => by
      have := h.box.at_ j hj
      rw [World.cell?_of_block (a := ⟨w.heap.size, j, none⟩) e1, World.frozen?_of_block (a := ⟨w.heap.size, j, none⟩) e1]; exact this⟩
  · have := hg.size; omega

theorem ToSt.grown {w wr w2 : World} {a b : Int} {ts : List ByteArray} {B0 Bm k j : Nat} {v v' : Value} {k' : Nat} (h : ToSt w wr a b ts B0 Bm k j v) (hr : w2.ownsRow B0 33 2 v' (k' - 1) (tv (trL a b ts k'))) (hg : wr.grownBy w2 v.ownBlock) : ToSt w w2 a b ts B0 Bm k' j v' := by
  have hb := h.big
  have hne : ∀ g, v.ownBlock = some g → B0 ≤ g := fun g e => (h.row.lt g e).1
  refine ⟨hr, h.map.kept hg (fun e => by have := hne _ e.symm; omega), ?_, h.bel.grown hg h.bel.size (fun j hj => by have := hne _ hj; omega), ⟨hb.1, hb.2.1, by have := hg.size; omega⟩⟩
  have e1 := hg.block w.heap.size h.box.lt (fun e => by have := hne _ e.symm; omega)
  exact ⟨Nat.lt_of_lt_of_le h.box.lt hg.size, fun j hj => by
    have := h.box.at_ j hj
    rw [World.cell?_of_block (a := ⟨w.heap.size, j, none⟩) e1, World.frozen?_of_block (a := ⟨w.heap.size, j, none⟩) e1]; exact this⟩

set_option maxRecDepth 100000 in
set_option maxHeartbeats 8000000 in
theorem turnsOfOrder_any (a b : Int) (A : Option Addr) (n c : Nat) (ts : List ByteArray) (w : World) (hn : n ≤ maxLen) (hA : ArgS w A n ts) :
    Calls Try.prog 54 #[.agg #[.int .i64 a, .int .i64 b], .slice A n c] w (TurnsOut w (orT a b ts) (orB a b ts)) := by
  unfold maxLen at hn
  have HA := Lib.hid hA
  have HL := Lib.hid hA.len
  have HZ := Lib.hid hA.sz
  by_cases hg : goodB a b = true
  · have HG := Lib.hid hg
    by_cases h1 : n ≤ 1000
    · obtain ⟨i0, hi, hy0, hy1, hy2⟩ := info_parts info_turn
      have hmm := @run_makeMap Try.prog
      clear hA hg
      go_enter Try.func54, Try.ntmps54
      go_wp2_with (go_at_call 89; refine (isLock_any _ _ _).mono ?_; rw [HG.out]; rintro e w1 ⟨rfl, hb1⟩
                   have C1 := Lib.hid ((box_new (W := w) (a := a) (b := b) (t := 26) rfl).call hb1)
                   have X1 := Lib.hid (show Below w.heap.size w w1 from bel_call ((Below.refl _ _).alloc (Nat.le_refl _) _) hb1)
                   have z1 := C1.out.lt
                   clear hb1)
      have ST0 := Lib.hid (show ToSt w (w1.alloc (.map #[] 0)) a b ts (w1.heap.size + 1) w1.heap.size 0 0 (.slice none 0 0) from
        ⟨World.ownsRow_nil _ _ _ _, MpS.made w1 RdB ltB, C1.out.alloc _, X1.out.alloc X1.out.size _, by omega, z1, by simp⟩)
      clear C1 X1 hmm
      generalize w1.heap.size + 1 = B0 at *
      generalize w1.heap.size = Bm at *
      go_loopw [6, 23] (fun v i wr => ∃ k : Nat, k ≤ n ∧ i = .int .i64 k ∧ (List.range k).all (okAt a b ts) = true ∧ ToSt w wr a b ts B0 Bm k k v) (fun _ i _ => n - (intOf i).toNat)
      case atStart => exact ⟨0, by omega, rfl, rfl, ST0.out⟩
      case round =>
        clear ST0
        obtain ⟨k, hk, rfl, hall, hS⟩ := hrel
        have HST := Lib.hid hS
        have HAL := Lib.hid hall
        clear hS hall
        by_cases hlt : k < n
        · obtain ⟨D, off, rfl, hbD, hcD⟩ := HA.out.at_.resolve_left (by omega)
          have o1 : wr.cell? ⟨D, off + k, none⟩ = some (.string (ts.getD k ByteArray.empty)) := (HST.out.bel.cell (p := ⟨D, off + k, none⟩) hbD).trans (hcD k hlt)
          have l0 : wr.cell? ⟨w.heap.size, 0, none⟩ = some (.int .i64 a) := HST.out.box.cell (show 0 < 2 by omega)
          have l1 : wr.cell? ⟨w.heap.size, 1, none⟩ = some (.int .i64 b) := HST.out.box.cell (show 1 < 2 by omega)
          have HCD := Lib.hid hcD
          have HSK := Lib.hid (HZ.out k hlt)
          clear hcD
          obtain ⟨s, hs⟩ : ∃ s, ts.getD k ByteArray.empty = s := ⟨_, rfl⟩
          have HSS := Lib.hid hs
          rw [hs] at o1 HSK
          clear hs
          have HNO : Hid (okAt a b ts k = false → orB a b ts = false) := Lib.hid fun h => or_not (by rw [HL.out]; exact hlt) h
          by_cases hc : askB a b s = true
          · have HC := Lib.hid hc
            by_cases hm : hsS (ts.take k) s = true
            · have HO : Hid (orB a b ts = false) := Lib.hid (HNO.out (ok_met (by rw [HSS.out]; exact hm)))
              have HM := Lib.hid hm
              clear hc hm
              go_wp2_with (go_at_call 71; refine (hasCode_any _ _ _ _ HSK.out).mono ?_; rw [ask_eq, HC.out]; rintro e w2 ⟨rfl, hb2⟩
                           have ST2 := Lib.hid (HST.out.call hb2)
                           have hlk := ST2.out.map.lookB Try.underlying84 HSK.out (b := true) (by rw [← hsS_iff, HM.out])
                           clear hb2)
              go_ret2
              rw [orT_no HO.out, HO.out]
              exact turns_none ST2.out.bel
            · have HM := Lib.hid (Bool.eq_false_iff.2 hm)
              have HTK : Hid (addS (ts.take k) s = ts.take (k + 1)) := Lib.hid (by
                rw [addS_out (fun h => hm (hsS_iff.2 h)), List.take_succ_eq_append_getElem (show k < ts.length by rw [HL.out]; exact hlt)]
                have : ts[k]'(by rw [HL.out]; exact hlt) = s := by rw [← HSS.out]; simp [List.getD, List.getElem?_eq_getElem (show k < ts.length by rw [HL.out]; exact hlt)]
                rw [this])
              have hfew : (ts.take k).length ≤ 1000000 := by rw [List.length_take]; omega
              clear hc hm
              rcases k with _ | m
              · rw [Nat.add_zero] at o1
                have HOK := Lib.hid (ok_first (a := a) (b := b) (ts := ts) (by rw [HSS.out]; exact HC.out))
                go_wp2_with (first
                  | (go_at_call 71; refine (hasCode_any _ _ _ _ HSK.out).mono ?_; rw [ask_eq, HC.out]; rintro e w2 ⟨rfl, hb2⟩
                     have ST2 := Lib.hid (HST.out.call hb2)
                     have hlk := ST2.out.map.lookB Try.underlying84 HSK.out (b := false) (by rw [← hsS_iff, HM.out])
                     clear hb2)
                  | (at_mapUpdate; refine wpList_store_S rfl _ _ _ _ _ (.inl rfl) Try.underlying84 ST2.out.map s HSK.out hfew rfl rfl _ rfl (.lit (.bool true)) rfl ?_; intro w3 hL3 hg3
                     have ST3 := Lib.hid (ST2.out.put (HTK.out ▸ hL3.congr (fun t _ => by unfold ltB; split <;> rfl)) hg3)
                     clear hL3 hg3))
                go_roundw
                case rel => exact ⟨1, by omega, by go_num, allR_snoc HAL.out HOK.out, ⟨ST3.out.row, ST3.out.map, ST3.out.box, ST3.out.bel, ST3.out.big⟩⟩
                case measure => simp [intOf]; omega
              · obtain ⟨t, ht⟩ : ∃ t, ts.getD m ByteArray.empty = t := ⟨_, rfl⟩
                have HTT := Lib.hid ht
                have HTS : Hid (t.size ≤ maxLen) := Lib.hid (by rw [← ht]; exact HZ.out m (by omega))
                obtain ⟨q, hq⟩ : ∃ q, otB a b t s = q := ⟨_, rfl⟩
                obtain ⟨p, hp⟩ : ∃ p, otP a b t s = p := ⟨_, rfl⟩
                have HQ := Lib.hid hq
                have HP := Lib.hid hp
                have HOK : Hid (okAt a b ts (m + 1) = q) := Lib.hid (by rw [ok_next (by rw [HSS.out]; exact HC.out) (by rw [HSS.out]; exact HM.out), HTT.out, HSS.out, hq])
                have HTR : Hid (trL a b ts (m + 1 + 1) = trL a b ts (m + 1) ++ [p]) := Lib.hid (by rw [trL_snoc, HTT.out, HSS.out, hp])
                have hk0 : (0 : Int) ≤ (m : Int) + 1 := by omega
                have hk1 : m < n := by omega
                have hw1 : IntKind.i64.wrap (m : Int) = (m : Int) := IntWalk.i64_in _ (by omega)
                clear ht hq hp
                go_wp2_with (first
                  | (go_at_call 71; refine (hasCode_any _ _ _ _ HSK.out).mono ?_; rw [ask_eq, HC.out]; rintro e w2 ⟨rfl, hb2⟩
                     have ST2 := Lib.hid (HST.out.call hb2)
                     have hlk := ST2.out.map.lookB Try.underlying84 HSK.out (b := false) (by rw [← hsS_iff, HM.out])
                     clear hb2)
                  | (at_mapUpdate; refine wpList_store_S rfl _ _ _ _ _ (.inl rfl) Try.underlying84 ST2.out.map s HSK.out hfew rfl rfl _ rfl (.lit (.bool true)) rfl ?_; intro w3 hL3 hg3
                     have ST3 := Lib.hid (ST2.out.put (HTK.out ▸ hL3.congr (fun t _ => by unfold ltB; split <;> rfl)) hg3)
                     have j0 : w3.cell? ⟨w.heap.size, 0, none⟩ = some (.int .i64 a) := ST3.out.box.cell (show 0 < 2 by omega)
                     have j1 : w3.cell? ⟨w.heap.size, 1, none⟩ = some (.int .i64 b) := ST3.out.box.cell (show 1 < 2 by omega)
                     have o3 : w3.cell? ⟨D, off + m, none⟩ = some (.string t) := ((ST3.out.bel.cell (p := ⟨D, off + m, none⟩) hbD).trans (HCD.out m hk1)).trans (by rw [HTT.out])
                     have hU3 : w.heap.size < w3.heap.size := ST3.out.box.lt
                     have jA0 : (w3.alloc (.cells #[.int .i64 0, .int .i64 0] 33)).cell? ⟨w.heap.size, 0, none⟩ = some (.int .i64 a) := (World.cell?_alloc_lt _ _ _ hU3).trans j0
                     have jA1 : (w3.alloc (.cells #[.int .i64 0, .int .i64 0] 33)).cell? ⟨w.heap.size, 1, none⟩ = some (.int .i64 b) := (World.cell?_alloc_lt _ _ _ hU3).trans j1
                     have oA : (w3.alloc (.cells #[.int .i64 0, .int .i64 0] 33)).cell? ⟨D, off + m, none⟩ = some (.string t) := (World.cell?_alloc_lt _ _ _ (by show D < w3.heap.size; omega)).trans o3
                     clear hL3 hg3))
                go_region_law (go_simp; go_at_call 82; refine (oneTurn_any _ _ _ _ _ HTS.out HSK.out).mono ?_; rw [HP.out, HQ.out]; unfold turnV; rintro e w5 ⟨rfl, hb5⟩
                               have hz5 := hb5.size
                               first
                                 | (have D5 := Lib.hid ((cells_two (w := w3) (x := 0) (y := 0) (t := 33) (g := w3.heap.size) rfl).drew.call hb5)
                                    have r0 := D5.out.cell (show 0 < 2 by omega)
                                    have r1 := D5.out.cell (show 1 < 2 by omega)
                                    have f0 := D5.out.frozen (show 0 < 2 by omega)
                                    have f1 := D5.out.frozen (show 1 < 2 by omega))
                                 | skip)
                all_goals
                  first
                    | (obtain ⟨E0, E1⟩ := pair_set D5.out (.int .i64 p.1) (.int .i64 p.2)
                       have ST4 := Lib.hid (ST3.out.call (show Below w3.heap.size w3 ((w5.setCell ⟨w3.heap.size, 0, none⟩ (.int .i64 p.1)).setCell ⟨w3.heap.size, 1, none⟩ (.int .i64 p.2)) from ((bel_call (bel_drew ((Below.refl _ _).alloc (Nat.le_refl _) _)) hb5).setCell (p := ⟨w3.heap.size, 0, none⟩) (Nat.le_refl _) _).setCell (p := ⟨w3.heap.size, 1, none⟩) (Nat.le_refl _) _))
                       clear D5 r0 r1 f0 f1 hb5 hz5
                       generalize ((w5.setCell ⟨w3.heap.size, 0, none⟩ (.int .i64 p.1)).setCell ⟨w3.heap.size, 1, none⟩ (.int .i64 p.2)) = W at E0 E1 ST4 ⊢
                       generalize w3.heap.size = P at E0 E1 ⊢)
                    | (have DA := cells_two (w := w5) (x := p.1) (y := p.2) (t := 33) (g := w5.heap.size) rfl
                       have E0 : (w5.alloc (.cells #[.int .i64 p.1, .int .i64 p.2] 33)).cell? ⟨w5.heap.size, 0, none⟩ = some (.int .i64 p.1) := DA.cell (show 0 < 2 by omega)
                       have E1 : (w5.alloc (.cells #[.int .i64 p.1, .int .i64 p.2] 33)).cell? ⟨w5.heap.size, 1, none⟩ = some (.int .i64 p.2) := DA.cell (show 1 < 2 by omega)
                       have ST4 := Lib.hid (ST3.out.call (show Below w3.heap.size w3 (w5.alloc (.cells #[.int .i64 p.1, .int .i64 p.2] 33)) from (bel_call (bel_drew (Below.refl _ _)) hb5).alloc hz5 _))
                       clear DA hb5 hz5
                       generalize (w5.alloc (.cells #[.int .i64 p.1, .int .i64 p.2] 33)) = W at E0 E1 ST4 ⊢
                       generalize w5.heap.size = P at E0 E1 ⊢)
                  clear ST3 j0 j1 o3 jA0 jA1 oA hU3 hk0 hw1
                  by_cases hqq : q = true
                  · rw [hqq] at HOK ⊢
                    have hbig := ST4.out.big
                    go_wp2_with (at_builtin; refine wpList_append_own _ rfl _ _ 53 rfl B0 33 i0 (.agg #[.int .i64 0, .int .i64 0]) 2 16 Try.underlying53 hi hy0 hy1 hy2 rfl (by decide) _ _ _ rfl (ST4.out.row.alloc _) ⟨W.heap.size, 0, none⟩ 1 1 [.int .i64 p.1, .int .i64 p.2] rfl rfl (news_at rfl) (by simp [Value.oneCell']) (by unfold maxLen; omega) (by omega) (by simp; omega) ?_; intro v' w6 hown' hgrow _
                                 have ST6 : Hid (ToSt w w6 a b ts B0 Bm (m + 1 + 1) (m + 1 + 1) v') := Lib.hid ((ST4.out.call ((Below.refl _ _).alloc (Nat.le_refl _) (.cells #[.int .i64 p.1, .int .i64 p.2] 33))).grown (by rw [HTR.out, tv_app]; exact hown') hgrow)
                                 clear hown' hgrow)
                    go_roundw
                    case rel => exact ⟨m + 1 + 1, by omega, by go_num, allR_snoc HAL.out HOK.out, ST6.out⟩
                    case measure => simp [intOf]; omega
                  · have hqf := Bool.eq_false_iff.2 hqq
                    rw [hqf] at HOK ⊢
                    have HO : Hid (orB a b ts = false) := Lib.hid (HNO.out HOK.out)
                    go_wp2_with fail
                    go_ret2
                    rw [orT_no HO.out, HO.out]
                    exact turns_none ST4.out.bel
          · have HC := Lib.hid (Bool.eq_false_iff.2 hc)
            have HO : Hid (orB a b ts = false) := Lib.hid (HNO.out (ok_code (by rw [HSS.out]; exact HC.out)))
            clear hc
            go_wp2_with (go_at_call 71; refine (hasCode_any _ _ _ _ HSK.out).mono ?_; rw [ask_eq, HC.out]; rintro e w2 ⟨rfl, hb2⟩
                         have ST2 := Lib.hid (HST.out.call hb2)
                         clear hb2)
            go_ret2
            rw [orT_no HO.out, HO.out]
            exact turns_none ST2.out.bel
        · obtain rfl : k = n := by omega
          have HO : Hid (orB a b ts = true) := Lib.hid (or_yes HG.out (by rw [HL.out]; exact h1) (by rw [HL.out]; exact HAL.out))
          go_wp2_with fail
          go_ret2
          rw [orT_yes HO.out, HO.out, HL.out]
          have hl := trL_length a b ts k
          exact turns_some (base := B0) (by rw [hl]; omega) (by have := HST.out.big; omega) (by rw [hl]; exact HST.out.row) HST.out.bel
    · have HO : Hid (orB a b ts = false) := Lib.hid (by unfold orB; rw [HL.out, decide_eq_false h1]; simp)
      clear hA hg
      go_enter Try.func54, Try.ntmps54
      go_wp2_with (go_at_call 89; refine (isLock_any _ _ _).mono ?_; rw [HG.out]; rintro e w1 ⟨rfl, hb⟩; obtain ⟨hc, hf, hz⟩ := bcell hb; have hz0 : w.heap.size < w1.heap.size := by (try simp at hz); omega)
      go_ret2
      rw [orT_no HO.out, HO.out]
      refine turns_none ?_
      (repeat (first | assumption | exact Below.refl _ _ | (refine Below.alloc ?_ (by first | omega | (simp; done) | (simp; omega)) _) | (refine Below.setCell ?_ (by first | omega | (simp; done) | (simp; omega)) _) | refine bel_drewN ?_ _ | refine bel_drew ?_ | (refine bel_call ?_ (by assumption))))
  · have HG := Lib.hid (Bool.eq_false_iff.2 hg)
    have HO : Hid (orB a b ts = false) := Lib.hid (by unfold orB; rw [HG.out]; rfl)
    clear hA hg
    go_enter Try.func54, Try.ntmps54
    go_wp2_with (go_at_call 89; refine (isLock_any _ _ _).mono ?_; rw [HG.out]; rintro e w1 ⟨rfl, hb⟩; obtain ⟨hc, hf, hz⟩ := bcell hb; have hz0 : w.heap.size < w1.heap.size := by (try simp at hz); omega)
    go_ret2
    rw [orT_no HO.out, HO.out]
    refine turns_none ?_
    (repeat (first | assumption | exact Below.refl _ _ | (refine Below.alloc ?_ (by first | omega | (simp; done) | (simp; omega)) _) | (refine Below.setCell ?_ (by first | omega | (simp; done) | (simp; omega)) _) | refine bel_drewN ?_ _ | refine bel_drew ?_ | (refine bel_call ?_ (by assumption))))

end Go.Proofs.Ytpbnleohbegccaa
