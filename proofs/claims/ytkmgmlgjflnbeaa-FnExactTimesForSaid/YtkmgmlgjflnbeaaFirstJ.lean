/- The first list of fewest turns of knobs: the program's walk. For texts that are no longer than any may be. -/
import Derived.Test.YtkmgmlgjflnbeaaFirstI
namespace Go.Proofs.Ytkmgmlgjflnbeaa
open Go.ChangeShapes Go.WideShapes Go.ChangeAt Go.RowKit Go.Joins

theorem grown_set (w : World) (p : Addr) (v : Value) : w.grownBy (w.setCell p v) (some p.block) :=
  ⟨rfl, rfl, rfl, by rw [size_setCell]; exact Nat.le_refl _, fun j _ hj => Below.heap_setCell _ _ _ j (fun e => hj (by rw [e]))⟩

set_option maxRecDepth 100000 in
set_option maxHeartbeats 4000000 in
theorem firstKnobs_any (a b : Int) (s t : ByteArray) (A : Option Addr) (n c : Nat) (ks : List (List Int)) (w : World) (hm : n + lensAt ks n ≤ 1048576) (hs : s.size ≤ maxLen) (ht : t.size ≤ maxLen) (hA : KnobsC w A n ks) :
    Calls Try.prog 18 #[.agg #[.int .i64 a, .int .i64 b, .slice A n c], .string s, .string t] w (TurnsOut w (fkT a b ks s t) (fkB a b ks s t)) := by
  have HS := Lib.hid hs
  have HT := Lib.hid ht
  have HA := Lib.hid hA
  have HN := Lib.hid hA.len
  have CU := Lib.hid (show Cells (w.alloc (.cells #[.int .i64 a, .int .i64 b, .slice A n c] 33)) w.heap.size 3 (bxF a b (.slice A n c)) from Cells.new (n := 3) rfl rfl)
  have HB0 := Lib.hid (show Below w.heap.size w (w.alloc (.cells #[.int .i64 a, .int .i64 b, .slice A n c] 33)) from (Below.refl _ _).alloc (Nat.le_refl _) _)
  clear hA hs ht
  obtain ⟨u1, HU1⟩ : ∃ u1, Hid (gcB a b ks s = u1) := ⟨_, Lib.hid rfl⟩
  rcases u1 with _ | _
  · have HF : Hid (fkB a b ks s t = false) := Lib.hid (by unfold fkB; rw [HU1.out]; rfl)
    have HFT : Hid (fkT a b ks s t = []) := Lib.hid (by unfold fkT; rw [HF.out]; rfl)
    rw [HF.out, HFT.out]
    go_enter Try.func18, Try.ntmps18
    go_wp2_with (go_at_call_of 32 s; refine (haveCode_any _ _ _ _ _ _ ks _ hm HS.out (HA.out.below HB0.out)).mono ?_; rw [HU1.out]; rintro e w1 ⟨rfl, hb1⟩)
    go_ret2
    exact turns_none (bel_call HB0.out hb1)
  · have HGY := Lib.hid (gcB_yes HU1.out)
    have HK := Lib.hid (gears_knobs (gcB_yes HU1.out).1)
    obtain ⟨hc1, _⟩ := gears_cnt (gcB_yes HU1.out).1
    have hn5 : n ≤ 1000 := by have := (gearsB_yes (gcB_yes HU1.out).1).2.2.2.1; have := HN.out; omega
    obtain ⟨u2, HU2⟩ : ∃ u2, Hid (gcB a b ks t = u2) := ⟨_, Lib.hid rfl⟩
    rcases u2 with _ | _
    · have HF : Hid (fkB a b ks s t = false) := Lib.hid (by
        have h := HU2.out
        unfold gcB at h
        rw [HGY.out.1, Bool.true_and] at h
        unfold fkB askB
        rw [h, Bool.and_false, Bool.and_false, Bool.false_and])
      have HFT : Hid (fkT a b ks s t = []) := Lib.hid (by unfold fkT; rw [HF.out]; rfl)
      rw [HF.out, HFT.out]
      go_enter Try.func18, Try.ntmps18
      go_wp2_with (first
        | (go_at_call_of 32 s; refine (haveCode_any a b s _ _ _ ks _ hm HS.out (HA.out.below HB0.out)).mono ?_; rw [HU1.out]; rintro e w1 ⟨rfl, hb1⟩
           have D1 := Lib.hid (CU.out.call hb1)
           have B1 := Lib.hid (bel_call HB0.out hb1)
           have l0 : w1.cell? ⟨w.heap.size, 0, none⟩ = some (.int .i64 a) := D1.out.cell (show 0 < 3 by omega)
           have l1 : w1.cell? ⟨w.heap.size, 1, none⟩ = some (.int .i64 b) := D1.out.cell (show 1 < 3 by omega)
           have l2 : w1.cell? ⟨w.heap.size, 2, none⟩ = some (.slice A n c) := D1.out.cell (show 2 < 3 by omega)
           clear hb1)
        | (go_at_call_of 32 t; refine (haveCode_any a b t _ _ _ ks _ hm HT.out (HA.out.below B1.out)).mono ?_; rw [HU2.out]; rintro e w2 ⟨rfl, hb2⟩))
      go_ret2
      exact turns_none (bel_call B1.out hb2)
    · have HTA := Lib.hid (gcB_yes HU2.out).2
      rcases hent : entT a b ks s t with _ | e0
      · have HNO := Lib.hid (entT_none hent)
        have HF : Hid (fkB a b ks s t = false) := Lib.hid (by unfold fkB; rw [hent]; simp)
        have HFT : Hid (fkT a b ks s t = []) := Lib.hid (by unfold fkT; rw [HF.out]; rfl)
        rw [HF.out, HFT.out]
        clear hent
        go_enter Try.func18, Try.ntmps18
        go_wp2_with (first
          | (go_at_call_of 32 s; refine (haveCode_any a b s _ _ _ ks _ hm HS.out (HA.out.below HB0.out)).mono ?_; rw [HU1.out]; rintro e w1 ⟨rfl, hb1⟩
             have D1 := Lib.hid (CU.out.call hb1)
             have B1 := Lib.hid (bel_call HB0.out hb1)
             have l0 : w1.cell? ⟨w.heap.size, 0, none⟩ = some (.int .i64 a) := D1.out.cell (show 0 < 3 by omega)
             have l1 : w1.cell? ⟨w.heap.size, 1, none⟩ = some (.int .i64 b) := D1.out.cell (show 1 < 3 by omega)
             have l2 : w1.cell? ⟨w.heap.size, 2, none⟩ = some (.slice A n c) := D1.out.cell (show 2 < 3 by omega)
             clear hb1)
          | (go_at_call_of 32 t; refine (haveCode_any a b t _ _ _ ks _ hm HT.out (HA.out.below B1.out)).mono ?_; rw [HU2.out]; rintro e w2 ⟨rfl, hb2⟩
             have D2 := Lib.hid (D1.out.call hb2)
             have B2 := Lib.hid (bel_call B1.out hb2)
             have m0 : w2.cell? ⟨w.heap.size, 0, none⟩ = some (.int .i64 a) := D2.out.cell (show 0 < 3 by omega)
             have m1 : w2.cell? ⟨w.heap.size, 1, none⟩ = some (.int .i64 b) := D2.out.cell (show 1 < 3 by omega)
             have m2 : w2.cell? ⟨w.heap.size, 2, none⟩ = some (.slice A n c) := D2.out.cell (show 2 < 3 by omega)
             clear hb2)
          | (go_at_call 33; refine (arrivals_any _ _ _ _ _ _ _ ks _ hn5 (HA.out.below B2.out) HGY.out.2 HK.out hc1).mono ?_; rintro e w3 ⟨B, L, rfl, hB, hmp, hp, hl, hb3⟩
             have hlk : (Instr.lookup 48 (.map (some B)) (.string t) true).run Try.prog w3 = .ok (.tuple #[.agg #[.string ByteArray.empty, .int .i64 0, .int .i64 0, .int .i64 0], .bool false]) w3 := hmp.look_no (fun h => by
               obtain ⟨e, he, hc⟩ := mem_keysE.1 h
               exact HNO.out (mem_keysE.2 ⟨e, hp.subset he, hc⟩)) HT.out
             clear hmp hp hl))
        go_ret2
        exact turns_none ((bel_call B2.out hb3).alloc (bel_call B2.out hb3).size _)
      · have HE0 := Lib.hid (entT_some HK.out HGY.out.2 HTA.out hent)
        have HF : Hid (fkB a b ks s t = true) := Lib.hid (by unfold fkB; rw [hent, HU1.out, HTA.out]; rfl)
        have HFT : Hid (fkT a b ks s t = wayT e0.way) := Lib.hid (by unfold fkT; rw [HF.out, hent]; rfl)
        have hwl := way_bd HK.out HGY.out.2 HE0.out.1
        obtain ⟨wl, hwle⟩ : ∃ wl, e0.way.length = wl := ⟨_, rfl⟩
        have HWL := Lib.hid hwle
        rw [hwle] at hwl
        rw [HF.out, HFT.out]
        have hmk := make_turns wl (by omega)
        have hf0 := fun x y m b W => field_zero b x y m W
        have hf1 := fun x y m b W => field_one b x y m W
        have hf2 := fun x y m b W => field_two b x y m W
        clear hent hwle
        go_enter Try.func18, Try.ntmps18
        go_wp2_with (first
          | (go_at_call_of 32 s; refine (haveCode_any a b s _ _ _ ks _ hm HS.out (HA.out.below HB0.out)).mono ?_; rw [HU1.out]; rintro e w1 ⟨rfl, hb1⟩
             have D1 := Lib.hid (CU.out.call hb1)
             have B1 := Lib.hid (bel_call HB0.out hb1)
             have l0 : w1.cell? ⟨w.heap.size, 0, none⟩ = some (.int .i64 a) := D1.out.cell (show 0 < 3 by omega)
             have l1 : w1.cell? ⟨w.heap.size, 1, none⟩ = some (.int .i64 b) := D1.out.cell (show 1 < 3 by omega)
             have l2 : w1.cell? ⟨w.heap.size, 2, none⟩ = some (.slice A n c) := D1.out.cell (show 2 < 3 by omega)
             clear hb1)
          | (go_at_call_of 32 t; refine (haveCode_any a b t _ _ _ ks _ hm HT.out (HA.out.below B1.out)).mono ?_; rw [HU2.out]; rintro e w2 ⟨rfl, hb2⟩
             have D2 := Lib.hid (D1.out.call hb2)
             have B2 := Lib.hid (bel_call B1.out hb2)
             have m0 : w2.cell? ⟨w.heap.size, 0, none⟩ = some (.int .i64 a) := D2.out.cell (show 0 < 3 by omega)
             have m1 : w2.cell? ⟨w.heap.size, 1, none⟩ = some (.int .i64 b) := D2.out.cell (show 1 < 3 by omega)
             have m2 : w2.cell? ⟨w.heap.size, 2, none⟩ = some (.slice A n c) := D2.out.cell (show 2 < 3 by omega)
             clear hb2)
          | (go_at_call 33; refine (arrivals_any _ _ _ _ _ _ _ ks _ hn5 (HA.out.below B2.out) HGY.out.2 HK.out hc1).mono ?_; rintro e w3 ⟨B, L, rfl, hB, hmp, hp, hl, hb3⟩
             have HP := Lib.hid hp
             have he0L : e0 ∈ L := (by
               rcases hl with h | h
               · rw [h]; exact HE0.out.1
               · obtain ⟨e, he, hc⟩ := mem_keysE.1 h
                 have := keysE_inj (allL_all HK.out HGY.out.2).nodup (HP.out.subset he) HE0.out.1 (hc.trans HE0.out.2.symm)
                 rw [← this]; exact he)
             have HEL := Lib.hid he0L
             have HMP := Lib.hid hmp
             have hlk : (Instr.lookup 48 (.map (some B)) (.string t) true).run Try.prog w3 = .ok (.tuple #[.agg #[.string e0.before, .int .i64 (lastW e0), .int .i64 (lastB e0), .int .i64 (wl : Int)], .bool true]) w3 := (by have := hmp.look_ok he0L (by rw [HE0.out.2]; exact HT.out); rw [HE0.out.2] at this; rw [this]; unfold arrV arrU; rw [HWL.out])
             have MP4 := Lib.hid (MapS.call hmp ((Below.refl _ _).alloc (Nat.le_refl _) (.cells #[.string e0.before, .int .i64 (lastW e0), .int .i64 (lastB e0), .int .i64 (wl : Int)] 53)))
             have hlk2 : (Instr.lookup 48 (.map (some B)) (.string t) false).run Try.prog (w3.alloc (.cells #[.string e0.before, .int .i64 (lastW e0), .int .i64 (lastB e0), .int .i64 (wl : Int)] 53)) = .ok (.agg #[.string e0.before, .int .i64 (lastW e0), .int .i64 (lastB e0), .int .i64 (wl : Int)]) (w3.alloc (.cells #[.string e0.before, .int .i64 (lastW e0), .int .i64 (lastB e0), .int .i64 (wl : Int)] 53)) := (by have := MP4.out.look he0L (by rw [HE0.out.2]; exact HT.out); rw [HE0.out.2] at this; rw [this]; unfold arrV arrU; rw [HWL.out])
             clear hmp hp hl he0L))
        obtain ⟨W5, hW5⟩ : ∃ W5, (w3.alloc (.cells #[.string e0.before, .int .i64 (lastW e0), .int .i64 (lastB e0), .int .i64 (wl : Int)] 53)).alloc (.cells (madeCells #[.int .i64 0, .int .i64 0] (wl * 2)) 51) = W5 := ⟨_, rfl⟩
        obtain ⟨gT, hgT⟩ : ∃ gT, w3.heap.size + 1 = gT := ⟨_, rfl⟩
        have MP5 := Lib.hid (show MapS W5 B L from by rw [← hW5]; exact MapS.call MP4.out ((Below.refl _ _).alloc (Nat.le_refl _) _))
        have CT5 := Lib.hid (show Cells W5 gT (wl * 2) (fun _ => .int .i64 0) from by
          rw [← hW5, ← hgT]
          have := made_turns (w3.alloc (.cells #[.string e0.before, .int .i64 (lastW e0), .int .i64 (lastB e0), .int .i64 (wl : Int)] 53)) wl
          rw [World.size_alloc] at this
          exact this)
        have HB5 := Lib.hid (show Below w.heap.size w W5 from by
          rw [← hW5]
          exact ((bel_call B2.out hb3).alloc (bel_call B2.out hb3).size _).alloc (by rw [World.size_alloc]; exact Nat.le_succ_of_le (bel_call B2.out hb3).size) _)
        have hBg : B < gT := by have := HMP.out.lt; omega
        have hgw : w.heap.size ≤ gT := by have := (bel_call B2.out hb3).size; omega
        rw [hW5, hgT]
        clear hlk hlk2 hmk hW5 hb3 MP4 hgT
        go_loopw [12] (fun v wr => ∃ (e1 : Ent ByteArray) (pre : List Nat), v = .string e1.code ∧ e1 ∈ L ∧ e0.way = pre ++ e1.way ∧ MapS wr B L ∧ Cells wr gT (wl * 2) (fun c => if c / 2 < e1.way.length then .int .i64 0 else turnF (wayT e0.way) c) ∧ Below w.heap.size w wr) (fun v _ => wlV a b ks s v)
        case atStart => exact ⟨e0, [], by rw [HE0.out.2], HEL.out, rfl, MP5.out, CT5.out.congr (fun j hj => by rw [if_pos (by rw [HWL.out]; omega)]), HB5.out⟩
        case round =>
          clear MP5 CT5 HB5
          obtain ⟨e1, pre, rfl, he1, hpre, hMS, hC, hB⟩ := hrel
          have HE1 := Lib.hid he1
          have HPRE := Lib.hid hpre
          have HMS := Lib.hid hMS
          have HC := Lib.hid hC
          have HBW := Lib.hid hB
          have HE1A := Lib.hid (HP.out.subset he1)
          have hes : e1.code.size ≤ maxLen := by have := (asked (allL_ask HK.out HGY.out.2 e1 (HP.out.subset he1))).n6; unfold maxLen; omega
          clear hpre hMS hC hB
          by_cases hcs : e1.code = s
          · have he2 : e1 = entS s := all_nil (allL_all HK.out HGY.out.2) rfl HE1A.out hcs
            have HFIN := Lib.hid (HC.out.congr (f' := turnF (wayT e0.way)) fun j _ => by rw [if_neg (by rw [he2]; exact Nat.not_lt_zero _)])
            rw [hcs]
            clear hcs he2 hes he1
            go_wp2_with fail
            go_ret2
            refine ⟨some ⟨gT, 0, none⟩, wl, by rw [wayT_length, HWL.out]; rfl, ⟨rfl, by rw [wayT_length, HWL.out]; omega, .inr ⟨gT, rfl, hgw, by rw [wayT_length, HWL.out]; exact HFIN.out⟩⟩, HBW.out⟩
          · have hne := bytes_neA hcs
            obtain ⟨j, p, hpL, hway, hbef⟩ := (pre_parent (allL_all HK.out HGY.out.2) HP.out he1).resolve_left (fun e => hcs (by rw [e]; rfl))
            have HPL := Lib.hid hpL
            have HWAY := Lib.hid hway
            have HBEF := Lib.hid hbef
            obtain ⟨ul, hul⟩ : ∃ ul, p.way.length = ul := ⟨_, rfl⟩
            have HUL := Lib.hid hul
            have hulw : ul + 1 ≤ wl := by
              have := congrArg List.length HPRE.out
              rw [HWL.out, hway, List.length_append, List.length_cons, hul] at this
              omega
            obtain ⟨q, hq⟩ : ∃ q, j / 2 = q := ⟨_, rfl⟩
            obtain ⟨bj, hbj⟩ : ∃ bj, byJ j = bj := ⟨_, rfl⟩
            have hval : arrV e1 = .agg #[.string p.code, .int .i64 (q : Int), .int .i64 bj, .int .i64 ((ul : Int) + 1)] := by
              unfold arrV arrU lastW lastB
              rw [hway, hbef, List.length_cons, hul]
              simp only [hq, hbj]
              rfl
            have HSET := Lib.hid (way_set (w := wr) (g := gT) (j := j) (u := p.way) (pre := pre) (wl := wl) (by rw [← hway, ← HPRE.out, HWL.out]) (HC.out.congr fun c _ => by rw [hway, List.length_cons, HPRE.out, hway]))
            rw [hul, hq, hbj] at HSET
            have HM5 := Lib.hid (show MapS ((wr.setCell ⟨gT, ul * 2, none⟩ (.int .i64 (q : Int))).setCell ⟨gT, ul * 2 + 1, none⟩ (.int .i64 bj)) B L from
              MapS.kept (MapS.kept HMS.out (grown_set _ _ _) (fun e => by injection e with e; exact absurd e (by show B ≠ gT; omega))) (grown_set _ _ _) (fun e => by injection e with e; exact absurd e (by show B ≠ gT; omega)))
            have HB5 := Lib.hid ((HBW.out.setCell (p := ⟨gT, ul * 2, none⟩) hgw (.int .i64 (q : Int))).setCell (p := ⟨gT, ul * 2 + 1, none⟩) hgw (.int .i64 bj))
            have hl1 : (Instr.lookup 48 (.map (some B)) (.string e1.code) false).run Try.prog wr = .ok (.agg #[.string p.code, .int .i64 (q : Int), .int .i64 bj, .int .i64 ((ul : Int) + 1)]) wr := (HMS.out.look he1 hes).trans (by rw [hval])
            have hl2 : (Instr.lookup 48 (.map (some B)) (.string e1.code) false).run Try.prog ((wr.setCell ⟨gT, ul * 2, none⟩ (.int .i64 (q : Int))).setCell ⟨gT, ul * 2 + 1, none⟩ (.int .i64 bj)) = .ok (.agg #[.string p.code, .int .i64 (q : Int), .int .i64 bj, .int .i64 ((ul : Int) + 1)]) ((wr.setCell ⟨gT, ul * 2, none⟩ (.int .i64 (q : Int))).setCell ⟨gT, ul * 2 + 1, none⟩ (.int .i64 bj)) := (HM5.out.look he1 hes).trans (by rw [hval])
            have z0 := HC.out.cell (show ul * 2 < wl * 2 by omega)
            have z1 := HC.out.frozen (show ul * 2 < wl * 2 by omega)
            have z2 := HC.out.cell (show ul * 2 + 1 < wl * 2 by omega)
            have z3 := HC.out.frozen (show ul * 2 + 1 < wl * 2 by omega)
            rw [if_pos (by rw [hway, List.length_cons, hul]; omega)] at z0 z2
            have HMEA : Hid (wlV a b ks s (.string p.code) < wlV a b ks s (.string e1.code)) := Lib.hid (by
              rw [wlV_of HK.out HGY.out.2 (HP.out.subset hpL), wlV_of HK.out HGY.out.2 HE1A.out, hway, List.length_cons]; omega)
            obtain ⟨y, hy⟩ : ∃ y, e1.code = y := ⟨_, rfl⟩
            rw [hy] at hl1 hl2 hne HMEA ⊢
            obtain ⟨x, hx⟩ : ∃ x, p.code = x := ⟨_, rfl⟩
            have HX := Lib.hid hx
            rw [hx] at hl1 hl2 HMEA
            clear hcs hway hbef hul hq hbj hval hy hx he1 hpL hes
            go_wp2_with fail
            go_roundw
            case rel => exact ⟨p, pre ++ [j], by rw [HX.out], HPL.out, by rw [HPRE.out, HWAY.out, List.append_assoc]; rfl, HM5.out, by rw [HUL.out, HPRE.out, HWAY.out]; exact HSET.out, HB5.out⟩
            case measure => exact HMEA.out

end Go.Proofs.Ytkmgmlgjflnbeaa
