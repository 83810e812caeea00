/- The first list of fewest turns of knobs, as the model finds it. For texts that are no longer than any may be. -/
import Derived.Test.YtejpcbkhlnjlfaaFewestK
namespace Go.Proofs.Ytejpcbkhlnjlfaa
open Go.ChangeShapes Go.WideShapes Go.ChangeAt Go.RowKit Go.Joins

theorem wayT_cons (j : Nat) (v : List Nat) : wayT (j :: v) = wayT v ++ [(((j / 2 : Nat) : Int), byJ j)] := by
  unfold wayT
  rw [List.reverse_cons, List.map_append]
  rfl

/-- What the model's way asks of the list from the other end. -/
structure Greedy (a b : Int) (ks : List (List Int)) (s t : ByteArray) (e0 : Ent ByteArray) : Prop where
  at_ : ∀ u v, e0.way = u ++ v → farV a b (allL a b ks t) (nmN a b (walkR (mvK b ks) s v)) = (u.length : Int)
  first : ∀ u j v j', e0.way = u ++ j :: v → j' < j → farV a b (allL a b ks t) (nmN a b (mvK b ks (walkR (mvK b ks) s v) j')) ≠ (u.length : Int)
  ask : ∀ u v, e0.way = u ++ v → askB a b (walkR (mvK b ks) s v) = true
  lt : ∀ u j v, e0.way = u ++ j :: v → j < 2 * ks.length

theorem greedy_of {a b : Int} {ks : List (List Int)} {s t : ByteArray} (hk : KnobsB a b ks) (hs : askB a b s = true) (ht : askB a b t = true) {e0 : Ent ByteArray} (he : e0 ∈ allL a b ks s) (hc : e0.code = t) : Greedy a b ks s t e0 := by
  have hA := allL_all hk hs
  have hB := allL_all hk ht
  have haB := allL_ask hk ht
  have hw := hA.words rfl _ e0 he rfl
  have hask : ∀ u v, e0.way = u ++ v → askB a b (walkR (mvK b ks) s v) = true := fun u v e => walkR_keep (backK hk) hs v fun j hj => hw j (by rw [e]; exact List.mem_append_right _ hj)
  refine ⟨fun u v e => ?_, fun u j v j' e hj h => ?_, hask, fun u j v e => hw j (by rw [e]; exact List.mem_append_right _ (List.mem_cons_self ..))⟩
  · obtain ⟨e1, h1, h2, h3⟩ := far_split (backK hk) hA hB rfl rfl hs he hc e
    have h4 := farV_mem hB.nodup haB h1
    have h2' : e1.code = walkR (mvK b ks) s v := h2
    rw [h2', h3] at h4
    exact h4
  · have hask' : askB a b (mvK b ks (walkR (mvK b ks) s v) j') = true := (backK hk).keep _ _ (hask (u ++ [j]) v (by rw [e]; simp)) (by have := hw j (by rw [e]; exact List.mem_append_right _ (List.mem_cons_self ..)); omega)
    by_cases hin : mvK b ks (walkR (mvK b ks) s v) j' ∈ keysE (allL a b ks t)
    · obtain ⟨e3, h1, h2⟩ := mem_keysE.1 hin
      have h4 := farV_mem hB.nodup haB h1
      rw [h2, h] at h4
      exact far_first (backK hk) hA hB rfl rfl hs he hc e hj h1 h2 (by omega)
    · rw [farV_out haB hask' hin] at h
      omega

theorem far_back {a b : Int} {ks : List (List Int)} {s t : ByteArray} (hk : KnobsB a b ks) (hs : askB a b s = true) (ht : askB a b t = true) : s ∈ keysE (allL a b ks t) ↔ t ∈ keysE (allL a b ks s) := by
  rw [allL_mem hk ht, allL_mem hk hs]
  exact ⟨fun h => h.back hk ht, fun h => h.back hk hs⟩

theorem snoc_split {α : Type} {u : List α} (h : u ≠ []) : ∃ u' j, u = u' ++ [j] := ⟨u.dropLast, u.getLast h, (List.dropLast_concat_getLast h).symm⟩

set_option maxRecDepth 100000 in
set_option maxHeartbeats 4000000 in
theorem specFirstKnobs_any (a b : Int) (s t : ByteArray) (A : Option Addr) (n c : Nat) (ks : List (List Int)) (w : World) (hm : n + lensAt ks n ≤ 1048576) (hs : s.size ≤ maxLen) (ht : t.size ≤ maxLen) (hA : KnobsC w A n ks) :
    Calls Try.prog 36 #[.agg #[.int .i64 a, .int .i64 b, .slice A n c], .string s, .string t] w (TurnsOut w (fkT a b ks s t) (fkB a b ks s t)) := by
  have HS := Lib.hid hs
  have HT := Lib.hid ht
  have HA := Lib.hid hA
  have HN := Lib.hid hA.len
  have G0 := gs_new w a b A n c
  obtain ⟨i0, hi, hz0, hz1, hz2⟩ := info_parts info_turn
  clear hA hs ht
  obtain ⟨u, HU⟩ : ∃ u, Hid (gtB a b ks s t = u) := ⟨_, Lib.hid rfl⟩
  rcases u with _ | _
  · have HF := Lib.hid (gt_fk HU.out)
    have HFT : Hid (fkT a b ks s t = []) := Lib.hid (by unfold fkT; rw [HF.out]; rfl)
    rw [HF.out, HFT.out]
    go_enter Try.func36, Try.ntmps36
    go_wp2_with (go_at_call 81; refine (joTwo_any _ _ _ _ _ _ _ ks _ hm HS.out HT.out (HA.out.below G0.out.bel)).mono ?_; rw [HU.out]; rintro e w1 ⟨rfl, hb1⟩)
    go_ret2
    exact turns_none (bel_call G0.out.bel hb1)
  · have HGC := Lib.hid (gt_yes HU.out)
    have HGY := Lib.hid (gcB_yes HGC.out.1)
    have HK := Lib.hid (gears_knobs HGY.out.1)
    obtain ⟨hc1, _⟩ := gears_cnt HGY.out.1
    have hn5 : n ≤ 1000 := by have := (gearsB_yes HGY.out.1).2.2.2.1; have := HN.out; omega
    have hyn := nmN_lt HGY.out.2
    obtain ⟨yn, hyne⟩ : ∃ yn, nmN a b s = yn := ⟨_, rfl⟩
    have HYN : Hid (numZ a b s = (yn : Int)) := Lib.hid (by rw [← hyne]; exact (nmN_cast HGY.out.2).symm)
    rw [hyne] at hyn
    obtain ⟨M, hMe⟩ : ∃ M, cntN a b = M := ⟨_, rfl⟩
    have HM := Lib.hid hMe
    rw [hMe] at hyn hc1
    obtain ⟨f, hf⟩ : ∃ f, farV a b (allL a b ks t) = f := ⟨_, rfl⟩
    have HF0 := Lib.hid hf
    rcases hent : entT a b ks s t with _ | e0
    · have HF : Hid (fkB a b ks s t = false) := Lib.hid (by unfold fkB; rw [hent]; simp)
      have HFT : Hid (fkT a b ks s t = []) := Lib.hid (by unfold fkT; rw [HF.out]; rfl)
      rw [HF.out, HFT.out]
      have HFV : Hid (f yn = -1) := Lib.hid (by
        rw [← hf, ← hyne]
        exact farV_out (allL_ask HK.out HGC.out.2) HGY.out.2 fun h => entT_none hent ((far_back HK.out HGY.out.2 HGC.out.2).1 h))
      clear hent hMe hf hyne
      go_enter Try.func36, Try.ntmps36
      go_wp2_with (first
        | (go_at_call 81; refine (joTwo_any _ _ _ _ _ _ _ ks _ hm HS.out HT.out (HA.out.below G0.out.bel)).mono ?_; rw [HU.out]; rintro e w1 ⟨rfl, hb1⟩
           have G1 := gs_call G0 hb1
           have l0 := gs_0 G1
           have l1 := gs_1 G1
           have l2 := gs_2 G1
           clear hb1)
        | (go_at_call 82; refine (joFar_any _ _ _ _ _ _ ks _ hn5 (HA.out.below G1.out.bel) HGC.out.2 HK.out (by rw [HM.out]; exact hc1)).mono ?_; rw [HM.out, HF0.out]; rintro e w4 ⟨g4, rfl, hg4, hC4, hb4⟩
           have G4 := gs_call G1 hb4
           have q0 := gs_0 G4
           have q1 := gs_1 G4
           have q2 := gs_2 G4
           have HC4 := Lib.hid hC4
           clear hC4 hb4)
        | (go_at_call 83; refine (whNumber_any _ _ _ _ HGY.out.2).mono ?_; rw [HYN.out]; rintro e w3 ⟨rfl, hb3⟩
           have G3 := gs_call G4 hb3
           have z2 : w3.cell? ⟨g4, yn, none⟩ = some (.int .i64 (f yn)) := (HC4.out.call hb3).cell hyn
           rw [HFV.out] at z2))
      go_ret2
      exact turns_none G3.out.bel
    · have HE0 := Lib.hid (entT_some HK.out HGY.out.2 HGC.out.2 hent)
      have HF : Hid (fkB a b ks s t = true) := Lib.hid (by unfold fkB; rw [hent, HGC.out.1, HGC.out.2]; rfl)
      have HFT : Hid (fkT a b ks s t = wayT e0.way) := Lib.hid (by unfold fkT; rw [HF.out, hent]; rfl)
      have HGR := Lib.hid (greedy_of HK.out HGY.out.2 HGC.out.2 HE0.out.1 HE0.out.2)
      have hwl := way_bd HK.out HGY.out.2 HE0.out.1
      obtain ⟨wl, hwle⟩ : ∃ wl, e0.way.length = wl := ⟨_, rfl⟩
      have HWL := Lib.hid hwle
      rw [hwle, hMe] at hwl
      rw [HF.out, HFT.out]
      have HFV : Hid (f yn = (wl : Int)) := Lib.hid (by
        have := HGR.out.at_ e0.way [] (by simp)
        rw [hf] at this
        rw [← hyne, ← hwle]
        exact this)
      clear hent hMe hf hyne hwle
      go_enter Try.func36, Try.ntmps36
      go_wp2_with (first
        | (go_at_call 81; refine (joTwo_any _ _ _ _ _ _ _ ks _ hm HS.out HT.out (HA.out.below G0.out.bel)).mono ?_; rw [HU.out]; rintro e w1 ⟨rfl, hb1⟩
           have G1 := gs_call G0 hb1
           have l0 := gs_0 G1
           have l1 := gs_1 G1
           have l2 := gs_2 G1
           clear hb1)
        | (go_at_call 82; refine (joFar_any _ _ _ _ _ _ ks _ hn5 (HA.out.below G1.out.bel) HGC.out.2 HK.out (by rw [HM.out]; exact hc1)).mono ?_; rw [HM.out, HF0.out]; rintro e w4 ⟨g4, rfl, hg4, hC4, hb4⟩
           have G4 := gs_call G1 hb4
           have q0 := gs_0 G4
           have q1 := gs_1 G4
           have q2 := gs_2 G4
           have HC4 := Lib.hid hC4
           have hg5 : w.heap.size ≤ g4 := Nat.le_trans G1.out.bel.size hg4
           clear hC4 hb4)
        | (go_at_call 83; refine (whNumber_any _ _ _ _ HGY.out.2).mono ?_; rw [HYN.out]; rintro e w3 ⟨rfl, hb3⟩
           have G3 := gs_call G4 hb3
           have HC3 := Lib.hid (HC4.out.call hb3)
           have z2 : w3.cell? ⟨g4, yn, none⟩ = some (.int .i64 (f yn)) := HC3.out.cell hyn
           rw [HFV.out] at z2
           clear hb3))
      obtain ⟨R, hR⟩ : ∃ R, w3.heap.size = R := ⟨_, rfl⟩
      have hgR : g4 < R := by rw [← hR]; exact HC3.out.lt
      have hwR : w.heap.size < R := by have := G3.out.box.lt; omega
      have hRle := Nat.le_of_eq hR.symm
      clear z2 q0 q1 q2 l0 l1 l2 hR
      go_loopw [1, 9, 10] (fun x l v wr => ∃ p u : List Nat, e0.way = u ++ p ∧ x = .string (walkR (mvK b ks) s p) ∧ l = .int .i64 (u.length : Int) ∧ wr.ownsRow R 91 2 v p.length (tv (wayT p)) ∧ GS w wr a b A n c ∧ Cells wr g4 M (fun i => .int .i64 (f i)) ∧ R ≤ wr.heap.size) (fun _ l _ _ => (intOf l).toNat)
      case atStart => exact ⟨[], e0.way, by simp, rfl, by rw [HWL.out], World.ownsRow_nil _ _ _ _, G3.out, HC3.out, hRle⟩
      case round =>
        clear HC3 hRle
        obtain ⟨p, u, hup, rfl, rfl, hO, hG, hC, hRl⟩ := hrel
        have HUP := Lib.hid hup
        have HO := Lib.hid hO
        have HG := Lib.hid hG
        have HC := Lib.hid hC
        clear hup hO hG hC
        by_cases hu0 : u = []
        · subst hu0
          have HPE : Hid (p = e0.way) := Lib.hid (by rw [HUP.out]; rfl)
          go_wp2_with fail
          go_ret2
          obtain ⟨A5, c5, rfl⟩ := own_any HO.out
          have hlen : (wayT e0.way).length = p.length := by rw [wayT_length, HPE.out]
          refine ⟨A5, c5, by rw [hlen]; rfl, ⟨rfl, by rw [hlen, HPE.out, HWL.out]; omega, ?_⟩, HG.out.bel⟩
          by_cases h0 : p.length = 0
          · left; rw [hlen]; exact h0
          · right
            obtain ⟨g, c', e, hg, hC⟩ := own_turns HO.out (by omega)
            cases e
            exact ⟨g, rfl, by omega, by rw [hlen, ← HPE.out]; exact hC⟩
        · obtain ⟨u', j, hue⟩ := snoc_split hu0
          subst hue
          have HSP : Hid (e0.way = u' ++ j :: p) := Lib.hid (by rw [HUP.out]; simp)
          have hj := HGR.out.lt _ _ _ HSP.out
          rw [HN.out] at hj
          have HASK := Lib.hid (HGR.out.ask (u' ++ [j]) p HUP.out)
          have HAT : Hid (f (nmN a b (walkR (mvK b ks) s (j :: p))) = (u'.length : Int)) := Lib.hid (by rw [← HF0.out]; exact HGR.out.at_ u' (j :: p) HSP.out)
          have HNOT : Hid (∀ j', j' < j → f (nmN a b (mvK b ks (walkR (mvK b ks) s p) j')) ≠ (u'.length : Int)) := Lib.hid (by rw [← HF0.out]; exact fun j' h => HGR.out.first u' j p j' HSP.out h)
          have hul : u'.length ≤ 1000 := by
            have := congrArg List.length HSP.out
            rw [HWL.out, List.length_append] at this
            omega
          have hpl : p.length ≤ 1000 := by
            have := congrArg List.length HSP.out
            rw [HWL.out, List.length_append, List.length_cons] at this
            omega
          obtain ⟨ul, hule⟩ : ∃ ul, (u' ++ [j]).length = ul := ⟨_, rfl⟩
          have hul1 : u'.length + 1 = ul := by rw [← hule, List.length_append]; rfl
          have HULE : Hid ((u'.length : Int) = (ul : Int) - 1) := Lib.hid (by omega)
          have hul2 : 0 < ul := by omega
          have hul3 : ul ≤ 1001 := by omega
          rw [hule]
          rw [HULE.out] at HAT
          simp only [HULE.out] at HNOT
          clear hu0 hule hul1 hul
          go_wp2_with fail
          try simp only [hul2, decide_true]
          go_loopw [1, 10, 11, 12] (fun x v fd kv wr => ∃ (d : Bool) (kk : Nat), fd = .bool d ∧ kv = .int .i64 kk ∧ kk ≤ n ∧ (d = false → 2 * kk ≤ j) ∧ x = .string (walkR (mvK b ks) s (if d then j :: p else p)) ∧ wr.ownsRow R 91 2 v (if d then j :: p else p).length (tv (wayT (if d then j :: p else p))) ∧ GS w wr a b A n c ∧ Cells wr g4 M (fun i => .int .i64 (f i)) ∧ R ≤ wr.heap.size) (fun _ _ _ kv _ => n - (intOf kv).toNat)
          case atStart => exact ⟨false, 0, rfl, rfl, by omega, fun _ => by omega, rfl, HO.out, HG.out, HC.out, hRl⟩
          case round =>
            clear HO HG HC hRl
            obtain ⟨d, kk, rfl, rfl, hkk, hd, rfl, hO, hG, hC, hRl⟩ := hrel
            have HO := Lib.hid hO
            have HG := Lib.hid hG
            have HC := Lib.hid hC
            clear hO hG hC
            have l2 := gs_2 HG
            rcases d with _ | _
            · have hd0 := hd rfl
              clear hd
              have hkn : kk < n := by omega
              have HKK := Lib.hid (HK.out kk (by rw [HN.out]; exact hkn))
              simp only [Bool.false_eq_true, if_false] at HO ⊢
              go_wp2_with fail
              clear l2
              go_loopw [1, 10, 11, 13] (fun x v fd bv wr => ∃ (d : Bool) (tt : Nat), fd = .bool d ∧ bv = .int .i64 (1 - 2 * (tt : Int)) ∧ tt ≤ 2 ∧ (d = false → 2 * kk + tt ≤ j) ∧ x = .string (walkR (mvK b ks) s (if d then j :: p else p)) ∧ wr.ownsRow R 91 2 v (if d then j :: p else p).length (tv (wayT (if d then j :: p else p))) ∧ GS w wr a b A n c ∧ Cells wr g4 M (fun i => .int .i64 (f i)) ∧ R ≤ wr.heap.size) (fun _ _ _ bv _ => (intOf bv + 3).toNat)
              case atStart => exact ⟨false, 0, rfl, rfl, by omega, fun _ => by omega, rfl, HO.out, HG.out, HC.out, hRl⟩
              case round =>
                clear HO HG HC hRl
                obtain ⟨d, tt, rfl, rfl, htt, hd, rfl, hO, hG, hC, hRl⟩ := hrel
                have HO := Lib.hid hO
                have HG := Lib.hid hG
                have HC := Lib.hid hC
                clear hO hG hC
                rcases d with _ | _
                · have hd1 := hd rfl
                  clear hd
                  simp only [Bool.false_eq_true, if_false] at HO ⊢
                  by_cases ht2 : tt < 2
                  · have l0 := gs_0 HG
                    have l1 := gs_1 HG
                    have l2 := gs_2 HG
                    obtain ⟨x, hx⟩ : ∃ x, walkR (mvK b ks) s p = x := ⟨_, rfl⟩
                    have HX := Lib.hid hx
                    rw [hx]
                    have HXA : Hid (askB a b x = true) := Lib.hid (by rw [← hx]; exact HASK.out)
                    obtain ⟨y, hy⟩ : ∃ y, turnK b (1 - 2 * (tt : Int)) x (ks.getD kk []) = y := ⟨_, rfl⟩
                    have HY := Lib.hid hy
                    have HYA : Hid (askB a b y = true) := Lib.hid (by rw [← hy]; exact turnK_ask HXA.out HKK.out)
                    have HYM : Hid (mvK b ks x (2 * kk + tt) = y) := Lib.hid (by rw [mvK_two ht2]; exact hy)
                    have hzn := nmN_lt HYA.out
                    obtain ⟨zn, hzne⟩ : ∃ zn, nmN a b y = zn := ⟨_, rfl⟩
                    have HZN : Hid (numZ a b y = (zn : Int)) := Lib.hid (by rw [← hzne]; exact (nmN_cast HYA.out).symm)
                    have HZE := Lib.hid hzne
                    rw [hzne, HM.out] at hzn
                    clear hx hy hzne
                    by_cases hjj : 2 * kk + tt = j
                    · have HFE : Hid (f zn = (ul : Int) - 1) := Lib.hid (by
                        have := HAT.out
                        rw [walkR, HX.out, ← hjj, HYM.out, HZE.out] at this
                        exact this)
                      have HWX : Hid (walkR (mvK b ks) s (j :: p) = y) := Lib.hid (by rw [walkR, HX.out, ← hjj, HYM.out])
                      have HTV : Hid (tv (wayT (j :: p)) = tv (wayT p) ++ [.int .i64 (kk : Int), .int .i64 (1 - 2 * (tt : Int))]) := Lib.hid (by
                        rw [wayT_cons, tv_app]
                        have e1 : j / 2 = kk := by omega
                        have e2 : byJ j = 1 - 2 * (tt : Int) := by
                          unfold byJ
                          rcases (show tt = 0 ∨ tt = 1 by omega) with rfl | rfl
                          · rw [if_pos (by omega)]; rfl
                          · rw [if_neg (by omega)]; rfl
                        rw [e1, e2]
                        rfl)
                      go_wp2_with (first
                        | (go_at_call 75; refine (joTurn_any _ _ _ _ _ _ _ _ ks _ hkn (HA.out.below HG.out.bel) HXA.out HKK.out (by omega)).mono ?_; rw [HY.out]; rintro e w5 ⟨rfl, hb5⟩
                           have G5 := gs_call HG hb5
                           have C5 := hc_call HC hb5
                           have O5 := Lib.hid (own_below HO.out hb5)
                           have m0 := gs_0 G5
                           have m1 := gs_1 G5
                           have R5 : R ≤ w5.heap.size := Nat.le_trans hRl hb5.size
                           clear hb5)
                        | (go_at_call 83; refine (whNumber_any _ _ _ _ HYA.out).mono ?_; rw [HZN.out]; rintro e w6 ⟨rfl, hb6⟩
                           have G6 := gs_call G5 hb6
                           have C6 := hc_call C5 hb6
                           have O6 := Lib.hid (own_below O5.out hb6)
                           have z6 : w6.cell? ⟨g4, zn, none⟩ = some (.int .i64 (f zn)) := C6.out.cell hzn
                           rw [HFE.out] at z6
                           have R6 : R ≤ w6.heap.size := Nat.le_trans R5 hb6.size
                           clear hb6)
                        | (at_builtin; refine wpList_append_own _ rfl _ _ 51 rfl R 91 i0 (.agg #[.int .i64 0, .int .i64 0]) 2 16 Try.underlying51 hi hz0 hz1 hz2 rfl (by decide) _ _ _ rfl (O6.out.alloc _) ⟨w6.heap.size, 0, none⟩ 1 1 [.int .i64 (kk : Int), .int .i64 (1 - 2 * (tt : Int))] rfl rfl (news_at rfl) (by simp [Value.oneCell']) (by unfold maxLen; omega) (by omega) (by simp; omega) ?_; intro v7 w7 hown7 hgrow7 hiff7; clear hiff7))
                      have hOb := O6.out.lt
                      have hne : ∀ g, g < R → some g ≠ (u10).ownBlock := fun g hg e => by have := (hOb g e.symm).1; omega
                      have G7 := gs_grown (gs_alloc G6 (.cells #[.int .i64 (kk : Int), .int .i64 (1 - 2 * (tt : Int))] 91)) hgrow7 (hne _ hwR) (fun g e => by have := (hOb g e).1; omega)
                      have C7 := Lib.hid ((C6.out.alloc (.cells #[.int .i64 (kk : Int), .int .i64 (1 - 2 * (tt : Int))] 91)).grownG hgrow7 (hne _ hgR))
                      have R7 : R ≤ w7.heap.size := by have := hgrow7.size; rw [World.size_alloc] at this; omega
                      have O7 := Lib.hid hown7
                      clear hown7 hgrow7 hOb hne
                      go_roundw
                      case rel => exact ⟨true, tt + 1, rfl, congrArg (Value.int .i64) (by omega), by omega, fun h => (by cases h), by rw [if_pos rfl, HWX.out], by rw [if_pos rfl, HTV.out]; exact O7.out, G7.out, C7.out, R7⟩
                      case measure => simp [intOf] <;> omega
                    · have hjl : 2 * kk + tt < j := by omega
                      have HFE : Hid (f zn ≠ (ul : Int) - 1) := Lib.hid (by
                        have := HNOT.out _ hjl
                        rw [HX.out, HYM.out, HZE.out] at this
                        exact this)
                      obtain ⟨fz, hfz⟩ : ∃ fz, f zn = fz := ⟨_, rfl⟩
                      have HFZ := Lib.hid hfz
                      have hne : (fz == (ul : Int) - 1) = false := by rw [beq_eq_false_iff_ne, ← hfz]; exact HFE.out
                      have hne2 : fz ≠ (ul : Int) - 1 := by rw [← hfz]; exact HFE.out
                      clear hfz hjj
                      go_wp2_with (first
                        | (go_at_call 75; refine (joTurn_any _ _ _ _ _ _ _ _ ks _ hkn (HA.out.below HG.out.bel) HXA.out HKK.out (by omega)).mono ?_; rw [HY.out]; rintro e w5 ⟨rfl, hb5⟩
                           have G5 := gs_call HG hb5
                           have C5 := hc_call HC hb5
                           have O5 := Lib.hid (own_below HO.out hb5)
                           have m0 := gs_0 G5
                           have m1 := gs_1 G5
                           have R5 : R ≤ w5.heap.size := Nat.le_trans hRl hb5.size
                           clear hb5)
                        | (go_at_call 83; refine (whNumber_any _ _ _ _ HYA.out).mono ?_; rw [HZN.out]; rintro e w6 ⟨rfl, hb6⟩
                           have G6 := gs_call G5 hb6
                           have C6 := hc_call C5 hb6
                           have O6 := Lib.hid (own_below O5.out hb6)
                           have z6 : w6.cell? ⟨g4, zn, none⟩ = some (.int .i64 (f zn)) := C6.out.cell hzn
                           rw [HFZ.out] at z6
                           have R6 : R ≤ w6.heap.size := Nat.le_trans R5 hb6.size
                           clear hb6))
                      go_roundw
                      case rel => exact ⟨false, tt + 1, rfl, congrArg (Value.int .i64) (by omega), by omega, fun _ => by omega, by simp only [Bool.false_eq_true, if_false]; rw [HX.out], by simp only [Bool.false_eq_true, if_false]; exact O6.out, G6.out, C6.out, R6⟩
                      case measure => simp [intOf] <;> omega
                  · obtain rfl : tt = 2 := by omega
                    go_wp2_with fail
                    go_roundw
                    case rel => exact ⟨false, kk + 1, rfl, by go_num, by omega, fun _ => by omega, by simp only [Bool.false_eq_true, if_false], by simp only [Bool.false_eq_true, if_false]; exact HO.out, HG.out, HC.out, hRl⟩
                    case measure => simp [intOf] <;> omega
                · by_cases ht2 : tt < 2
                  · go_wp2_with fail
                    go_roundw
                    case rel => exact ⟨true, kk + 1, rfl, by go_num, by omega, fun h => (by cases h), rfl, HO.out, HG.out, HC.out, hRl⟩
                    case measure => simp [intOf] <;> omega
                  · obtain rfl : tt = 2 := by omega
                    go_wp2_with fail
                    go_roundw
                    case rel => exact ⟨true, kk + 1, rfl, by go_num, by omega, fun h => (by cases h), rfl, HO.out, HG.out, HC.out, hRl⟩
                    case measure => simp [intOf] <;> omega
            · by_cases hkn : kk < n
              · go_wp2_with fail
                go_roundw
                case rel => exact ⟨j :: p, u', HSP.out, rfl, congrArg (Value.int .i64) HULE.out.symm, HO.out, HG.out, HC.out, hRl⟩
                case measure => simp [intOf] <;> omega
              · go_wp2_with fail
                go_roundw
                case rel => exact ⟨j :: p, u', HSP.out, rfl, congrArg (Value.int .i64) HULE.out.symm, HO.out, HG.out, HC.out, hRl⟩
                case measure => simp [intOf] <;> omega

end Go.Proofs.Ytejpcbkhlnjlfaa
