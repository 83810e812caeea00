/- The needless clues, as both programs list them. For puzzles in blocks of the law's own. -/
import Derived.Test.YtkfddobdffgmiaaUq
namespace Go.Proofs.Ytkfddobdffgmiaa
open Go.ChangeShapes Go.WideShapes Go.ChangeAt Go.RowKit Go.Joins

theorem KC.argN {w : World} {lo hi : Nat} {A : Option Addr} {n : Nat} {cs : List Clu} (h : KC w lo hi A n (cluF cs)) (hl : cs.length = n) : ArgC w A n cs := by
  subst hl
  exact h.argC

theorem wo_all {a b : Int} {cs : List Clu} (h : cs.all (cluB a b) = true) (k : Nat) : (woC cs k).all (cluB a b) = true := by
  rw [List.all_eq_true] at h ⊢
  intro c hc
  unfold woC at hc
  rcases List.mem_append.1 hc with h1 | h1
  · exact h c (List.mem_of_mem_take h1)
  · exact h c (List.mem_of_mem_drop h1)

theorem pz_wo {a b : Int} {cs : List Clu} {k : Nat} (h : pzB a b cs = true) (hk : k < cs.length) : pzB a b (woC cs k) = true := by
  obtain ⟨h1, h2, h3⟩ := pzB_yes h
  have h4 := wo_all h3 k
  unfold pzB
  rw [h1, h4, woC_length rfl hk]
  simp
  omega

theorem new_one {W : World} {B : Nat} {x : Value} {t : TypeId} (hB : B = W.heap.size) : ∀ j u, ([x] : List Value)[j]? = some u → (W.alloc (.cells #[x] t)).cell? ((⟨B, 0, none⟩ : Addr).add j) = some u := by
  subst hB
  intro j u hu
  rcases j with _ | j
  · simp at hu
    subst hu
    simp [Addr.add]
  · simp at hu

theorem PB.belowB {w W W' : World} {a b : Int} {v : Value} {B : Nat} (h : PB w a b v W) (hb : Below B W W') (hB : w.heap.size < B) : PB w a b v W' := by
  obtain ⟨h0, h1, h2, h3, h4⟩ := h
  exact ⟨by rw [hb.cell (p := ⟨w.heap.size, 0, none⟩) hB, h0], by rw [hb.cell (p := ⟨w.heap.size, 1, none⟩) hB, h1], by rw [hb.cell (p := ⟨w.heap.size, 2, none⟩) hB, h2], h3.trans (hb.mono (Nat.le_of_lt hB)), Nat.lt_of_lt_of_le h4 hb.size⟩

/-- A row of numbers of the call's own. -/
theorem own_li {w : World} {B : Nat} {t : TypeId} {v : Value} {xs : List Int} {n : Nat} (h : w.ownsRow B t 1 v n (iv xs)) (hx : xs.length = n) (hn : n ≤ 1000) : ∃ A c, v = .slice A n c ∧ LI w B w.heap.size A xs := by
  rcases Nat.eq_zero_or_pos n with h0 | h0
  · subst h0
    rcases h.2 with ⟨rfl, _⟩ | ⟨g, cap, cur, rfl, _⟩
    · exact ⟨none, 0, rfl, by omega, .inl hx⟩
    · exact ⟨_, cap, rfl, by omega, .inl hx⟩
  · obtain ⟨g, c, rfl, hg, hC⟩ := own_cells h h0
    exact ⟨_, c, rfl, by omega, .inr ⟨g, rfl, hg, hC.lt, by rw [hx]; exact hC⟩⟩

/-- Whether a clue is needless, and the needless ones among the first. -/
def ncT (a b : Int) (cs : List Clu) (k : Nat) : Prop := (solL a b (woC cs k)).length = (solL a b cs).length

instance (a b : Int) (cs : List Clu) (k : Nat) : Decidable (ncT a b cs k) := by unfold ncT; infer_instance

def ncN (a b : Int) (cs : List Clu) : Nat → List Int
  | 0 => []
  | k + 1 => if ncT a b cs k then ncN a b cs k ++ [(k : Int)] else ncN a b cs k

def ncL (a b : Int) (cs : List Clu) : List Int := if pzB a b cs then ncN a b cs cs.length else []

theorem ncN_length (a b : Int) (cs : List Clu) (k : Nat) : (ncN a b cs k).length ≤ k := by
  induction k with
  | zero => simp [ncN]
  | succ k ih =>
    rw [ncN]
    split
    · rw [List.length_append, List.length_singleton]; omega
    · omega

set_option maxRecDepth 100000 in
set_option maxHeartbeats 4000000 in
theorem specNeedlessClues_any (a b : Int) (g n : Nat) (cs : List Clu) (w : World) (hn : n ≤ maxLen) (hA : ArgC w (some ⟨g, 0, none⟩) n cs) :
    Calls Try.prog 43 #[.agg #[.int .i64 a, .int .i64 b, .slice (some ⟨g, 0, none⟩) n n]] w (NumsOut w (ncL a b cs) (pzB a b cs)) := by
  have H0 : Hid (PB w a b (.slice (some ⟨g, 0, none⟩) n n) (w.alloc (.cells #[.int .i64 a, .int .i64 b, .slice (some ⟨g, 0, none⟩) n n] 39))) := Lib.hid (PB_new ..)
  have HN := Lib.hid hn
  have HA := Lib.hid hA
  have HL := Lib.hid hA.len
  clear hn hA
  by_cases hp : pzB a b cs = true
  · have HP := Lib.hid hp
    obtain ⟨hp1, hp2, hp3⟩ := pzB_yes hp
    have HP1 := Lib.hid hp1
    have HP3 := Lib.hid hp3
    have h6 : n ≤ 6 := by rw [← HL.out]; exact hp2
    have HV : Hid (ncL a b cs = ncN a b cs n) := Lib.hid (by unfold ncL; rw [hp, HL.out]; rfl)
    obtain ⟨i0, hi, hy0, hy1, hy2⟩ := info_parts info_int
    obtain ⟨m, hm⟩ : ∃ m, (solL a b cs).length = m := ⟨_, rfl⟩
    have HM := Lib.hid hm
    skip
    clear hp hp1 hp2 hp3 hm
    go_enter Try.func43, Try.ntmps43
    go_wp2_with (first
      | (go_at_call 64; refine (call_PB H0.out (pzGood_any _ _ _ _ _ cs _ HN.out (HA.out.below H0.out.2.2.2.1))).mono ?_; rw [HP.out]; rintro e w0 ⟨rfl, hS0⟩; have HS0 := Lib.hid hS0; obtain ⟨p0, q0, s0, _, z0⟩ := hS0)
      | (go_at_call 74; refine (pzAll_any _ _ _ _ _ cs _ h6 (HA.out.below HS0.out.2.2.2.1) HP1.out HP3.out).mono ?_; rintro e w1 ⟨A8, c8, rfl, _, hb1⟩
         rw [HM.out]
         have H1 := Lib.hid (HS0.out.below hb1)
         obtain ⟨p1, q1, s1, _, z1⟩ := HS0.out.below hb1
         clear hb1 p0 q0 s0))
    go_loopw [4, 19] (fun v i wr => ∃ k : Nat, k ≤ n ∧ i = .int .i64 k ∧ wr.ownsRow w1.heap.size 3 1 v (ncN a b cs k).length (iv (ncN a b cs k)) ∧ PB w a b (.slice (some ⟨g, 0, none⟩) n n) wr ∧ w1.heap.size ≤ wr.heap.size) (fun _ i _ => n - (intOf i).toNat)
    case atStart => exact ⟨0, by omega, rfl, World.ownsRow_nil _ _ _ _, H1.out, Nat.le_refl _⟩
    case round =>
      clear p1 q1 s1
      obtain ⟨k, hk, rfl, hown, hS, hle⟩ := hrel
      have HOW := Lib.hid hown
      have HS := Lib.hid hS
      obtain ⟨p2, q2, s2, _, z2⟩ := hS
      clear hown
      by_cases hlt : k < n
      · have hki : (k : Int) < (n : Int) := by omega
        have HWL := Lib.hid (woC_length HL.out hlt)
        have HALL := Lib.hid (wo_all HP3.out k)
        have hlen := ncN_length a b cs k
        obtain ⟨f, hf⟩ : ∃ f, (solL a b (woC cs k)).length = f := ⟨_, rfl⟩
        have HF := Lib.hid hf
        skip
        clear hf
        by_cases hfm : f = m
        · have HT : Hid (ncN a b cs (k + 1) = ncN a b cs k ++ [(k : Int)]) := Lib.hid (by rw [ncN, if_pos (by unfold ncT; rw [HF.out, HM.out, hfm])])
          have hfe : ((f : Int) == (m : Int)) = true := by rw [hfm]; exact beq_self_eq_true _
          clear hfm
          go_wp2_with fail
          go_region_law (first
            | (go_simp; go_at_call 79; refine (pzWithout_any _ _ _ cs _ h6 hlt (HA.out.below (bel_drew HS.out.2.2.2.1))).mono ?_; rintro e w2 ⟨v2, rfl, hO2, hb2⟩
               obtain ⟨A2, c2, rfl, hK2⟩ := own_kc hO2 HWL.out
               have K2 := Lib.hid (hK2.argN HWL.out)
               have HB2 : Hid (Below wr.heap.size wr w2) := Lib.hid (below_undrew hb2)
               obtain ⟨x2, y2, u2, _, _⟩ := HS.out.below HB2.out
               clear hO2 hb2 hK2)
            | (go_simp; go_at_call 74; refine (pzAll_any _ _ _ _ _ (woC cs k) _ (by omega) K2.out HP1.out HALL.out).mono ?_; rintro e w3 ⟨A9, c9, rfl, _, hb3⟩
               have HB3 := Lib.hid (bel_call HB2.out hb3)
               have HS3 := Lib.hid (HS.out.below HB3.out)
               have HO3 := Lib.hid (own_keeps HOW.out HB3.out)
               have s3 : w1.heap.size ≤ w3.heap.size := Nat.le_trans hle HB3.out.size
               rw [HF.out]
               clear hb3))
          all_goals
            skip
            go_wp2_with (at_builtin; refine wpList_append_own _ rfl _ _ 57 rfl w1.heap.size 3 i0 (.int .i64 0) 1 8 Try.underlying57 hi hy0 hy1 hy2 rfl (by decide) _ _ _ rfl (HO3.out.alloc _) ⟨w3.heap.size, 0, none⟩ 1 1 [.int .i64 (k : Int)] rfl rfl (new_one rfl) (by simp [Value.oneCell']) (by unfold maxLen; omega) (by omega) (by simp; omega) ?_; intro v9 w9 hown9 hgrow9 hiff9; clear hiff9)
            have HO5 : Hid (w9.ownsRow w1.heap.size 3 1 v9 (ncN a b cs (k + 1)).length (iv (ncN a b cs (k + 1)))) := Lib.hid (by rw [HT.out, List.length_append, iv, List.map_append]; exact hown9)
            have HB5 : Hid (Below w1.heap.size w3 w9) := Lib.hid (((Below.refl w1.heap.size w3).alloc s3 _).grown hgrow9 (by simp; omega) (fun j hj => (HO3.out.lt j hj).1))
            clear hown9 hgrow9
            have HS5 := Lib.hid (HS3.out.belowB HB5.out z1)
            have s5 : w1.heap.size ≤ w9.heap.size := by have := HB5.out.size; omega
            go_roundw
            case rel => exact ⟨k + 1, by omega, by go_num, HO5.out, HS5.out, s5⟩
            case measure => simp [intOf]; omega
        · have HT : Hid (ncN a b cs (k + 1) = ncN a b cs k) := Lib.hid (by rw [ncN, if_neg (by unfold ncT; rw [HF.out, HM.out]; exact hfm)])
          have hfe : ((f : Int) == (m : Int)) = false := by rw [beq_eq_false_iff_ne]; omega
          clear hfm
          go_wp2_with fail
          go_region_law (first
            | (go_simp; go_at_call 79; refine (pzWithout_any _ _ _ cs _ h6 hlt (HA.out.below (bel_drew HS.out.2.2.2.1))).mono ?_; rintro e w2 ⟨v2, rfl, hO2, hb2⟩
               obtain ⟨A2, c2, rfl, hK2⟩ := own_kc hO2 HWL.out
               have K2 := Lib.hid (hK2.argN HWL.out)
               have HB2 : Hid (Below wr.heap.size wr w2) := Lib.hid (below_undrew hb2)
               obtain ⟨x2, y2, u2, _, _⟩ := HS.out.below HB2.out
               clear hO2 hb2 hK2)
            | (go_simp; go_at_call 74; refine (pzAll_any _ _ _ _ _ (woC cs k) _ (by omega) K2.out HP1.out HALL.out).mono ?_; rintro e w3 ⟨A9, c9, rfl, _, hb3⟩
               have HB3 := Lib.hid (bel_call HB2.out hb3)
               have HS3 := Lib.hid (HS.out.below HB3.out)
               have HO3 := Lib.hid (own_keeps HOW.out HB3.out)
               have s3 : w1.heap.size ≤ w3.heap.size := Nat.le_trans hle HB3.out.size
               rw [HF.out]
               clear hb3))
          all_goals
            go_wp2_with fail
            go_roundw
            case rel => exact ⟨k + 1, by omega, by go_num, by rw [HT.out]; exact HO3.out, HS3.out, s3⟩
            case measure => simp [intOf]; omega
      · obtain rfl : k = n := by omega
        have hki : ¬ ((k : Int) < (k : Int)) := by omega
        have hlen := ncN_length a b cs k
        obtain ⟨A9, c9, rfl, hO9⟩ := own_li HOW.out rfl (by omega)
        have HOO := Lib.hid hO9
        clear hO9
        go_wp2_with fail
        go_ret2
        refine ⟨A9, c9, by rw [HV.out, HP.out]; rfl, ?_, HS.out.2.2.2.1⟩
        rw [HV.out]
        exact HOO.out.wide (Nat.le_of_lt z1) (Nat.le_refl _)
  · have HP := Lib.hid (Bool.eq_false_iff.2 hp)
    have HV : Hid (ncL a b cs = []) := Lib.hid (by unfold ncL; rw [HP.out]; rfl)
    skip
    clear hp
    go_enter Try.func43, Try.ntmps43
    go_wp2_with (go_at_call 64; refine (call_PB H0.out (pzGood_any _ _ _ _ _ cs _ HN.out (HA.out.below H0.out.2.2.2.1))).mono ?_; rw [HP.out]; rintro e w1 ⟨rfl, hS1⟩; have H1 := Lib.hid hS1; obtain ⟨p1, q1, s1, _, z1⟩ := hS1)
    go_ret2
    exact ⟨none, 0, by rw [HV.out, HP.out]; rfl, by rw [HV.out]; exact ⟨by decide, .inl rfl⟩, H1.out.2.2.2.1⟩

set_option maxRecDepth 100000 in
set_option maxHeartbeats 4000000 in
theorem needlessClues_any (a b : Int) (g n : Nat) (cs : List Clu) (w : World) (hn : n ≤ maxLen) (hA : ArgC w (some ⟨g, 0, none⟩) n cs) :
    Calls Try.prog 44 #[.agg #[.int .i64 a, .int .i64 b, .slice (some ⟨g, 0, none⟩) n n]] w (NumsOut w (ncL a b cs) (pzB a b cs)) := by
  have H0 : Hid (PB w a b (.slice (some ⟨g, 0, none⟩) n n) (w.alloc (.cells #[.int .i64 a, .int .i64 b, .slice (some ⟨g, 0, none⟩) n n] 39))) := Lib.hid (PB_new ..)
  have HN := Lib.hid hn
  have HA := Lib.hid hA
  have HL := Lib.hid hA.len
  clear hn hA
  by_cases hp : pzB a b cs = true
  · have HP := Lib.hid hp
    obtain ⟨hp1, hp2, hp3⟩ := pzB_yes hp
    have HP1 := Lib.hid hp1
    have HP3 := Lib.hid hp3
    have h6 : n ≤ 6 := by rw [← HL.out]; exact hp2
    have HV : Hid (ncL a b cs = ncN a b cs n) := Lib.hid (by unfold ncL; rw [hp, HL.out]; rfl)
    obtain ⟨i0, hi, hy0, hy1, hy2⟩ := info_parts info_int
    obtain ⟨m, hm⟩ : ∃ m, (solL a b cs).length = m := ⟨_, rfl⟩
    have HM := Lib.hid hm
    have HCM : Hid (csN a b cs = (m : Int)) := Lib.hid (by unfold csN; rw [slL_yes hp, hm])
    clear hp hp1 hp2 hp3 hm
    go_enter Try.func44, Try.ntmps44
    go_wp2_with (go_at_call 36; refine (call_PB H0.out (countSolutions_any _ _ _ _ _ cs _ HN.out (HA.out.below H0.out.2.2.2.1))).mono ?_; rw [HP.out, HCM.out]; rintro e w1 ⟨rfl, hS1⟩; have H1 := Lib.hid hS1; obtain ⟨p1, q1, s1, _, z1⟩ := hS1)
    go_loopw [6, 20] (fun v i wr => ∃ k : Nat, k ≤ n ∧ i = .int .i64 k ∧ wr.ownsRow w1.heap.size 3 1 v (ncN a b cs k).length (iv (ncN a b cs k)) ∧ PB w a b (.slice (some ⟨g, 0, none⟩) n n) wr ∧ w1.heap.size ≤ wr.heap.size) (fun _ i _ => n - (intOf i).toNat)
    case atStart => exact ⟨0, by omega, rfl, World.ownsRow_nil _ _ _ _, H1.out, Nat.le_refl _⟩
    case round =>
      clear p1 q1 s1
      obtain ⟨k, hk, rfl, hown, hS, hle⟩ := hrel
      have HOW := Lib.hid hown
      have HS := Lib.hid hS
      obtain ⟨p2, q2, s2, _, z2⟩ := hS
      clear hown
      by_cases hlt : k < n
      · have hki : (k : Int) < (n : Int) := by omega
        have HWL := Lib.hid (woC_length HL.out hlt)
        have HALL := Lib.hid (wo_all HP3.out k)
        have hlen := ncN_length a b cs k
        obtain ⟨f, hf⟩ : ∃ f, (solL a b (woC cs k)).length = f := ⟨_, rfl⟩
        have HF := Lib.hid hf
        have HPW := Lib.hid (pz_wo HP.out (show k < cs.length by rw [HL.out]; exact hlt))
        have HCK : Hid (csN a b (woC cs k) = (f : Int)) := Lib.hid (by unfold csN; rw [slL_yes HPW.out, hf])
        clear hf
        by_cases hfm : f = m
        · have HT : Hid (ncN a b cs (k + 1) = ncN a b cs k ++ [(k : Int)]) := Lib.hid (by rw [ncN, if_pos (by unfold ncT; rw [HF.out, HM.out, hfm])])
          have hfe : ((f : Int) == (m : Int)) = true := by rw [hfm]; exact beq_self_eq_true _
          clear hfm
          go_wp2_with (first
            | (go_at_call 80; refine (without_any _ _ _ _ _ cs _ h6 hlt (HA.out.below HS.out.2.2.2.1)).mono ?_; rintro e w2 ⟨A2, c2, rfl, hK2, hb2⟩
               have K2 := Lib.hid (hK2.argN HWL.out)
               have HB2 := Lib.hid hb2
               clear hK2 hb2)
            | (go_at_call 36; refine (countSolutions_any _ _ _ _ _ (woC cs k) _ (by unfold maxLen; omega) K2.out).mono ?_; rw [HPW.out, HCK.out]; rintro e w3 ⟨rfl, hb3⟩
               have HB3 := Lib.hid (bel_call HB2.out hb3)
               have HS3 := Lib.hid (HS.out.below HB3.out)
               have HO3 := Lib.hid (own_keeps HOW.out HB3.out)
               have s3 : w1.heap.size ≤ w3.heap.size := Nat.le_trans hle HB3.out.size
               clear hb3)
            | (at_builtin; refine wpList_append_own _ rfl _ _ 57 rfl w1.heap.size 3 i0 (.int .i64 0) 1 8 Try.underlying57 hi hy0 hy1 hy2 rfl (by decide) _ _ _ rfl (HO3.out.alloc _) ⟨w3.heap.size, 0, none⟩ 1 1 [.int .i64 (k : Int)] rfl rfl (new_one rfl) (by simp [Value.oneCell']) (by unfold maxLen; omega) (by omega) (by simp; omega) ?_; intro v9 w9 hown9 hgrow9 hiff9; clear hiff9))
          skip
          have HO5 : Hid (w9.ownsRow w1.heap.size 3 1 v9 (ncN a b cs (k + 1)).length (iv (ncN a b cs (k + 1)))) := Lib.hid (by rw [HT.out, List.length_append, iv, List.map_append]; exact hown9)
          have HB5 : Hid (Below w1.heap.size w3 w9) := Lib.hid (((Below.refl w1.heap.size w3).alloc s3 _).grown hgrow9 (by simp; omega) (fun j hj => (HO3.out.lt j hj).1))
          clear hown9 hgrow9
          have HS5 := Lib.hid (HS3.out.belowB HB5.out z1)
          have s5 : w1.heap.size ≤ w9.heap.size := by have := HB5.out.size; omega
          go_roundw
          case rel => exact ⟨k + 1, by omega, by go_num, HO5.out, HS5.out, s5⟩
          case measure => simp [intOf]; omega
        · have HT : Hid (ncN a b cs (k + 1) = ncN a b cs k) := Lib.hid (by rw [ncN, if_neg (by unfold ncT; rw [HF.out, HM.out]; exact hfm)])
          have hfe : ((f : Int) == (m : Int)) = false := by rw [beq_eq_false_iff_ne]; omega
          clear hfm
          go_wp2_with (first
            | (go_at_call 80; refine (without_any _ _ _ _ _ cs _ h6 hlt (HA.out.below HS.out.2.2.2.1)).mono ?_; rintro e w2 ⟨A2, c2, rfl, hK2, hb2⟩
               have K2 := Lib.hid (hK2.argN HWL.out)
               have HB2 := Lib.hid hb2
               clear hK2 hb2)
            | (go_at_call 36; refine (countSolutions_any _ _ _ _ _ (woC cs k) _ (by unfold maxLen; omega) K2.out).mono ?_; rw [HPW.out, HCK.out]; rintro e w3 ⟨rfl, hb3⟩
               have HB3 := Lib.hid (bel_call HB2.out hb3)
               have HS3 := Lib.hid (HS.out.below HB3.out)
               have HO3 := Lib.hid (own_keeps HOW.out HB3.out)
               have s3 : w1.heap.size ≤ w3.heap.size := Nat.le_trans hle HB3.out.size
               clear hb3))
          skip
          go_roundw
          case rel => exact ⟨k + 1, by omega, by go_num, by rw [HT.out]; exact HO3.out, HS3.out, s3⟩
          case measure => simp [intOf]; omega
      · obtain rfl : k = n := by omega
        have hki : ¬ ((k : Int) < (k : Int)) := by omega
        have hlen := ncN_length a b cs k
        obtain ⟨A9, c9, rfl, hO9⟩ := own_li HOW.out rfl (by omega)
        have HOO := Lib.hid hO9
        clear hO9
        go_wp2_with fail
        go_ret2
        refine ⟨A9, c9, by rw [HV.out, HP.out]; rfl, ?_, HS.out.2.2.2.1⟩
        rw [HV.out]
        exact HOO.out.wide (Nat.le_of_lt z1) (Nat.le_refl _)
  · have HP := Lib.hid (Bool.eq_false_iff.2 hp)
    have HV : Hid (ncL a b cs = []) := Lib.hid (by unfold ncL; rw [HP.out]; rfl)
    skip
    clear hp
    go_enter Try.func44, Try.ntmps44
    go_wp2_with (go_at_call 36; refine (call_PB H0.out (countSolutions_any _ _ _ _ _ cs _ HN.out (HA.out.below H0.out.2.2.2.1))).mono ?_; rw [HP.out]; rintro e w1 ⟨rfl, hS1⟩; have H1 := Lib.hid hS1; obtain ⟨p1, q1, s1, _, z1⟩ := hS1)
    go_ret2
    exact ⟨none, 0, by rw [HV.out, HP.out]; rfl, by rw [HV.out]; exact ⟨by decide, .inl rfl⟩, H1.out.2.2.2.1⟩

end Go.Proofs.Ytkfddobdffgmiaa
