/- How many codes fit the first clues, as both programs list it. For puzzles in blocks of the law's own. -/
import Derived.Test.YtkfddobdffgmiaaUn
import Derived.Test.YtkfddobdffgmiaaUm
import Derived.Deep.RegionLaw
namespace Go.Proofs.Ytkfddobdffgmiaa
open Go.ChangeShapes Go.WideShapes Go.ChangeAt Go.RowKit Go.Joins

theorem argC_take {w : World} {A : Option Addr} {n k : Nat} {cs : List Clu} (h : ArgC w A n cs) (hk : k ≤ n) : ArgC w A k (cs.take k) := by
  refine ⟨by rw [List.length_take, h.len]; omega, ?_⟩
  rcases h.at_ with h0 | ⟨b, off, e, hb, hc⟩
  · exact .inl (by omega)
  · refine .inr ⟨b, off, e, hb, fun j hj => ?_⟩
    have e2 : (cs.take k).getD j cu0 = cs.getD j cu0 := by simp only [List.getD, List.getElem?_take, if_pos hj]
    rw [e2]
    exact hc j (by omega)

theorem take_all {a b : Int} {cs : List Clu} (h : cs.all (cluB a b) = true) (k : Nat) : (cs.take k).all (cluB a b) = true := by
  rw [List.all_eq_true] at h ⊢
  exact fun c hc => h c (List.mem_of_mem_take hc)

theorem cut_first (b off n c m : Nat) (w : World) (hc : n ≤ c) (hcm : c ≤ 9223372036854775807) (hk : m ≤ n) :
    Calls Try.prog 83 #[.slice (some ⟨b, off, none⟩) n c, .int .i64 0, .int .i64 (m : Int)] w fun e w' => e = .returned (.slice (some ⟨b, off, none⟩) m m) ∧ w' = w := by
  by_cases h0 : m = 0
  · subst h0
    go_enter Try.func83, Try.ntmps83
    go_wp2_with fail
    go_ret
    exact ⟨rfl, rfl⟩
  · go_enter Try.func83, Try.ntmps83
    go_wp2_with fail
    go_ret
    exact ⟨rfl, rfl⟩

set_option maxRecDepth 100000 in
theorem slice_first (bk off n c k : Nat) (h : k ≤ c) (W : World) : (Instr.slice 37 (.slice (some ⟨bk, off, none⟩) n c) none (some (.int .i64 (k : Int))) none).run Try.prog W = .ok (.slice (some ⟨bk, off, none⟩) k c) W := by
  rw [run_slice_h (P := Try.prog) W 37 (some ⟨bk, off, none⟩) n c Try.underlying37 .i64 (k : Int) (by omega) (by omega)]
  simp [go_sem, sliced]

theorem new_one {W : World} {B : Nat} {x : Value} {t : TypeId} (hB : B = W.heap.size) : ∀ j u, ([x] : List Value)[j]? = some u → (W.alloc (.cells #[x] t)).cell? ((⟨B, 0, none⟩ : Addr).add j) = some u := by
  subst hB
  intro j u hu
  rcases j with _ | j
  · simp at hu
    subst hu
    simp [Addr.add]
  · simp at hu

theorem step_app {P : Program} {ops : Array Oper} {o : Oper} {a : Act} {w : World} {K : Act → World → Prop} {Q : Exit → Act → World → Prop} {E : Prop}
    (hg : o.guard = none) (s x : Operand) (t : TypeId) (hop : o.op = Op.call { callee := Callee.builtin Builtin.append, args := #[s, x], argTypes := #[t, t] })
    (base : Nat) (e : TypeId) (i : TypeInfo) (z : Value) (size bytes : Nat) (h1 : P.underlying t = some (.slice e)) (h2 : P.info? e = some i) (h3 : i.zero = some z) (h4 : i.size = size) (h5 : i.bytes = bytes) (h6 : z.cells.size = size) (h7 : 0 < size)
    (v : Value) (n : Nat) (xs : List Value) (hs : a.eval s = v) (hown : w.ownsRow base e size v n xs)
    (ad : Addr) (m c : Nat) (news : List Value) (hx : a.eval x = .slice (some ad) m c) (hn : news.length = m * size) (hc : ∀ j u, news[j]? = some u → w.cell? (ad.add j) = some u) (h1c : ∀ u ∈ news, u.oneCell' = true)
    (b1 : n + m ≤ maxLen) (b2 : (n + m) * bytes ≤ 140737488355328) (hbase : base ≤ w.heap.size)
    (hK : ∀ v' w', w'.ownsRow base e size v' (n + m) (xs ++ news) → w.grownBy w' v.ownBlock → K (a.put o.dst v') w') :
    if Region.wanted o (yielded ops a.tmps) = true then Oper.wp P o a w K Q else E := by
  have hw : Region.wanted o (yielded ops a.tmps) = true := by simp [Region.wanted, hg]
  rw [if_pos hw]
  obtain ⟨v', w', hrun, r1, r2, _⟩ := run_append_own (P := P) w base t o.type e i z size bytes h1 h2 h3 h4 h5 h6 h7 v n xs hown ad m c news hn hc h1c b1 b2 hbase
  unfold Oper.wp
  simp [execOp, hop, resolve, invoke, builtin, hs, hx, hrun, Result.andThen]
  exact hK v' w' r1 r2

/-- How many codes fit the first k clues. -/
def lbF (a b : Int) (cs : List Clu) (k : Nat) : Int := (solL a b (cs.take k)).length

def lbN (a b : Int) (cs : List Clu) (k : Nat) : List Int := (List.range k).map (lbF a b cs)

def lbL (a b : Int) (cs : List Clu) : List Int := if pzB a b cs then lbN a b cs (cs.length + 1) else []

theorem lbN_succ (a b : Int) (cs : List Clu) (k : Nat) : lbN a b cs (k + 1) = lbN a b cs k ++ [lbF a b cs k] := by unfold lbN; rw [List.range_succ, List.map_append]; rfl

theorem lbN_length (a b : Int) (cs : List Clu) (k : Nat) : (lbN a b cs k).length = k := by unfold lbN; rw [List.length_map, List.length_range]

theorem PB.belowB {w W W' : World} {a b : Int} {v : Value} {B : Nat} (h : PB w a b v W) (hb : Below B W W') (hB : w.heap.size < B) : PB w a b v W' := by
  obtain ⟨h0, h1, h2, h3, h4⟩ := h
  exact ⟨by rw [hb.cell (p := ⟨w.heap.size, 0, none⟩) hB, h0], by rw [hb.cell (p := ⟨w.heap.size, 1, none⟩) hB, h1], by rw [hb.cell (p := ⟨w.heap.size, 2, none⟩) hB, h2], h3.trans (hb.mono (Nat.le_of_lt hB)), Nat.lt_of_lt_of_le h4 hb.size⟩

/-- A row of numbers of the call's own. -/
theorem own_li {w : World} {B : Nat} {t : TypeId} {v : Value} {xs : List Int} {n : Nat} (h : w.ownsRow B t 1 v n (iv xs)) (hx : xs.length = n) (hn : n ≤ 1000) : ∃ A c, v = .slice A n c ∧ LI w B w.heap.size A xs := by
  rcases Nat.eq_zero_or_pos n with h0 | h0
  · subst h0
    rcases h.2 with ⟨rfl, _⟩ | ⟨g, cap, cur, rfl, _⟩
    · exact ⟨none, 0, rfl, by omega, .inl hx⟩
    · exact ⟨_, cap, rfl, by omega, .inl hx⟩
  · obtain ⟨g, c, rfl, hg, hC⟩ := own_cells h h0
    exact ⟨_, c, rfl, by omega, .inr ⟨g, rfl, hg, hC.lt, by rw [hx]; exact hC⟩⟩

set_option maxRecDepth 100000 in
set_option maxHeartbeats 4000000 in
theorem specLeftByClues_any (a b : Int) (g n : Nat) (cs : List Clu) (w : World) (hn : n ≤ maxLen) (hA : ArgC w (some ⟨g, 0, none⟩) n cs) :
    Calls Try.prog 53 #[.agg #[.int .i64 a, .int .i64 b, .slice (some ⟨g, 0, none⟩) n n]] w (NumsOut w (lbL a b cs) (pzB a b cs)) := by
  have H0 : Hid (PB w a b (.slice (some ⟨g, 0, none⟩) n n) (w.alloc (.cells #[.int .i64 a, .int .i64 b, .slice (some ⟨g, 0, none⟩) n n] 39))) := Lib.hid (PB_new ..)
  have HN := Lib.hid hn
  have HA := Lib.hid hA
  have HL := Lib.hid hA.len
  clear hn hA
  by_cases hp : pzB a b cs = true
  · have HP := Lib.hid hp
    obtain ⟨hp1, hp2, hp3⟩ := pzB_yes hp
    have HP1 := Lib.hid hp1
    have HP3 := Lib.hid hp3
    have h6 : n ≤ 6 := by rw [← HL.out]; exact hp2
    have HV : Hid (lbL a b cs = lbN a b cs (n + 1)) := Lib.hid (by unfold lbL; rw [hp, HL.out]; rfl)
    obtain ⟨i0, hi, hy0, hy1, hy2⟩ := info_parts info_int
    clear hp hp1 hp2 hp3
    go_enter Try.func53, Try.ntmps53
    go_wp2_with (go_at_call 64; refine (call_PB H0.out (pzGood_any _ _ _ _ _ cs _ HN.out (HA.out.below H0.out.2.2.2.1))).mono ?_; rw [HP.out]; rintro e w1 ⟨rfl, hS1⟩; have H1 := Lib.hid hS1; obtain ⟨p1, q1, s1, _, z1⟩ := hS1)
    go_loopw [4, 5] (fun v i wr => ∃ k : Nat, k ≤ n + 1 ∧ i = .int .i64 k ∧ wr.ownsRow w1.heap.size 3 1 v k (iv (lbN a b cs k)) ∧ PB w a b (.slice (some ⟨g, 0, none⟩) n n) wr ∧ w1.heap.size ≤ wr.heap.size) (fun _ i _ => n + 1 - (intOf i).toNat)
    case atStart => exact ⟨0, by omega, rfl, World.ownsRow_nil _ _ _ _, H1.out, Nat.le_refl _⟩
    case round =>
      clear p1 q1 s1
      obtain ⟨k, hk, rfl, hown, hS, hle⟩ := hrel
      have HOW := Lib.hid hown
      have HS := Lib.hid hS
      obtain ⟨p2, q2, s2, _, z2⟩ := hS
      clear hown
      by_cases hlt : k ≤ n
      · have hki : (k : Int) ≤ (n : Int) := by omega
        have HSUB : Hid (∀ W, Below w.heap.size w W → ArgC W (some ⟨g, 0, none⟩) k (cs.take k)) := Lib.hid (fun W hW => argC_take (HA.out.below hW) hlt)
        have HALL := Lib.hid (take_all HP3.out k)
        obtain ⟨f, hf⟩ : ∃ f, (solL a b (cs.take k)).length = f := ⟨_, rfl⟩
        have HF := Lib.hid hf
        have hfl : lbF a b cs k = (f : Int) := by unfold lbF; rw [hf]
        have hsl := slice_first g 0 n n k hlt
        have HT : Hid (iv (lbN a b cs (k + 1)) = iv (lbN a b cs k) ++ [.int .i64 (lbF a b cs k)]) := Lib.hid (by rw [lbN_succ]; unfold iv; rw [List.map_append]; rfl)
        rw [hfl] at HT
        clear hf hfl
        go_wp2_with fail
        go_region_law (first
          | (go_simp; go_at_call 74; refine (pzAll_any _ _ _ _ _ (cs.take k) _ (by omega) (HSUB.out _ (bel_drew HS.out.bel)) HP1.out HALL.out).mono ?_; rintro e w3 ⟨A9, c9, rfl, _, hb3⟩
             have HS3 := Lib.hid (HS.out.below (below_undrew hb3))
             have HO3 := Lib.hid (own_keeps HOW.out (below_undrew hb3))
             have s3 : w1.heap.size ≤ w3.heap.size := Nat.le_trans hle (below_undrew hb3).size
             rw [HF.out]
             clear hb3)
          | (refine step_app rfl (.tmp 16) (.tmp 25) 57 rfl w1.heap.size 3 i0 (.int .i64 0) 1 8 Try.underlying57 hi hy0 hy1 hy2 rfl (by decide) u4 k (iv (lbN a b cs k)) rfl (HO3.out.alloc _) ⟨w3.heap.size, 0, none⟩ 1 1 [.int .i64 (f : Int)] rfl rfl (new_one rfl) (by simp [Value.oneCell']) (by unfold maxLen; omega) (by omega) (by simp; omega) ?_; intro v' w5 hown' hgrow
             have HO5 := Lib.hid hown'
             have HB5 : Hid (Below w1.heap.size w3 w5) := Lib.hid (((Below.refl w1.heap.size w3).alloc s3 _).grown hgrow (by simp; omega) (fun j hj => (HO3.out.lt j hj).1))
             clear hown' hgrow))
        all_goals
          clear hsl
          have HS5 := Lib.hid (HS3.out.belowB HB5.out z1)
          have s5 : w1.heap.size ≤ w5.heap.size := by have := HB5.out.size; omega
          go_wp2_with fail
          go_roundw
          case rel => exact ⟨k + 1, by omega, by go_num, by rw [HT.out]; exact HO5.out, HS5.out, s5⟩
          case measure => simp [intOf]; omega
      · obtain rfl : k = n + 1 := by omega
        have hki : ¬ ((n : Int) + 1 ≤ (n : Int)) := by omega
        obtain ⟨A9, c9, rfl, hO9⟩ := own_li HOW.out (lbN_length ..) (by omega)
        have HOO := Lib.hid hO9
        clear hO9
        go_wp2_with fail
        go_ret2
        refine ⟨A9, c9, by rw [HV.out, HP.out, lbN_length]; rfl, ?_, HS.out.bel⟩
        rw [HV.out]
        exact HOO.out.wide (Nat.le_of_lt z1) (Nat.le_refl _)
  · have HP := Lib.hid (Bool.eq_false_iff.2 hp)
    have HV : Hid (lbL a b cs = []) := Lib.hid (by unfold lbL; rw [HP.out]; rfl)
    clear hp
    go_enter Try.func53, Try.ntmps53
    go_wp2_with (go_at_call 64; refine (call_PB H0.out (pzGood_any _ _ _ _ _ cs _ HN.out (HA.out.below H0.out.2.2.2.1))).mono ?_; rw [HP.out]; rintro e w1 ⟨rfl, hS1⟩; have H1 := Lib.hid hS1; obtain ⟨p1, q1, s1, _, z1⟩ := hS1)
    go_ret2
    exact ⟨none, 0, by rw [HV.out, HP.out]; rfl, by rw [HV.out]; exact ⟨by decide, .inl rfl⟩, H1.out.2.2.2.1⟩

set_option maxRecDepth 100000 in
set_option maxHeartbeats 4000000 in
theorem leftByClues_any (a b : Int) (g n : Nat) (cs : List Clu) (w : World) (hn : n ≤ maxLen) (hA : ArgC w (some ⟨g, 0, none⟩) n cs) :
    Calls Try.prog 54 #[.agg #[.int .i64 a, .int .i64 b, .slice (some ⟨g, 0, none⟩) n n]] w (NumsOut w (lbL a b cs) (pzB a b cs)) := by
  have H0 : Hid (PB w a b (.slice (some ⟨g, 0, none⟩) n n) (w.alloc (.cells #[.int .i64 a, .int .i64 b, .slice (some ⟨g, 0, none⟩) n n] 39))) := Lib.hid (PB_new ..)
  have HN := Lib.hid hn
  have HA := Lib.hid hA
  have HL := Lib.hid hA.len
  clear hn hA
  by_cases hp : pzB a b cs = true
  · have HP := Lib.hid hp
    obtain ⟨hp1, hp2, hp3⟩ := pzB_yes hp
    have HP1 := Lib.hid hp1
    have HP3 := Lib.hid hp3
    have h6 : n ≤ 6 := by rw [← HL.out]; exact hp2
    have HV : Hid (lbL a b cs = lbN a b cs (n + 1)) := Lib.hid (by unfold lbL; rw [hp, HL.out]; rfl)
    obtain ⟨i0, hi, hy0, hy1, hy2⟩ := info_parts info_int
    clear hp hp1 hp2 hp3
    go_enter Try.func54, Try.ntmps54
    go_wp2_with (go_at_call 25; refine (call_PB H0.out (isPuzzle_any _ _ _ _ _ cs _ HN.out (HA.out.below H0.out.2.2.2.1))).mono ?_; rw [HP.out]; rintro e w1 ⟨rfl, hS1⟩; have H1 := Lib.hid hS1; obtain ⟨p1, q1, s1, _, z1⟩ := hS1)
    go_loopw [4, 13] (fun v i wr => ∃ k : Nat, k ≤ n + 1 ∧ i = .int .i64 k ∧ wr.ownsRow w1.heap.size 3 1 v k (iv (lbN a b cs k)) ∧ PB w a b (.slice (some ⟨g, 0, none⟩) n n) wr ∧ w1.heap.size ≤ wr.heap.size) (fun _ i _ => n + 1 - (intOf i).toNat)
    case atStart => exact ⟨0, by omega, rfl, World.ownsRow_nil _ _ _ _, H1.out, Nat.le_refl _⟩
    case round =>
      clear p1 q1 s1
      obtain ⟨k, hk, rfl, hown, hS, hle⟩ := hrel
      have HOW := Lib.hid hown
      have HS := Lib.hid hS
      obtain ⟨p2, q2, s2, _, z2⟩ := hS
      clear hown
      by_cases hlt : k ≤ n
      · have hki : (k : Int) < (n : Int) + 1 := by omega
        have HSUB : Hid (∀ W, Below w.heap.size w W → ArgC W (some ⟨g, 0, none⟩) k (cs.take k)) := Lib.hid (fun W hW => argC_take (HA.out.below hW) hlt)
        have HALL := Lib.hid (take_all HP3.out k)
        obtain ⟨f, hf⟩ : ∃ f, (solL a b (cs.take k)).length = f := ⟨_, rfl⟩
        have HF := Lib.hid hf
        have hfl : lbF a b cs k = (f : Int) := by unfold lbF; rw [hf]
        have HT : Hid (iv (lbN a b cs (k + 1)) = iv (lbN a b cs k) ++ [.int .i64 (lbF a b cs k)]) := Lib.hid (by rw [lbN_succ]; unfold iv; rw [List.map_append]; rfl)
        rw [hfl] at HT
        clear hf hfl
        go_wp2_with fail
        go_region_law (first
          | (go_simp; go_at_call 83; refine (cut_first _ _ _ _ _ _ (Nat.le_refl _) (by omega) hlt).mono ?_; rintro e wq ⟨rfl, hwq⟩; subst hwq)
          | (go_simp; go_at_call 75; refine (codesWith_any _ _ _ _ _ (cs.take k) _ (by omega) (HSUB.out _ (bel_drew HS.out.bel)) HP1.out HALL.out).mono ?_; rintro e w3 ⟨A9, c9, rfl, _, hb3⟩
             have HS3 := Lib.hid (HS.out.below (below_undrew hb3))
             have HO3 := Lib.hid (own_keeps HOW.out (below_undrew hb3))
             have s3 : w1.heap.size ≤ w3.heap.size := Nat.le_trans hle (below_undrew hb3).size
             rw [HF.out]
             clear hb3)
          | (refine step_app rfl (.tmp 16) (.tmp 25) 57 rfl w1.heap.size 3 i0 (.int .i64 0) 1 8 Try.underlying57 hi hy0 hy1 hy2 rfl (by decide) u4 k (iv (lbN a b cs k)) rfl (HO3.out.alloc _) ⟨w3.heap.size, 0, none⟩ 1 1 [.int .i64 (f : Int)] rfl rfl (new_one rfl) (by simp [Value.oneCell']) (by unfold maxLen; omega) (by omega) (by simp; omega) ?_; intro v' w5 hown' hgrow
             have HO5 := Lib.hid hown'
             have HB5 : Hid (Below w1.heap.size w3 w5) := Lib.hid (((Below.refl w1.heap.size w3).alloc s3 _).grown hgrow (by simp; omega) (fun j hj => (HO3.out.lt j hj).1))
             clear hown' hgrow))
        all_goals
          have HS5 := Lib.hid (HS3.out.belowB HB5.out z1)
          have s5 : w1.heap.size ≤ w5.heap.size := by have := HB5.out.size; omega
          go_wp2_with fail
          go_roundw
          case rel => exact ⟨k + 1, by omega, by go_num, by rw [HT.out]; exact HO5.out, HS5.out, s5⟩
          case measure => simp [intOf]; omega
      · obtain rfl : k = n + 1 := by omega
        obtain ⟨A9, c9, rfl, hO9⟩ := own_li HOW.out (lbN_length ..) (by omega)
        have HOO := Lib.hid hO9
        clear hO9
        go_wp2_with fail
        go_ret2
        refine ⟨A9, c9, by rw [HV.out, HP.out, lbN_length]; rfl, ?_, HS.out.bel⟩
        rw [HV.out]
        exact HOO.out.wide (Nat.le_of_lt z1) (Nat.le_refl _)
  · have HP := Lib.hid (Bool.eq_false_iff.2 hp)
    have HV : Hid (lbL a b cs = []) := Lib.hid (by unfold lbL; rw [HP.out]; rfl)
    clear hp
    go_enter Try.func54, Try.ntmps54
    go_wp2_with (go_at_call 25; refine (call_PB H0.out (isPuzzle_any _ _ _ _ _ cs _ HN.out (HA.out.below H0.out.2.2.2.1))).mono ?_; rw [HP.out]; rintro e w1 ⟨rfl, hS1⟩; have H1 := Lib.hid hS1; obtain ⟨p1, q1, s1, _, z1⟩ := hS1)
    go_ret2
    exact ⟨none, 0, by rw [HV.out, HP.out]; rfl, by rw [HV.out]; exact ⟨by decide, .inl rfl⟩, H1.out.2.2.2.1⟩

end Go.Proofs.Ytkfddobdffgmiaa
