/- Turns taken back, as the model lists them. No conditions. -/
import Derived.Test.YthnekpdakjcadaaBack2
import Derived.Deep.RegionLaw
namespace Go.Proofs.Ythnekpdakjcadaa
open Go.ChangeShapes Go.WideShapes Go.ChangeAt Go.RowKit Go.Joins

/-- append onto a row of the call's own, as one step of a region that draws. -/
theorem step_append_row {P : Program} {ops : Array Oper} {o : Oper} {a : Act} {w : World} {K : Act → World → Prop} {Q : Exit → Act → World → Prop} {E : Prop}
    (hg : o.guard = none) (s x : Operand) (t : TypeId) (hop : o.op = Op.call { callee := Callee.builtin Builtin.append, args := #[s, x], argTypes := #[t, t] })
    (base : Nat) (e : TypeId) (i : TypeInfo) (z : Value) (size bytes : Nat) (h1 : P.underlying t = some (.slice e)) (h2 : P.info? e = some i) (h3 : i.zero = some z) (h4 : i.size = size) (h5 : i.bytes = bytes) (h6 : z.cells.size = size) (h7 : 0 < size)
    (v : Value) (n : Nat) (xs : List Value) (hs : a.eval s = v) (hown : w.ownsRow base e size v n xs)
    (ad : Addr) (m c : Nat) (news : List Value) (hx : a.eval x = .slice (some ad) m c) (hn : news.length = m * size) (hc : ∀ j u, news[j]? = some u → w.cell? (ad.add j) = some u) (h1c : ∀ u ∈ news, u.oneCell' = true)
    (b1 : n + m ≤ maxLen) (b2 : (n + m) * bytes ≤ 140737488355328) (hbase : base ≤ w.heap.size)
    (hK : ∀ v' w', w'.ownsRow base e size v' (n + m) (xs ++ news) → w.grownBy w' v.ownBlock → K (a.put o.dst v') w') :
    if Region.wanted o (yielded ops a.tmps) = true then Oper.wp P o a w K Q else E := by
  have hw : Region.wanted o (yielded ops a.tmps) = true := by simp [Region.wanted, hg]
  rw [if_pos hw]
  obtain ⟨v', w', hrun, r1, r2, _⟩ := run_append_own (P := P) w base t o.type e i z size bytes h1 h2 h3 h4 h5 h6 h7 v n xs hown ad m c news hn hc h1c b1 b2 hbase
  unfold Oper.wp
  simp [execOp, hop, resolve, invoke, builtin, hs, hx, hrun, Result.andThen]
  exact hK v' w' r1 r2
theorem back_snoc {ts : List (Int × Int)} {k m : Nat} (hm : m + k + 1 = ts.length) : (backT ts).take (k + 1) = (backT ts).take k ++ [((ts.getD m (0, 0)).1, -(ts.getD m (0, 0)).2)] := by
  rw [List.take_succ_eq_append_getElem (by rw [backT_length]; omega)]
  congr 2
  simp only [backT, List.getElem_map, List.getElem_reverse]
  have e : ts.length - 1 - k = m := by omega
  simp only [e]
  simp [List.getD, List.getElem?_eq_getElem (show m < ts.length by omega)]
theorem back_zero {ts : List (Int × Int)} {k : Nat} (h : ts.length = k) : (backT ts).take k = backT ts := List.take_of_length_le (by rw [backT_length]; omega)

set_option maxHeartbeats 2000000 in
set_option maxRecDepth 100000 in
theorem specBack_any (a b : Int) (ts : List (Int × Int)) (n g c : Nat) (w : World) (hl : ts.length = n) (hm : n ≤ 1048576) (hC : Cells w g (n * 2) (turnF ts)) :
    Calls Try.prog 32 #[.agg #[.int .i64 a, .int .i64 b], .slice (some ⟨g, 0, none⟩) n c] w (TurnsOut w (backZ a b ts) (okBk a b ts)) := by
  have HL := Lib.hid hl
  have HC := Lib.hid hC
  have zg : g < w.heap.size := hC.lt
  obtain ⟨i0, hi, hy0, hy1, hy2⟩ := info_parts info_turn
  by_cases hg : goodB a b = true
  · have HG := Lib.hid hg
    have hgy := good_yes hg
    have ha6 : 0 ≤ a ∧ a ≤ 6 := by omega
    obtain ⟨a0, a6⟩ := ha6
    clear hgy
    by_cases ht : turnsB a ts = true
    · have HT := Lib.hid ht
      have HOK : Hid (okBk a b ts = true) := Lib.hid (by unfold okBk; rw [hg, ht]; rfl)
      have HP := Lib.hid (pm_of ht).2
      have n200 : n ≤ 200 := by rw [← hl]; exact (pm_of ht).1
      clear hl hC hg ht
      go_enter Try.func32, Try.ntmps32
      go_wp2_with (first
        | (go_at_call 49; refine (whGood_any _ _ _).mono ?_; rw [HG.out]; rintro e w1 ⟨rfl, hb1⟩
           have l0 : w1.cell? ⟨w.heap.size, 0, none⟩ = some (.int .i64 a) := (hb1.cell (p := ⟨w.heap.size, 0, none⟩) (by simp)).trans (by simp)
           have l1 : w1.cell? ⟨w.heap.size, 1, none⟩ = some (.int .i64 b) := (hb1.cell (p := ⟨w.heap.size, 1, none⟩) (by simp)).trans (by simp))
        | (go_at_call 58; refine (whTurns_any _ _ ts _ _ _ _ HL.out hm a0 a6 ((HC.out.alloc _).call hb1)).mono ?_; rw [HT.out]; rintro e w2 ⟨rfl, hb2⟩))
      have hB2 : Below w.heap.size w w2 := bel_call (bel_call ((Below.refl _ _).alloc (Nat.le_refl _) _) hb1) hb2
      clear hb1 hb2 l0 l1
      go_loopw [6, 7] (fun v i wr => ∃ k : Nat, k ≤ n ∧ i = .int .i64 ((n : Int) - 1 - k) ∧ wr.ownsRow w.heap.size 38 2 v k (tv ((backT ts).take k)) ∧ Below w.heap.size w wr) (fun _ i _ => (intOf i + 1).toNat)
      case atStart => exact ⟨0, Nat.zero_le _, by simp, World.ownsRow_nil _ _ _ _, hB2⟩
      case round =>
        clear hB2
        obtain ⟨k, hk, rfl, hown, hB⟩ := hrel
        have HO := Lib.hid hown
        clear hown
        by_cases hlt : k < n
        · obtain ⟨m, hm1⟩ : ∃ m : Nat, (n : Int) - 1 - (k : Int) = m := ⟨n - 1 - k, by omega⟩
          have hml : m < n := by omega
          have HSN := Lib.hid (back_snoc (ts := ts) (k := k) (m := m) (by rw [HL.out]; omega))
          have hy : -1 ≤ (ts.getD m (0, 0)).2 ∧ (ts.getD m (0, 0)).2 ≤ 1 := by have h := HP.out m (by rw [HL.out]; exact hml); omega
          have hCr := HC.out.below hB zg
          have p0 : wr.cell? ⟨g, m * 2, none⟩ = some (.int .i64 (ts.getD m (0, 0)).1) := by rw [← turnF_0]; exact hCr.cell (by omega)
          have p1 : wr.cell? ⟨g, m * 2 + 1, none⟩ = some (.int .i64 (ts.getD m (0, 0)).2) := by rw [← turnF_1]; exact hCr.cell (by omega)
          generalize (ts.getD m (0, 0)).1 = x at p0 HSN
          generalize (ts.getD m (0, 0)).2 = y at p1 HSN hy
          obtain ⟨hy3, hy4⟩ := hy
          have HM := Lib.hid hm1
          rw [hm1]
          clear hCr hm1
          go_wp2_with fail
          have HO1 := Lib.hid (own_below (HO.out.alloc (.cells #[.int .i64 x, .int .i64 (-y)] 38)) (bel_drew (Below.refl _ _)))
          have HB1 := Lib.hid (bel_drew (hB.alloc hB.size (.cells #[.int .i64 x, .int .i64 (-y)] 38)))
          have HNW : Hid (∀ j u, ([.int .i64 x, .int .i64 (-y)] : List Value)[j]? = some u → (wr.alloc (.cells #[.int .i64 x, .int .i64 (-y)] 38)).drew.cell? ((⟨wr.heap.size, 0, none⟩ : Addr).add j) = some u) := Lib.hid (fun j u h => news_at (W := wr) (cs := #[.int .i64 x, .int .i64 (-y)]) (t := 38) rfl j u h)
          have hw1 : IntKind.i64.wrap (-y) = -y := IntWalk.i64_in _ (by omega)
          go_region_law (first
            | (refine step_append_row rfl (.tmp 24) (.tmp 37) 44 rfl w.heap.size 38 i0 (.agg #[.int .i64 0, .int .i64 0]) 2 16 Try.underlying44 hi hy0 hy1 hy2 rfl (by decide) u6 k (tv ((backT ts).take k)) rfl HO1.out ⟨wr.heap.size, 0, none⟩ 1 1 [.int .i64 x, .int .i64 (-y)] rfl rfl HNW.out (by simp [Value.oneCell']) (by unfold maxLen; omega) (by omega) HB1.out.size ?_; intro v' w4 hown' hgrow
               have HB4 := Lib.hid (HB1.out.grown hgrow HB1.out.size (fun j hj => (HO1.out.lt j hj).1))
               have HO4 : Hid (w4.ownsRow w.heap.size 38 2 v' (k + 1) (tv ((backT ts).take (k + 1)))) := Lib.hid (by rw [HSN.out, tv_app]; exact hown')
               clear hgrow hown'))
          all_goals
            clear hw1
            go_wp2_with fail
            go_roundw
            case rel => exact ⟨k + 1, by omega, congrArg (Value.int .i64) (by have := HM.out; omega), HO4.out, HB4.out⟩
            case measure => simp [intOf] <;> omega
        · obtain rfl : k = n := by omega
          rw [show (k : Int) - 1 - (k : Int) = -1 by omega]
          go_wp2_with fail
          go_ret2
          rw [backZ_yes HOK.out, HOK.out]
          have ho := HO.out
          rw [back_zero HL.out] at ho
          exact turns_some (by rw [backT_length, HL.out]; omega) (Nat.le_refl _) (by rw [backT_length, HL.out]; exact ho) hB
    · have HT := Lib.hid (Bool.eq_false_iff.2 ht)
      have HNO : Hid (okBk a b ts = false) := Lib.hid (by unfold okBk; rw [hg, HT.out]; rfl)
      clear hl hC hg ht
      go_enter Try.func32, Try.ntmps32
      go_wp2_with (first
        | (go_at_call 49; refine (whGood_any _ _ _).mono ?_; rw [HG.out]; rintro e w1 ⟨rfl, hb1⟩
           have l0 : w1.cell? ⟨w.heap.size, 0, none⟩ = some (.int .i64 a) := (hb1.cell (p := ⟨w.heap.size, 0, none⟩) (by simp)).trans (by simp)
           have l1 : w1.cell? ⟨w.heap.size, 1, none⟩ = some (.int .i64 b) := (hb1.cell (p := ⟨w.heap.size, 1, none⟩) (by simp)).trans (by simp))
        | (go_at_call 58; refine (whTurns_any _ _ ts _ _ _ _ HL.out hm a0 a6 ((HC.out.alloc _).call hb1)).mono ?_; rw [HT.out]; rintro e w2 ⟨rfl, hb2⟩))
      go_ret2
      rw [backZ_no HNO.out, HNO.out]
      exact turns_none (bel_call (bel_call ((Below.refl _ _).alloc (Nat.le_refl _) _) hb1) hb2)
  · have HG := Lib.hid (Bool.eq_false_iff.2 hg)
    have HNO : Hid (okBk a b ts = false) := Lib.hid (by unfold okBk; rw [HG.out]; rfl)
    clear hl hC hg
    go_enter Try.func32, Try.ntmps32
    go_wp2_with (go_at_call 49; refine (whGood_any _ _ _).mono ?_; rw [HG.out]; rintro e w1 ⟨rfl, hb1⟩)
    go_ret2
    rw [backZ_no HNO.out, HNO.out]
    exact turns_none (bel_call ((Below.refl _ _).alloc (Nat.le_refl _) _) hb1)

end Go.Proofs.Ythnekpdakjcadaa
