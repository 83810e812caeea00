/- Turns taken back, as the program lists them. No conditions. -/
import Derived.Test.YthnekpdakjcadaaBack
import Derived.Test.YthnekpdakjcadaaFirst
import Derived.Test.YthnekpdakjcadaaParse2
namespace Go.Proofs.Ythnekpdakjcadaa
open Go.ChangeShapes Go.WideShapes Go.ChangeAt Go.RowKit Go.Joins Go.Shelf

attribute [local go_sem] Oper.semAt_some

/-- The turns that take turns back. -/
def backT (ts : List (Int × Int)) : List (Int × Int) := ts.reverse.map fun t => (t.1, -t.2)
def outX (xs : List TurnX) : List (Int × Int) := xs.map fun x => (x.1.2.1, -x.1.2.2)
theorem backT_length (ts : List (Int × Int)) : (backT ts).length = ts.length := by simp [backT]
theorem outX_snoc (xs : List TurnX) (x : TurnX) : outX (xs ++ [x]) = outX xs ++ [(x.1.2.1, -x.1.2.2)] := by simp [outX]
theorem outX_length (xs : List TurnX) : (outX xs).length = xs.length := by simp [outX]
theorem outX_all {ts : List (Int × Int)} (h : PmT ts) : outX (uptoX (backF ts) ts.length) = backT ts := by
  apply List.ext_getElem
  · rw [outX_length, uptoX_length, backT_length]
  · intro i h1 h2
    rw [backT_length] at h2
    simp only [outX, uptoX, backT, List.getElem_map, List.getElem_range, List.getElem_reverse]
    rw [backF_val h h2]
    simp [List.getD, List.getElem?_eq_getElem (show ts.length - 1 - i < ts.length by omega)]
def okBk (a b : Int) (ts : List (Int × Int)) : Bool := goodB a b && turnsB a ts
def backZ (a b : Int) (ts : List (Int × Int)) : List (Int × Int) := if okBk a b ts then backT ts else []
theorem backZ_yes {a b : Int} {ts : List (Int × Int)} (h : okBk a b ts = true) : backZ a b ts = backT ts := by unfold backZ; rw [h]; rfl
theorem backZ_no {a b : Int} {ts : List (Int × Int)} (h : okBk a b ts = false) : backZ a b ts = [] := by unfold backZ; rw [h]; rfl
theorem okBk_yes {a b : Int} {ts : List (Int × Int)} (h : okBk a b ts = true) : goodB a b = true ∧ turnsB a ts = true := by
  unfold okBk at h; exact Bool.and_eq_true_iff.1 h
theorem pm_of {a : Int} {ts : List (Int × Int)} (h : turnsB a ts = true) : ts.length ≤ 200 ∧ PmT ts := by
  unfold turnsB at h
  rw [Bool.and_eq_true, decide_eq_true_eq, List.all_eq_true] at h
  refine ⟨h.1, fun j hj => ?_⟩
  have := h.2 ts[j] (List.getElem_mem _)
  have e : ts.getD j (0, 0) = ts[j] := by simp [List.getD, List.getElem?_eq_getElem hj]
  rw [e]
  unfold turnB at this
  simp at this
  exact this.2
theorem cells_own (B : Nat) (t : TypeId) (cs : Array Value) : Own (fun (_ : Unit) W => W.heap[B]? = some (.cells cs t (0, 0))) := by
  rintro s X Y row hs hg hr
  refine (hg.block B (Array.getElem?_eq_some_iff.1 hs).1 (fun e => ?_)).trans hs
  obtain ⟨o, ho, hc⟩ := hr B e.symm
  rw [hs] at ho; cases ho; cases hc
theorem cells_at {W : World} {B : Nat} {t : TypeId} {x y : Value} (h : W.heap[B]? = some (.cells #[x, y] t (0, 0))) : W.cell? ⟨B, 0, none⟩ = some x ∧ W.cell? ⟨B, 1, none⟩ = some y := by
  constructor <;> simp [World.cell?, h]

set_option maxHeartbeats 4000000 in
set_option maxRecDepth 100000 in
theorem backYes_any (a b : Int) (ts : List (Int × Int)) (n g c : Nat) (w : World) (hl : ts.length = n) (hm : n ≤ 1048576) (hC : Cells w g (n * 2) (turnF ts)) (hok : okBk a b ts = true) :
    CallsIn Fence.wide 6 Try.prog 33 #[.agg #[.int .i64 a, .int .i64 b], .slice (some ⟨g, 0, none⟩) n c] w (TurnsOut w (backT ts) true) := by
  have HL := Lib.hid hl
  have HC := Lib.hid hC
  have HG := Lib.hid (okBk_yes hok).1
  have HT := Lib.hid (okBk_yes hok).2
  have HP := Lib.hid (pm_of (okBk_yes hok).2).2
  have n200 : n ≤ 200 := by rw [← hl]; exact (pm_of (okBk_yes hok).2).1
  have zg : g < w.heap.size := hC.lt
  obtain ⟨i0, hi, hy0, hy1, hy2⟩ := info_parts info_turn
  have hmk := make_some n (by omega)
  clear hl hC hok
  refine callsIn_of_wp_marks Try.func33 rfl trivial ?_ rfl
  simp only [Try.ntmps33, List.size_toArray, List.length_cons, List.length_nil, Nat.reduceAdd, Nat.reduceSub, Array.replicate_succ, Array.replicate_zero, List.push_toArray, List.append_toArray, List.nil_append, List.cons_append]
  gi_wp2_with (first
    | (refine ⟨trivial, ?_⟩; gi_at_call 17; refine (callsIn_wide.2 (isLock_any _ _ _)).mono ?_; rw [HG.out]; rintro e w1 ⟨rfl, hb1⟩
       have hz1 : w.heap.size < w1.heap.size := by have := hb1.size; simp at this; omega
       have l0 : w1.cell? ⟨w.heap.size, 0, none⟩ = some (.int .i64 a) := (hb1.cell (p := ⟨w.heap.size, 0, none⟩) (by simp)).trans (by simp)
       have l1 : w1.cell? ⟨w.heap.size, 1, none⟩ = some (.int .i64 b) := (hb1.cell (p := ⟨w.heap.size, 1, none⟩) (by simp)).trans (by simp))
    | (refine ⟨trivial, ?_⟩; gi_at_call 59; refine (callsIn_wide.2 (hasTurns_any _ _ ts _ _ _ _ HL.out hm ((HC.out.alloc _).call hb1))).mono ?_; rw [HT.out]; rintro e w2 ⟨rfl, hb2⟩)
    | (refine ⟨trivial, ?_⟩; gi_at_call 63; refine (backward_any Fence.wide _ trivial rfl _ _ _ _).mono ?_; rintro e w3 ⟨rfl, rfl⟩))
  have hB2 : Below w.heap.size w w2 := bel_call (bel_call ((Below.refl _ _).alloc (Nat.le_refl _) _) hb1) hb2
  have hzw : w.heap.size < w2.heap.size := Nat.lt_of_lt_of_le hz1 hb2.size
  have rO := World.ownsRow_made (base := w.heap.size) (e := 38) (size := 2) w2 (madeCells #[.int .i64 0, .int .i64 0] (n * 2)) n (Nat.le_of_lt hzw) (by unfold maxLen; omega) (by rw [size_madeCells])
  have bO := Boxed.new (w2.alloc (.cells (madeCells #[.int .i64 0, .int .i64 0] (n * 2)) 38)) 44 (.slice (some ⟨w2.heap.size, 0, none⟩) 0 n)
  have bX := Boxed.new ((w2.alloc (.cells (madeCells #[.int .i64 0, .int .i64 0] (n * 2)) 38)).alloc (.cells #[.slice (some ⟨w2.heap.size, 0, none⟩) 0 n] 44)) 44 (.slice (some ⟨g, 0, none⟩) n c)
  simp only [World.size_alloc] at bO bX
  have bO' := bO.alloc (.cells #[.slice (some ⟨g, 0, none⟩) n c] 44)
  have rO' := (rO.alloc (.cells #[.slice (some ⟨w2.heap.size, 0, none⟩) 0 n] 44)).alloc (.cells #[.slice (some ⟨g, 0, none⟩) n c] 44)
  have hB0 := ((hB2.alloc hB2.size (.cells (madeCells #[.int .i64 0, .int .i64 0] (n * 2)) 38)).alloc (by simp; omega) (.cells #[.slice (some ⟨w2.heap.size, 0, none⟩) 0 n] 44)).alloc (by simp; omega) (.cells #[.slice (some ⟨g, 0, none⟩) n c] 44)
  have hsz : (((w2.alloc (.cells (madeCells #[.int .i64 0, .int .i64 0] (n * 2)) 38)).alloc (.cells #[.slice (some ⟨w2.heap.size, 0, none⟩) 0 n] 44)).alloc (.cells #[.slice (some ⟨g, 0, none⟩) n c] 44)).heap.size = w2.heap.size + 1 + 1 + 1 := by simp
  clear bO rO hmk hb1 hb2 l0 l1 hB2
  obtain ⟨W0, hW0⟩ : ∃ W0, ((w2.alloc (.cells (madeCells #[.int .i64 0, .int .i64 0] (n * 2)) 38)).alloc (.cells #[.slice (some ⟨w2.heap.size, 0, none⟩) 0 n] 44)).alloc (.cells #[.slice (some ⟨g, 0, none⟩) n c] 44) = W0 := ⟨_, rfl⟩
  rw [hW0] at bX bO' rO' hB0 hsz ⊢
  clear hW0
  generalize w2.heap.size = R at *
  have hC0 := HC.out.below hB0 zg
  refine wpIn_rangeFunc_ownH rfl (by omega) (gf := 85) (lb := #[.pointer (some ⟨R + 1 + 1, 0, none⟩)]) rfl trivial (enters_of Try.func85 (by kernel_rfl) rfl)
    (backward_stops Fence.wide 5 trivial rfl (by omega) (R + 1 + 1) w.heap.size g n c ts HL.out (by omega) HP.out zg W0 hB0.size bX hC0) kpB_t (kpB_b hB0.size) (Below.refl _ _) (fun _ => rfl)
    (fun pre W => ((∃ v, Boxed W (R + 1) 44 v ∧ W.ownsRow w.heap.size 38 2 v pre.length (tv (outX pre)) ∧ True) ∧ Boxed W (R + 1 + 1) 44 (.slice (some ⟨g, 0, none⟩) n c)) ∧ Below w.heap.size w W)
    (fun _ _ _ => False)
    (OwnFrom.and (OwnFrom.and (Own.from (holdsRow_own w.heap.size (R + 1) 44 38 2 (fun pre : List TurnX => pre.length) (fun pre => tv (outX pre)) (fun _ _ => True)) _) (Own.from (boxed_own _ _ _) _)) (ownFrom_below (Nat.le_refl _) hB0.size))
    (fun _ _ _ _ _ hs _ _ => hs)
    ⟨⟨⟨_, bO', rO', trivial⟩, bX⟩, hB0⟩
    (fun x a' W => ∃ Bx, W.heap[Bx]? = some (.cells #[.int .i64 x.1.2.1, .int .i64 x.1.2.2] 38 (0, 0)) ∧ a' = { tmps := #[.agg #[.int .i64 a, .int .i64 b], .slice (some ⟨g, 0, none⟩) n c, .pointer (some ⟨w.heap.size, 0, none⟩), undef, .slice none 0 0, .bool false, .pointer (some ⟨R + 1, 0, none⟩), undef, .pointer (some ⟨Bx, 0, none⟩), .agg #[.int .i64 a, .int .i64 b], .bool true, .bool false, .bool false, .agg #[.int .i64 a, .int .i64 b], .slice (some ⟨g, 0, none⟩) n c, .bool true, .bool false, .bool false, .slice (some ⟨g, 0, none⟩) n c, .int .i64 (n : Int), .slice (some ⟨R, 0, none⟩) 0 n, .slice (some ⟨g, 0, none⟩) n c, .func (.func 85) #[] #[.pointer (some ⟨R + 1 + 1, 0, none⟩)], .int .i64 x.1.1, .agg #[.int .i64 x.1.2.1, .int .i64 x.1.2.2], undef, undef, undef, undef, undef, undef, undef, undef, undef, undef], defers := [] })
    (fun x a' _ X Y row hs hg hr => by obtain ⟨Bx, h1, h2⟩ := hs; exact ⟨Bx, cells_own Bx 38 _ () X Y row h1 hg (fun r e => (hr r e).2), h2⟩)
    ?assign ?body ?done ?stop
  case assign =>
    rintro l pre ⟨⟨ix, x, y⟩, hxy⟩ W K ⟨⟨⟨v, hv, hr, _⟩, hX⟩, hB⟩ hK
    simp only [encX]
    gi_wp2
    exact hK _ _ ((KeepsOthers.alloc _ _).from _) ⟨(Below.refl _ W).alloc hB.size _, fun b => b.alloc _⟩ ⟨⟨⟨v, hv.alloc _, hr.alloc _, trivial⟩, hX.alloc _⟩, hB.alloc hB.size _⟩ ⟨W.heap.size, World.alloc_heap_new W _, rfl⟩
  case body =>
    rintro l pre ⟨⟨ix, x, y⟩, hxy⟩ a' W hl ⟨r, hr0⟩ ⟨⟨⟨v, hv, hr, _⟩, hX⟩, hB⟩ ⟨Bx, hBx, rfl⟩ hlt
    have hc := hv.cell
    obtain ⟨x0, x1⟩ := cells_at hBx
    have hy : -1 ≤ y ∧ y ≤ 1 := by have h : y = 1 ∨ y = -1 := hxy; omega
    obtain ⟨hy3, hy4⟩ := hy
    gi_wp2_with (gi_at_builtin; refine wpListIn_append_own _ rfl _ _ 44 rfl w.heap.size 38 i0 (.agg #[.int .i64 0, .int .i64 0]) 2 16 Try.underlying44 hi hy0 hy1 hy2 rfl (by decide) _ _ _ rfl (hr.alloc _) ⟨W.heap.size, 0, none⟩ 1 1 [.int .i64 x, .int .i64 (-y)] rfl rfl (news_at rfl) (by simp [Value.oneCell']) (by unfold maxLen; omega) (by omega) (by have := hB.size; simp; omega) ?_; intro v' w1 hown' hgrow _; obtain ⟨g', cap', rfl⟩ := ownsRow_succ hown'; obtain ⟨hv1, hv2, hr2, hk2, hb2⟩ := hv.appended (by decide) hr hB.size (by omega) hown' hgrow; have hX1 := (hX.alloc _).kept hgrow (hX.not_row (by decide) hr); have hc1 := hv1.cell; have hf1 := hv1.frozen)
    have hX2 := hX1.other (show R + 1 + 1 ≠ R + 1 by omega) (.slice (some ⟨g', 0, none⟩) (pre.length + 1) cap')
    have hl1 : (pre ++ [(⟨(ix, x, y), hxy⟩ : TurnX)]).length = pre.length + 1 := by simp
    have hr3 : (w1.setCell ⟨R + 1, 0, none⟩ (.slice (some ⟨g', 0, none⟩) (pre.length + 1) cap')).ownsRow w.heap.size 38 2 (.slice (some ⟨g', 0, none⟩) (pre.length + 1) cap') (pre ++ [(⟨(ix, x, y), hxy⟩ : TurnX)]).length (tv (outX (pre ++ [(⟨(ix, x, y), hxy⟩ : TurnX)]))) := by
      rw [outX_snoc, tv_app, hl1]; exact hr2
    exact ⟨hk2.from _, ⟨hb2, fun _ => hX2⟩, ⟨⟨⟨_, hv2, hr3⟩, hX2⟩, hB.trans hb2⟩⟩
  case done =>
    rintro D ys W hD rfl ⟨⟨⟨v, hv, hr, _⟩, hX⟩, hB⟩ hK
    have hc := hv.cell
    gi_wp2
    refine ⟨by simp, .inl ⟨_, _, rfl, run_takeDeferred hK, ?_⟩⟩
    refine ⟨.tuple #[v, .bool true], by simp [results, Try.results33, go_sem], ?_⟩
    rw [uptoX_length, ← HL.out, outX_all HP.out] at hr
    rw [← backT_length] at hr
    exact turns_some (by rw [backT_length, HL.out]; omega) (Nat.le_refl _) (ownsRow_putObj hr _ hK rfl) (hB.trans (belowK_b (w := w) (Nat.le_refl _) W D _ _ (Nat.le_trans hB0.size hD) hK rfl rfl))
  case stop =>
    rintro D c pre W _ _ h _
    exact h.elim

set_option maxHeartbeats 1000000 in
theorem backTurns_any (a b : Int) (ts : List (Int × Int)) (n g c : Nat) (w : World) (hl : ts.length = n) (hm : n ≤ 1048576) (hC : Cells w g (n * 2) (turnF ts)) :
    Calls Try.prog 33 #[.agg #[.int .i64 a, .int .i64 b], .slice (some ⟨g, 0, none⟩) n c] w (TurnsOut w (backZ a b ts) (okBk a b ts)) := by
  by_cases hok : okBk a b ts = true
  · rw [backZ_yes hok, hok]
    exact (callsIn_wide (n := 6)).1 (backYes_any a b ts n g c w hl hm hC hok)
  · have HNO := Lib.hid (Bool.eq_false_iff.2 hok)
    have HL := Lib.hid hl
    have HC := Lib.hid hC
    by_cases hg : goodB a b = true
    · have HG := Lib.hid hg
      have HT : Hid (turnsB a ts = false) := Lib.hid (by
        have h := HNO.out
        unfold okBk at h
        rw [hg, Bool.true_and] at h
        exact h)
      clear hok hl hC hg
      go_enter Try.func33, Try.ntmps33
      go_wp2_with (first
        | (go_at_call 17; refine (isLock_any _ _ _).mono ?_; rw [HG.out]; rintro e w1 ⟨rfl, hb1⟩
           have l0 : w1.cell? ⟨w.heap.size, 0, none⟩ = some (.int .i64 a) := (hb1.cell (p := ⟨w.heap.size, 0, none⟩) (by simp)).trans (by simp)
           have l1 : w1.cell? ⟨w.heap.size, 1, none⟩ = some (.int .i64 b) := (hb1.cell (p := ⟨w.heap.size, 1, none⟩) (by simp)).trans (by simp))
        | (go_at_call 59; refine (hasTurns_any _ _ ts _ _ _ _ HL.out hm ((HC.out.alloc _).call hb1)).mono ?_; rw [HT.out]; rintro e w2 ⟨rfl, hb2⟩))
      go_ret2
      rw [backZ_no HNO.out, HNO.out]
      exact turns_none (bel_call (bel_call ((Below.refl _ _).alloc (Nat.le_refl _) _) hb1) hb2)
    · have HG := Lib.hid (Bool.eq_false_iff.2 hg)
      clear hok hl hC hg
      go_enter Try.func33, Try.ntmps33
      go_wp2_with (go_at_call 17; refine (isLock_any _ _ _).mono ?_; rw [HG.out]; rintro e w1 ⟨rfl, hb1⟩)
      go_ret2
      rw [backZ_no HNO.out, HNO.out]
      exact turns_none (bel_call ((Below.refl _ _).alloc (Nat.le_refl _) _) hb1)

end Go.Proofs.Ythnekpdakjcadaa
