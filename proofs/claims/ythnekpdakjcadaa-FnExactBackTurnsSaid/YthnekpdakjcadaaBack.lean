/- The library's slices.Backward, over a list of turns that are forth or back: what a loop over it is told. For at most a thousand turns. -/
import Derived.RangeFuncBox
import Derived.RangeFuncLeaves
import Derived.RangeFuncNested
import Derived.Shelf.Abstract
import Derived.WalkKit
import Derived.OwnWalkIn
import Derived.TacticsInMore
import Derived.LoopNIn
import Derived.LoopIn
import Derived.Test.YthnekpdakjcadaaParse
namespace Go.Proofs.Ythnekpdakjcadaa
open Go.ChangeShapes Go.WideShapes Go.ChangeAt Go.RowKit Go.Joins Go.Shelf

attribute [local go_sem] Oper.semAt_some

/-- A place and a turn that is forth or back. -/
abbrev TurnX : Type := { x : Int × (Int × Int) // x.2.2 = 1 ∨ x.2.2 = -1 }
def encX (x : TurnX) : Array Value := #[.int .i64 x.1.1, .agg #[.int .i64 x.1.2.1, .int .i64 x.1.2.2]]
/-- What comes j-th: the j-th from behind. -/
def backF (ts : List (Int × Int)) (j : Nat) : TurnX :=
  if h : (ts.getD (ts.length - 1 - j) (0, 0)).2 = 1 ∨ (ts.getD (ts.length - 1 - j) (0, 0)).2 = -1 then ⟨(((ts.length - 1 - j : Nat) : Int), ts.getD (ts.length - 1 - j) (0, 0)), h⟩ else ⟨(0, (0, 1)), .inl rfl⟩
def uptoX (f : Nat → TurnX) (k : Nat) : List TurnX := (List.range k).map f
theorem uptoX_succ (f : Nat → TurnX) (k : Nat) : uptoX f (k + 1) = uptoX f k ++ [f k] := by simp [uptoX, List.range_succ]
theorem uptoX_length (f : Nat → TurnX) (k : Nat) : (uptoX f k).length = k := by simp [uptoX]
/-- Each one is forth or back. -/
def PmT (ts : List (Int × Int)) : Prop := ∀ j, j < ts.length → (ts.getD j (0, 0)).2 = 1 ∨ (ts.getD j (0, 0)).2 = -1
theorem backF_val {ts : List (Int × Int)} (h : PmT ts) {j : Nat} (hj : j < ts.length) : (backF ts j).1 = (((ts.length - 1 - j : Nat) : Int), ts.getD (ts.length - 1 - j) (0, 0)) := by
  unfold backF
  rw [dif_pos (h _ (by omega))]

/-- What a round keeps: what lay below a place, and a box. -/
def KpB (B Bs : Nat) (t : TypeId) (sv : Value) (W W' : World) : Prop := Below B W W' ∧ (Boxed W Bs t sv → Boxed W' Bs t sv)

set_option maxRecDepth 100000 in
set_option maxHeartbeats 2000000 in
theorem backIt_any (F : Fence) (n : Nat) (hF : F.fn 85) (hro : F.round = none) (hn : 1 ≤ n) (l Bs B g len cap : Nat) (ts : List (Int × Int)) (hlen : ts.length = len) (hm : len ≤ 1000) (hpm : PmT ts) (hg : g < B) (J Jx : List TurnX → World → Prop)
    (hY : ∀ pre x W, J pre W → pre.length < len → YieldAt F (n - 1) Try.prog l (encX x) W fun e W' =>
      (e = .returned (.bool true) ∧ J (pre ++ [x]) W' ∧ KpB B Bs 44 (.slice (some ⟨g, 0, none⟩) len cap) W W') ∨ (e = .returned (.bool false) ∧ Jx (pre ++ [x]) W'))
    (W : World) (hBs : Boxed W Bs 44 (.slice (some ⟨g, 0, none⟩) len cap)) (hC : Cells W g (len * 2) (turnF ts)) (h0 : J [] W) :
    CallsIn F n Try.prog 85 #[.func (.yield l) #[] #[], .pointer (some ⟨Bs, 0, none⟩)] W fun e W' => (∃ v, e = .returned v) ∧
      ((∃ ys, ys = uptoX (backF ts) len ∧ J ys W') ∨ (∃ pre, (∃ k, k ≤ len ∧ pre = uptoX (backF ts) k) ∧ Jx pre W')) := by
  have hc0 := hBs.cell
  have HBX := Lib.hid hBs
  have HC := Lib.hid hC
  have HL := Lib.hid hlen
  clear hBs hC hlen
  refine callsIn_of_wp Try.func85 rfl hF ?_ hro
  simp only [Try.ntmps85, List.size_toArray, List.length_cons, List.length_nil, Nat.reduceAdd, Nat.reduceSub, Array.replicate_succ, Array.replicate_zero, List.push_toArray, List.append_toArray, List.nil_append, List.cons_append]
  gi_wp2
  clear hc0
  gi_loopw [3] (fun i wr => ∃ k : Nat, k ≤ len ∧ i = .int .i64 ((len : Int) - 1 - k) ∧ J (uptoX (backF ts) k) wr ∧ Below B W wr ∧ Boxed wr Bs 44 (.slice (some ⟨g, 0, none⟩) len cap)) (fun i _ => (intOf i + 1).toNat)
  case atStart => exact ⟨0, Nat.zero_le _, by simp, h0, Below.refl _ _, HBX.out⟩
  case round =>
    obtain ⟨k, hk, rfl, hJs, hB, hX⟩ := hrel
    by_cases hlt : k < len
    · obtain ⟨m, hm1⟩ : ∃ m : Nat, (len : Int) - 1 - (k : Int) = m := ⟨len - 1 - k, by omega⟩
      have hmn : len - 1 - k = m := by omega
      have hml : m < len := by omega
      rw [hm1]
      have hCr := HC.out.below hB hg
      have p0 : wr.cell? ⟨g, m * 2, none⟩ = some (.int .i64 (ts.getD m (0, 0)).1) := by rw [← turnF_0]; exact hCr.cell (by omega)
      have p1 : wr.cell? ⟨g, m * 2 + 1, none⟩ = some (.int .i64 (ts.getD m (0, 0)).2) := by rw [← turnF_1]; exact hCr.cell (by omega)
      have hc := hX.cell
      have hv : encX (backF ts k) = #[.int .i64 (m : Int), .agg #[.int .i64 (ts.getD m (0, 0)).1, .int .i64 (ts.getD m (0, 0)).2]] := by
        unfold encX
        rw [backF_val hpm (by rw [HL.out]; exact hlt), HL.out, hmn]
      obtain ⟨fn, tmps, assign, body, hy, hR⟩ := hY _ (backF ts k) wr hJs (by rw [uptoX_length]; exact hlt)
      rw [hv] at hy
      have HJ := Lib.hid hJs
      have HX := Lib.hid hX
      clear hJs hX hCr hv
      generalize (ts.getD m (0, 0)).1 = x at p0 hy
      generalize (ts.getD m (0, 0)).2 = y at p1 hy
      gi_wp2
      refine hR.mono ?_
      rintro e W3 (⟨rfl, hJ3, hk3⟩ | ⟨rfl, hJx3⟩)
      · gi_wp2
        go_roundw
        case rel => exact ⟨k + 1, by omega, congrArg (Value.int .i64) (by omega), by rw [uptoX_succ]; exact hJ3, hB.trans hk3.1, hk3.2 HX.out⟩
        case measure => simp [intOf] <;> omega
      · gi_wp2
        refine bodyPost_ret (results_none rfl _ _ _) rfl ?_
        exact ⟨⟨_, rfl⟩, .inr ⟨_, ⟨k + 1, by omega, (uptoX_succ _ _).symm⟩, hJx3⟩⟩
    · obtain rfl : k = len := by omega
      rw [show (k : Int) - 1 - (k : Int) = -1 by omega]
      have HJ := Lib.hid hJs
      clear hJs hX
      gi_wp2
      go_end0
      exact ⟨⟨_, rfl⟩, .inl ⟨_, rfl, HJ.out⟩⟩

set_option maxHeartbeats 1000000 in
theorem backward_any (F : Fence) (n : Nat) (hF : F.fn 63) (hro : F.round = none) (a : Option Addr) (len cap : Nat) (w : World) :
    CallsIn F n Try.prog 63 #[.slice a len cap] w fun e w' => e = .returned (.func (.func 85) #[] #[.pointer (some ⟨w.heap.size, 0, none⟩)]) ∧ w' = w.alloc (.cells #[.slice a len cap] 44) := by
  refine callsIn_of_wp Try.func63 rfl hF ?_ hro
  simp only [Try.ntmps63, List.size_toArray, List.length_cons, List.length_nil, Nat.reduceAdd, Nat.reduceSub, Array.replicate_succ, Array.replicate_zero, List.push_toArray, List.append_toArray, List.nil_append, List.cons_append]
  gi_wp2
  go_ret
  exact ⟨rfl, rfl⟩

/-- slices.Backward hands back a value that tells all turns from behind. -/
theorem backward_stops (F : Fence) (n : Nat) (hF : F.fn 85) (hro : F.round = none) (hn : 1 ≤ n) (Bs B g len cap : Nat) (ts : List (Int × Int)) (hlen : ts.length = len) (hm : len ≤ 1000) (hpm : PmT ts) (hg : g < B) (w : World) (hB : B ≤ w.heap.size)
    (hbx : Boxed w Bs 44 (.slice (some ⟨g, 0, none⟩) len cap)) (hC : Cells w g (len * 2) (turnF ts)) :
    SeqStopsK F n Try.prog 85 #[.pointer (some ⟨Bs, 0, none⟩)] encX (KpB B Bs 44 (.slice (some ⟨g, 0, none⟩) len cap)) (fun ys => ys = uptoX (backF ts) len) (fun pre => ∃ k, k ≤ len ∧ pre = uptoX (backF ts) k) len w := fun l J Jx W hW _ _ hY h0 =>
  backIt_any F n hF hro hn l Bs B g len cap ts hlen hm hpm hg J Jx hY W ((hW.block Bs hbx.lt).trans hbx) (hC.below (hW.mono hB) hg) h0

theorem kpB_t {B Bs : Nat} {t : TypeId} {sv : Value} {X Y Z : World} (h : KpB B Bs t sv X Y) (k : KpB B Bs t sv Y Z) : KpB B Bs t sv X Z := ⟨h.1.trans k.1, fun b => k.2 (h.2 b)⟩
theorem kpB_b {B Bs : Nat} {t : TypeId} {sv : Value} {w : World} (hB : B ≤ w.heap.size) (W : World) (l : Nat) (o o' : Obj) (hl : w.heap.size ≤ l) (h : W.heap[l]? = some o) (hc : o.isCells = false) (hw : o.isWalk = false) : KpB B Bs t sv W (W.putObj l o') :=
  ⟨belowK_b (w := w) hB W l o o' hl h hc hw, fun b => b.kept (grownBy_putObj' W l o') (fun e => by
    cases e
    rw [show W.heap[Bs]? = _ from b] at h; cases h; cases hc)⟩

end Go.Proofs.Ythnekpdakjcadaa
