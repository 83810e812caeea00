/- The library's slices.Backward, over a list of digits: what a loop over it is told. For at most a thousand digits, all below b. -/
import Derived.RangeFuncBox
import Derived.RangeFuncLeaves
import Derived.RangeFuncNested
import Derived.RangeFuncCalls
import Derived.Shelf.Abstract
import Derived.WalkKit
import Derived.OwnWalkIn
import Derived.TacticsInMore
import Derived.LoopNIn
import Derived.LoopIn
import Derived.Test.YtpbnleohbegccaaOc
namespace Go.Proofs.Ytpbnleohbegccaa
open Go.ChangeShapes Go.WideShapes Go.ChangeAt Go.RowKit Go.Joins Go.Shelf

attribute [local go_sem] Oper.semAt_some

/-- A place and a digit below b. -/
abbrev DigX (b : Int) : Type := { x : Int × Int // 0 ≤ x.2 ∧ x.2 < b }

def encD {b : Int} (x : DigX b) : Array Value := #[.int .i64 x.1.1, .int .i64 x.1.2]

/-- What comes j-th: the j-th from behind. -/
def bkD {b : Int} (hb : 0 < b) (ds : List Int) (j : Nat) : DigX b :=
  if h : 0 ≤ ds.getD (ds.length - 1 - j) 0 ∧ ds.getD (ds.length - 1 - j) 0 < b then ⟨(((ds.length - 1 - j : Nat) : Int), ds.getD (ds.length - 1 - j) 0), h⟩ else ⟨(0, 0), Int.le_refl _, hb⟩

def uptoD {b : Int} (f : Nat → DigX b) (k : Nat) : List (DigX b) := (List.range k).map f

theorem uptoD_succ {b : Int} (f : Nat → DigX b) (k : Nat) : uptoD f (k + 1) = uptoD f k ++ [f k] := by simp [uptoD, List.range_succ]

theorem uptoD_length {b : Int} (f : Nat → DigX b) (k : Nat) : (uptoD f k).length = k := by simp [uptoD]

/-- Each one is below b. -/
def LowD (b : Int) (ds : List Int) : Prop := ∀ j, j < ds.length → 0 ≤ ds.getD j 0 ∧ ds.getD j 0 < b

theorem bkD_val {b : Int} {hb : 0 < b} {ds : List Int} (h : LowD b ds) {j : Nat} (hj : j < ds.length) : (bkD hb ds j).1 = (((ds.length - 1 - j : Nat) : Int), ds.getD (ds.length - 1 - j) 0) := by
  unfold bkD
  rw [dif_pos (h _ (by omega))]

/-- What a round keeps: a block, and a box. -/
def KpD (g : Nat) (o : Obj) (Bs : Nat) (t : TypeId) (sv : Value) (W W' : World) : Prop := (W.heap[g]? = some o → W'.heap[g]? = some o) ∧ (Boxed W Bs t sv → Boxed W' Bs t sv)

theorem Cells.block {w w' : World} {g n : Nat} {f : Nat → Value} (h : Cells w g n f) (e : w'.heap[g]? = w.heap[g]?) : Cells w' g n f := by
  refine ⟨?_, fun j hj => ?_⟩
  · have h1 := h.lt
    rw [Array.getElem?_eq_getElem h1] at e
    exact (Array.getElem?_eq_some_iff.1 e).1
  · have h2 := h.at_ j hj
    unfold World.cell? World.frozen? at h2 ⊢
    rw [e]; exact h2

set_option maxRecDepth 100000 in
set_option maxHeartbeats 2000000 in
theorem backItD_any (F : Fence) (n : Nat) (hF : F.fn 100) (hro : F.round = none) (hn : 1 ≤ n) (l Bs g len cap : Nat) (o : Obj) (b : Int) (hb : 0 < b) (ds : List Int) (hlen : ds.length = len) (hm : len ≤ 1000) (hpm : LowD b ds) (J Jx : List (DigX b) → World → Prop)
    (hY : ∀ pre x W, J pre W → pre.length < len → YieldAt F (n - 1) Try.prog l (encD x) W fun e W' =>
      (e = .returned (.bool true) ∧ J (pre ++ [x]) W' ∧ KpD g o Bs 43 (.slice (some ⟨g, 0, none⟩) len cap) W W') ∨ (e = .returned (.bool false) ∧ Jx (pre ++ [x]) W'))
    (W : World) (hBs : Boxed W Bs 43 (.slice (some ⟨g, 0, none⟩) len cap)) (hC : Cells W g len (digF ds)) (ho : W.heap[g]? = some o) (h0 : J [] W) :
    CallsIn F n Try.prog 100 #[.func (.yield l) #[] #[], .pointer (some ⟨Bs, 0, none⟩)] W fun e W' => (∃ v, e = .returned v) ∧
      ((∃ ys, ys = uptoD (bkD hb ds) len ∧ J ys W') ∨ (∃ pre, (∃ k, k ≤ len ∧ pre = uptoD (bkD hb ds) k) ∧ Jx pre W')) := by
  have hc0 := hBs.cell
  have HBX := Lib.hid hBs
  have HC := Lib.hid hC
  have HL := Lib.hid hlen
  clear hBs hC hlen
  refine callsIn_of_wp Try.func100 rfl hF ?_ hro
  simp only [Try.ntmps100, List.size_toArray, List.length_cons, List.length_nil, Nat.reduceAdd, Nat.reduceSub, Array.replicate_succ, Array.replicate_zero, List.push_toArray, List.append_toArray, List.nil_append, List.cons_append]
  gi_wp2
  clear hc0
  gi_loopw [3] (fun i wr => ∃ k : Nat, k ≤ len ∧ i = .int .i64 ((len : Int) - 1 - k) ∧ J (uptoD (bkD hb ds) k) wr ∧ wr.heap[g]? = some o ∧ Boxed wr Bs 43 (.slice (some ⟨g, 0, none⟩) len cap)) (fun i _ => (intOf i + 1).toNat)
  case atStart => exact ⟨0, Nat.zero_le _, by simp, h0, ho, HBX.out⟩
  case round =>
    obtain ⟨k, hk, rfl, hJs, hB, hX⟩ := hrel
    by_cases hlt : k < len
    · obtain ⟨m, hm1⟩ : ∃ m : Nat, (len : Int) - 1 - (k : Int) = m := ⟨len - 1 - k, by omega⟩
      have hmn : len - 1 - k = m := by omega
      have hml : m < len := by omega
      rw [hm1]
      have hCr := HC.out.block (hB.trans ho.symm)
      have p0 : wr.cell? ⟨g, m, none⟩ = some (.int .i64 (ds.getD m 0)) := hCr.cell hml
      have hc := hX.cell
      have hv : encD (bkD hb ds k) = #[.int .i64 (m : Int), .int .i64 (ds.getD m 0)] := by
        unfold encD
        rw [bkD_val hpm (by rw [HL.out]; exact hlt), HL.out, hmn]
      obtain ⟨fn, tmps, assign, body, hy, hR⟩ := hY _ (bkD hb ds k) wr hJs (by rw [uptoD_length]; exact hlt)
      rw [hv] at hy
      have HJ := Lib.hid hJs
      have HX := Lib.hid hX
      clear hJs hX hCr hv
      generalize ds.getD m 0 = x at p0 hy
      gi_wp2
      refine hR.mono ?_
      rintro e W3 (⟨rfl, hJ3, hk3⟩ | ⟨rfl, hJx3⟩)
      · gi_wp2
        go_roundw
        case rel => exact ⟨k + 1, by omega, congrArg (Value.int .i64) (by omega), by rw [uptoD_succ]; exact hJ3, hk3.1 hB, hk3.2 HX.out⟩
        case measure => simp [intOf] <;> omega
      · gi_wp2
        refine bodyPost_ret (results_none rfl _ _ _) rfl ?_
        exact ⟨⟨_, rfl⟩, .inr ⟨_, ⟨k + 1, by omega, (uptoD_succ _ _).symm⟩, hJx3⟩⟩
    · obtain rfl : k = len := by omega
      rw [show (k : Int) - 1 - (k : Int) = -1 by omega]
      have HJ := Lib.hid hJs
      clear hJs hX
      gi_wp2
      go_end0
      exact ⟨⟨_, rfl⟩, .inl ⟨_, rfl, HJ.out⟩⟩

set_option maxHeartbeats 1000000 in
theorem backwardD_any (F : Fence) (n : Nat) (hF : F.fn 72) (hro : F.round = none) (a : Option Addr) (len cap : Nat) (w : World) :
    CallsIn F n Try.prog 72 #[.slice a len cap] w fun e w' => e = .returned (.func (.func 100) #[] #[.pointer (some ⟨w.heap.size, 0, none⟩)]) ∧ w' = w.alloc (.cells #[.slice a len cap] 43) := by
  refine callsIn_of_wp Try.func72 rfl hF ?_ hro
  simp only [Try.ntmps72, List.size_toArray, List.length_cons, List.length_nil, Nat.reduceAdd, Nat.reduceSub, Array.replicate_succ, Array.replicate_zero, List.push_toArray, List.append_toArray, List.nil_append, List.cons_append]
  gi_wp2
  go_ret
  exact ⟨rfl, rfl⟩

/-- slices.Backward hands back a value that tells all digits from behind. -/
theorem backwardD_stops (F : Fence) (n : Nat) (hF : F.fn 100) (hro : F.round = none) (hn : 1 ≤ n) (Bs g len cap : Nat) (o : Obj) (b : Int) (hb : 0 < b) (ds : List Int) (hlen : ds.length = len) (hm : len ≤ 1000) (hpm : LowD b ds) (w : World)
    (hbx : Boxed w Bs 43 (.slice (some ⟨g, 0, none⟩) len cap)) (hC : Cells w g len (digF ds)) (ho : w.heap[g]? = some o) :
    SeqStopsK F n Try.prog 100 #[.pointer (some ⟨Bs, 0, none⟩)] encD (KpD g o Bs 43 (.slice (some ⟨g, 0, none⟩) len cap)) (fun ys => ys = uptoD (bkD hb ds) len) (fun pre => ∃ k, k ≤ len ∧ pre = uptoD (bkD hb ds) k) len w := fun l J Jx W hW _ _ hY h0 =>
  backItD_any F n hF hro hn l Bs g len cap o b hb ds hlen hm hpm J Jx hY W ((hW.block Bs hbx.lt).trans hbx) (hC.call hW) ((hW.block g hC.lt).trans ho) h0

theorem kpD_t {g : Nat} {o : Obj} {Bs : Nat} {t : TypeId} {sv : Value} {X Y Z : World} (h : KpD g o Bs t sv X Y) (k : KpD g o Bs t sv Y Z) : KpD g o Bs t sv X Z := ⟨fun e => k.1 (h.1 e), fun b => k.2 (h.2 b)⟩

theorem kpD_b {g : Nat} {o : Obj} {Bs : Nat} {t : TypeId} {sv : Value} {w : World} (hg : g < w.heap.size) (hB : Bs < w.heap.size) (W : World) (l : Nat) (o1 o' : Obj) (hl : w.heap.size ≤ l) (_ : W.heap[l]? = some o1) (_ : o1.isCells = false) (_ : o1.isWalk = false) : KpD g o Bs t sv W (W.putObj l o') :=
  ⟨fun e => ((grownBy_putObj' W l o').block g (Array.getElem?_eq_some_iff.1 e).1 (fun e2 => by injection e2 with e2; omega)).trans e,
   fun b => b.kept (grownBy_putObj' W l o') (fun e2 => by injection e2 with e2; omega)⟩

/-- The rank that the last digits tell. -/
def stD (b : Int) (p : Int × Nat) (x : DigX b) : Int × Nat := ((if x.1.2 % 2 = 1 then pw b p.2 - 1 - p.1 else p.1) + x.1.2 * pw b p.2, p.2 + 1)

def rkP (b : Int) (pre : List (DigX b)) : Int × Nat := pre.foldl (stD b) (0, 0)

def rkD (b : Int) (pre : List (DigX b)) : Int := (rkP b pre).1

theorem rkP_len (b : Int) (pre : List (DigX b)) : (rkP b pre).2 = pre.length := by
  have h : ∀ (l : List (DigX b)) (p : Int × Nat), (l.foldl (stD b) p).2 = p.2 + l.length := by
    intro l
    induction l with
    | nil => intro p; rfl
    | cons x l ih => intro p; rw [List.foldl_cons, ih, List.length_cons]; show p.2 + 1 + l.length = _; omega
  unfold rkP
  rw [h]; simp

theorem rkD_snoc (b : Int) (pre : List (DigX b)) (x : DigX b) : rkD b (pre ++ [x]) = (if x.1.2 % 2 = 1 then pw b pre.length - 1 - rkD b pre else rkD b pre) + x.1.2 * pw b pre.length := by
  unfold rkD rkP
  rw [List.foldl_append]
  show (stD b (rkP b pre) x).1 = _
  unfold stD
  rw [rkP_len]; rfl

theorem rkD_bd {b : Int} (h2 : 2 ≤ b) : ∀ (k : Nat) (pre : List (DigX b)), pre.length = k → 0 ≤ rkD b pre ∧ rkD b pre + 1 ≤ pw b k
  | 0, pre, h => by
    obtain rfl := List.eq_nil_of_length_eq_zero h
    rw [pw_zero]; exact ⟨Int.le_refl _, Int.le_refl _⟩
  | k + 1, pre, h => by
    obtain ⟨l, x, rfl⟩ : ∃ l x, pre = l ++ [x] := ⟨pre.dropLast, pre.getLast (fun e => by rw [e] at h; cases h), (List.dropLast_concat_getLast _).symm⟩
    have hl : l.length = k := by rw [List.length_append] at h; simp at h; exact h
    obtain ⟨i1, i2⟩ := rkD_bd h2 k l hl
    obtain ⟨d1, d2⟩ := x.2
    rw [rkD_snoc, hl, pw_succ]
    have hp := pw_pos h2 k
    have m1 := Int.mul_nonneg d1 (show 0 ≤ pw b k by omega)
    have m2 := Int.mul_le_mul_of_nonneg_right (show x.1.2 + 1 ≤ b by omega) (show 0 ≤ pw b k by omega)
    rw [Int.add_mul, Int.one_mul, Int.mul_comm b] at m2
    split <;> omega

theorem rkD_all {b : Int} {hb : 0 < b} {ds : List Int} (h : LowD b ds) : ∀ k, k ≤ ds.length → rkD b (uptoD (bkD hb ds) k) = frkB b ds ds.length k
  | 0, _ => rfl
  | k + 1, hk => by
    rw [uptoD_succ, rkD_snoc, rkD_all h k (by omega), uptoD_length, bkD_val h (by omega), frkB]

end Go.Proofs.Ytpbnleohbegccaa
