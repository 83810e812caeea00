/- Sums and differences of digits, and two codes taken together digit by digit. No conditions. -/
import Derived.Test.YtgopaflggbgplaaAsked
import Derived.Deep.RegionWith
namespace Go.Proofs.Ytgopaflggbgplaa
open Go.ChangeShapes Go.WideShapes Go.ChangeAt Go.RowKit Go.Joins

/-- Sum, difference and distance of digits, around. -/
def addI (b x y : Int) : Int := (x + y) % b

def subI (b x y : Int) : Int := (x - y) % b

def distI (b x y : Int) : Int := if subI b x y ≤ subI b y x then subI b x y else subI b y x

theorem subI_bd {b : Int} (h : 2 ≤ b) (x y : Int) : 0 ≤ subI b x y ∧ subI b x y < b := ⟨Int.emod_nonneg _ (by omega), Int.emod_lt_of_pos _ (by omega)⟩

theorem addI_bd {b : Int} (h : 2 ≤ b) (x y : Int) : 0 ≤ addI b x y ∧ addI b x y < b := ⟨Int.emod_nonneg _ (by omega), Int.emod_lt_of_pos _ (by omega)⟩

theorem distI_bd {b : Int} (h : 2 ≤ b) (x y : Int) : 0 ≤ distI b x y ∧ distI b x y < b := by
  unfold distI
  split
  · exact subI_bd h x y
  · exact subI_bd h y x

theorem difference_any (a b x y : Int) (w : World) (h2 : 2 ≤ b) (h10 : b ≤ 10) (hx : -10 ≤ x ∧ x ≤ 10) (hy : -10 ≤ y ∧ y ≤ 10) (h0 : 0 ≤ x - y + b) :
    Calls Try.prog 84 #[.agg #[.int .i64 a, .int .i64 b], .int .i64 x, .int .i64 y] w fun e w' => e = .returned (.int .i64 (subI b x y)) ∧ Below w.heap.size w w' := by
  go_enter Try.func84, Try.ntmps84
  go_wp2
  go_ret
  refine ⟨ret_int (by unfold subI; simp), ?_⟩
  (repeat (first | assumption | exact Below.refl _ _ | (refine Below.alloc ?_ (by first | omega | (simp; done) | (simp; omega)) _) | (refine Below.setCell ?_ (by first | omega | (simp; done) | (simp; omega)) _) | refine bel_drewN ?_ _ | refine bel_drew ?_ | (refine bel_call ?_ (by assumption))))

theorem zip_at {f : Int → Int → Int} (xs ys : List Int) (k : Nat) (hx : k < xs.length) (hy : k < ys.length) : (xs.zipWith f ys).getD k 0 = f (xs.getD k 0) (ys.getD k 0) := by
  simp [List.getD, List.getElem?_eq_getElem hx, List.getElem?_eq_getElem hy, List.getElem?_zipWith]

theorem below_undrew {B : Nat} {w w' : World} (h : Below B w.drew w') : Below B w w' := ⟨h.os, h.tape, h.output, h.size, h.block⟩

theorem pair_rel {w wr w3 : World} {g1 g2 k n : Nat} {Z D T : List Int} {x y : Value} {v : Int} (h1 : Cells wr g1 n (fun j => if j < k then digF Z j else digF D j)) (hk : k < n) (hv : Z.getD k 0 = v)
    (h2 : Cells wr g2 n (digF T)) (ne : g1 ≠ g2) (l0 : wr.cell? ⟨w.heap.size, 0, none⟩ = some x) (l1 : wr.cell? ⟨w.heap.size, 1, none⟩ = some y) (z4 : w.heap.size < wr.heap.size) (z1 : w.heap.size < g1)
    (hB : Below w.heap.size w wr) (hb : Below wr.heap.size wr w3) :
    Cells (w3.setCell ⟨g1, k, none⟩ (.int .i64 v)) g1 n (fun j => if j < k + 1 then digF Z j else digF D j) ∧ Cells (w3.setCell ⟨g1, k, none⟩ (.int .i64 v)) g2 n (digF T) ∧
    (w3.setCell ⟨g1, k, none⟩ (.int .i64 v)).cell? ⟨w.heap.size, 0, none⟩ = some x ∧ (w3.setCell ⟨g1, k, none⟩ (.int .i64 v)).cell? ⟨w.heap.size, 1, none⟩ = some y ∧
    w.heap.size < (w3.setCell ⟨g1, k, none⟩ (.int .i64 v)).heap.size ∧ Below w.heap.size w (w3.setCell ⟨g1, k, none⟩ (.int .i64 v)) := by
  subst hv
  refine ⟨((h1.call hb).set_ hk _).congr (fun j hj => ?_), (h2.call hb).far ne _, ?_, ?_, ?_, (bel_call hB hb).setCell (Nat.le_of_lt z1) _⟩
  · by_cases h : j = k
    · subst h; simp [digF]
    · rw [if_neg h]
      by_cases h2 : j < k
      · rw [if_pos h2, if_pos (by omega)]
      · rw [if_neg h2, if_neg (by omega)]
  · rw [World.cell?_setCell_far _ _ _ _ (by simp; omega), hb.cell (p := ⟨w.heap.size, 0, none⟩) z4, l0]
  · rw [World.cell?_setCell_far _ _ _ _ (by simp; omega), hb.cell (p := ⟨w.heap.size, 1, none⟩) z4, l1]
  · rw [size_setCell]; have := hb.size; omega

theorem pair_rel_drew {w wr w3 : World} {g1 g2 k n : Nat} {Z D T : List Int} {x y : Value} {v : Int} (h1 : Cells wr g1 n (fun j => if j < k then digF Z j else digF D j)) (hk : k < n) (hv : Z.getD k 0 = v)
    (h2 : Cells wr g2 n (digF T)) (ne : g1 ≠ g2) (l0 : wr.cell? ⟨w.heap.size, 0, none⟩ = some x) (l1 : wr.cell? ⟨w.heap.size, 1, none⟩ = some y) (z4 : w.heap.size < wr.heap.size) (z1 : w.heap.size < g1)
    (hB : Below w.heap.size w wr) (hb : Below wr.heap.size wr w3) :
    Cells (w3.setCell ⟨g1, k, none⟩ (.int .i64 v)).drew g1 n (fun j => if j < k + 1 then digF Z j else digF D j) ∧ Cells (w3.setCell ⟨g1, k, none⟩ (.int .i64 v)).drew g2 n (digF T) ∧
    (w3.setCell ⟨g1, k, none⟩ (.int .i64 v)).drew.cell? ⟨w.heap.size, 0, none⟩ = some x ∧ (w3.setCell ⟨g1, k, none⟩ (.int .i64 v)).drew.cell? ⟨w.heap.size, 1, none⟩ = some y ∧
    w.heap.size < (w3.setCell ⟨g1, k, none⟩ (.int .i64 v)).drew.heap.size ∧ Below w.heap.size w (w3.setCell ⟨g1, k, none⟩ (.int .i64 v)).drew :=
  have h := pair_rel h1 hk hv h2 ne l0 l1 z4 z1 hB hb
  ⟨h.1.drew, h.2.1.drew, h.2.2.1, h.2.2.2.1, h.2.2.2.2.1, bel_drew h.2.2.2.2.2⟩

theorem pairDiff_any (a b : Int) (s t : ByteArray) (w : World) (h : askB a b s = true) (ht : askB a b t = true) :
    Calls Try.prog 78 #[.agg #[.int .i64 a, .int .i64 b], .string s, .string t, .func (.func 84) #[] #[]] w (IntsOut w ((dg s).zipWith (subI b) (dg t)) s.size) := by
  have HA := Lib.hid (asked h)
  have HT := Lib.hid (asked ht)
  obtain ⟨n6, b2, b10⟩ : s.size ≤ 6 ∧ 2 ≤ b ∧ b ≤ 10 := ⟨HA.out.n6, HA.out.b2, HA.out.b10⟩
  have n6' := HT.out.n6
  clear h ht
  go_enter Try.func78, Try.ntmps78
  go_wp2_with (first | (go_at_call_of 60 s; refine (digitsOf_any _ _ HA.out.digits (by omega)).mono ?_; rintro e w1 ⟨g1, c1, rfl, hg1, hC1, hb1⟩) | (go_at_call_of 60 t; refine (digitsOf_any _ _ HT.out.digits (by omega)).mono ?_; rintro e w2 ⟨g2, c2, rfl, hg2, hC2, hb2⟩))
  have hB : Below w.heap.size w w2 := by (repeat (first | assumption | exact Below.refl _ _ | (refine Below.alloc ?_ (by first | omega | (simp; done) | (simp; omega)) _) | (refine Below.setCell ?_ (by first | omega | (simp; done) | (simp; omega)) _) | refine bel_drewN ?_ _ | refine bel_drew ?_ | (refine bel_call ?_ (by assumption))))
  have hz : w.heap.size < g1 ∧ g1 < w1.heap.size ∧ w1.heap.size ≤ g2 := by have := hC1.lt; simp at hg1; exact ⟨by omega, this, hg2⟩
  obtain ⟨z1, z2, z3⟩ := hz
  have HC1 := Lib.hid (hC1.call hb2)
  have HC2 := Lib.hid hC2
  have l0 : w2.cell? ⟨w.heap.size, 0, none⟩ = some (.int .i64 a) := by rw [hb2.cell (p := ⟨w.heap.size, 0, none⟩) (by show w.heap.size < w1.heap.size; omega), hb1.cell (p := ⟨w.heap.size, 0, none⟩) (by simp)]; simp
  have l1 : w2.cell? ⟨w.heap.size, 1, none⟩ = some (.int .i64 b) := by rw [hb2.cell (p := ⟨w.heap.size, 1, none⟩) (by show w.heap.size < w1.heap.size; omega), hb1.cell (p := ⟨w.heap.size, 1, none⟩) (by simp)]; simp
  have z4 : w.heap.size < w2.heap.size := by have := HC1.out.lt; omega
  have hst : s.size ≤ t.size ∧ t.size ≤ s.size := by have h1 := HA.out.size; have h2 := HT.out.size; omega
  obtain ⟨st1, st2⟩ := hst
  clear hC1 hC2 hb1 hb2 hg1 hg2
  generalize hZ : (dg s).zipWith (subI b) (dg t) = Z
  have HZ : ∀ k, k < s.size → Z.getD k 0 = subI b ((dg s).getD k 0) ((dg t).getD k 0) := fun k hk => by
    rw [← hZ]; exact zip_at _ _ _ (by rw [dg_length]; exact hk) (by rw [dg_length]; omega)
  have HZ' := Lib.hid HZ
  have HE := Lib.hid hZ
  clear HZ hZ
  go_loopw [17] (fun i wr => ∃ k : Nat, k ≤ s.size ∧ i = .int .i64 k ∧ Cells wr g1 s.size (fun j => if j < k then digF Z j else digF (dg s) j) ∧ Cells wr g2 s.size (digF (dg t)) ∧ wr.cell? ⟨w.heap.size, 0, none⟩ = some (.int .i64 a) ∧ wr.cell? ⟨w.heap.size, 1, none⟩ = some (.int .i64 b) ∧ w.heap.size < wr.heap.size ∧ Below w.heap.size w wr) (fun i _ => s.size - (intOf i).toNat)
  case atStart => exact ⟨0, by omega, rfl, HC1.out.congr (fun j _ => by simp), HC2.out.sub st1, l0, l1, z4, hB⟩
  case round =>
    clear l0 l1 z4 hB
    obtain ⟨k, hk, rfl, hC1, hC2, l0, l1, z4, hB⟩ := hrel
    have H1 := Lib.hid hC1
    have H2 := Lib.hid hC2
    clear hC1 hC2
    by_cases hlt : k < s.size
    · have hlt' : k < t.size := by omega
      have o1 : wr.cell? ⟨g1, k, none⟩ = some (.int .i64 ((dg s).getD k 0)) := by rw [H1.out.cell hlt, if_neg (by omega)]; rfl
      have o2 : wr.cell? ⟨g2, k, none⟩ = some (.int .i64 ((dg t).getD k 0)) := H2.out.cell hlt
      obtain ⟨d1, d2⟩ := HA.out.low k hlt
      obtain ⟨d3, d4⟩ := HT.out.low k hlt'
      have HV := Lib.hid (HZ'.out k hlt)
      generalize (dg s).getD k 0 = x at o1 d1 d2 HV
      generalize (dg t).getD k 0 = y at o2 d3 d4 HV
      go_wp2_with fail
      go_region_with (go_at_call 84; refine (difference_any _ _ _ _ _ (by omega) (by omega) (by omega) (by omega) (by omega)).mono ?_; rintro e w3 ⟨rfl, hb3⟩; have h3 := Lib.hid (H1.out.drew.call hb3); have p1 := h3.out.cell hlt; have p2 := h3.out.frozen hlt)
      all_goals
        have HR := Lib.hid (pair_rel H1.out hlt HV.out H2.out (by omega) l0 l1 z4 z1 hB (below_undrew hb3))
        go_wp2
        go_roundw
        case rel => exact ⟨k + 1, by omega, by go_num, HR.out⟩
        case measure => simp [intOf]; omega
    · go_wp2
      go_ret
      exact ⟨_, _, rfl, Nat.le_of_lt z1, H1.out.congr (fun j hj => by rw [if_pos (by omega), HE.out]), hB⟩

end Go.Proofs.Ytgopaflggbgplaa
