/- Gears copied by the law, their size told, compared. For at most 1048576 numbers. -/
import Derived.Test.YtkmgmlgjflnbeaaGrid
namespace Go.Proofs.Ytkmgmlgjflnbeaa
open Go.ChangeShapes Go.WideShapes Go.ChangeAt Go.RowKit Go.Joins

theorem szGears_any (a b : Int) (A : Option Addr) (n c : Nat) (ks : List (List Int)) (w : World) (hn : n ≤ 9223372036854775807) (hA : KnobsA w A n ks) :
    Calls Try.prog 4 #[.agg #[.int .i64 a, .int .i64 b, .slice A n c], .int .i64 1048576] w fun e w' => (∃ r : Int, e = .returned (.int .i64 r) ∧ (0 ≤ r → n + lensAt ks n ≤ 1048576)) ∧ Below w.heap.size w w' := by
  have HA := Lib.hid hA
  clear hA
  go_enter Try.func4, Try.ntmps4
  go_wp2_with (go_at_call 13; refine (szIntSS_any _ _ _ ks _ hn (HA.out.below ((Below.refl _ _).alloc (Nat.le_refl _) _))).mono ?_; rintro e w1 ⟨⟨r, rfl, hr1, hr2⟩, rfl⟩)
  · go_ret
    refine ⟨⟨-1, rfl, fun h => by omega⟩, ?_⟩
    (repeat (first | assumption | exact Below.refl _ _ | (refine Below.alloc ?_ (by first | omega | (simp; done) | (simp; omega)) _) | (refine Below.setCell ?_ (by first | omega | (simp; done) | (simp; omega)) _) | refine bel_drewN ?_ _ | refine bel_drew ?_ | (refine bel_call ?_ (by assumption))))
  · go_ret
    refine ⟨⟨r, rfl, hr2⟩, ?_⟩
    (repeat (first | assumption | exact Below.refl _ _ | (refine Below.alloc ?_ (by first | omega | (simp; done) | (simp; omega)) _) | (refine Below.setCell ?_ (by first | omega | (simp; done) | (simp; omega)) _) | refine bel_drewN ?_ _ | refine bel_drew ?_ | (refine bel_call ?_ (by assumption))))

theorem GridT.under {w : World} {g n : Nat} {ks : List (List Int)} {G : Nat → Nat} (h : GridT w g n ks G) {p : Addr} (hp : p.block < g) (v : Value) : GridT (w.setCell p v) g n ks G :=
  ⟨h.top.far (by omega) v, fun k hk => ⟨(h.row k hk).1, (h.row k hk).2.far (by have := (h.row k hk).1; omega) v⟩, h.up⟩

/-- A block that has just been made. -/
theorem Cells.new {W : World} {cs : Array Value} {t : TypeId} {g n : Nat} (hg : g = W.heap.size) (hn : n = cs.size) : Cells (W.alloc (.cells cs t)) g n (fun j => cs.toList.getD j undef) := by
  subst hg hn
  refine ⟨by simp, fun j hj => ?_⟩
  rw [World.cell?_alloc_new, World.frozen?_alloc_new]
  refine ⟨?_, rfl⟩
  simp [List.getD, hj]

set_option maxHeartbeats 1000000 in
theorem toGears_any (a b : Int) (A : Option Addr) (n c : Nat) (ks : List (List Int)) (w : World) (hn : n + lensAt ks n ≤ 1048576) (hA : KnobsA w A n ks) :
    Calls Try.prog 6 #[.agg #[.int .i64 a, .int .i64 b, .slice A n c]] w fun e w' => ∃ g, e = .returned (.agg #[.int .i64 a, .int .i64 b, .slice (some ⟨g, 0, none⟩) n n]) ∧ w.heap.size ≤ g ∧ (∃ G, GridT w' g n ks G) ∧ Below w.heap.size w w' := by
  have HA := Lib.hid hA
  clear hA
  go_enter Try.func6, Try.ntmps6
  go_wp2_with fail
  have CU := ((Cells.new (W := w) (cs := #[.int .i64 a, .int .i64 b, .slice A n c]) (t := 26) (g := w.heap.size) (n := 3) rfl rfl).alloc (.cells #[.int .i64 0, .int .i64 0, .slice none 0 0] 33)).alloc (.cells #[.int .i64 0, .int .i64 0, .slice none 0 0] 33)
  have CQ := (Cells.new (W := w.alloc (.cells #[.int .i64 a, .int .i64 b, .slice A n c] 26)) (cs := #[.int .i64 0, .int .i64 0, .slice none 0 0]) (t := 33) (g := w.heap.size + 1) (n := 3) (by simp) rfl).alloc (.cells #[.int .i64 0, .int .i64 0, .slice none 0 0] 33)
  have CT := Cells.new (W := (w.alloc (.cells #[.int .i64 a, .int .i64 b, .slice A n c] 26)).alloc (.cells #[.int .i64 0, .int .i64 0, .slice none 0 0] 33)) (cs := #[.int .i64 0, .int .i64 0, .slice none 0 0]) (t := 33) (g := w.heap.size + 1 + 1) (n := 3) (by simp) rfl
  have hB0 : Below w.heap.size w (((w.alloc (.cells #[.int .i64 a, .int .i64 b, .slice A n c] 26)).alloc (.cells #[.int .i64 0, .int .i64 0, .slice none 0 0] 33)).alloc (.cells #[.int .i64 0, .int .i64 0, .slice none 0 0] 33)) := by (repeat (first | assumption | exact Below.refl _ _ | (refine Below.alloc ?_ (by first | omega | (simp; done) | (simp; omega)) _) | (refine Below.setCell ?_ (by first | omega | (simp; done) | (simp; omega)) _) | refine bel_drewN ?_ _ | refine bel_drew ?_ | (refine bel_call ?_ (by assumption))))
  refine (toLock_any _ _ _).mono ?_
  rintro e w1 ⟨rfl, hb1⟩
  have DU := Lib.hid (CU.call hb1)
  have DQ := Lib.hid (CQ.call hb1)
  have DT := Lib.hid (CT.call hb1)
  have HB1 := Lib.hid (((bel_call hB0 hb1).setCell (p := ⟨w.heap.size + 1 + 1, 0, none⟩) (by show w.heap.size ≤ w.heap.size + 1 + 1; omega) (.int .i64 a)).setCell (p := ⟨w.heap.size + 1 + 1, 1, none⟩) (by show w.heap.size ≤ w.heap.size + 1 + 1; omega) (.int .i64 b))
  clear CU CQ CT hB0 hb1
  have t0 : w1.cell? ⟨w.heap.size + 1 + 1, 0, none⟩ = some (.int .i64 0) := DT.out.cell (show 0 < 3 by omega)
  have t1 : w1.cell? ⟨w.heap.size + 1 + 1, 1, none⟩ = some (.int .i64 0) := DT.out.cell (show 1 < 3 by omega)
  have f0 := DT.out.frozen (show 0 < 3 by omega)
  have f1 := DT.out.frozen (show 1 < 3 by omega)
  have s2 : w1.cell? ⟨w.heap.size, 2, none⟩ = some (.slice A n c) := DU.out.cell (show 2 < 3 by omega)
  have EQ := Lib.hid ((DQ.out.far (p := ⟨w.heap.size + 1 + 1, 0, none⟩) (by show w.heap.size + 1 + 1 ≠ w.heap.size + 1; omega) (.int .i64 a)).far (p := ⟨w.heap.size + 1 + 1, 1, none⟩) (by show w.heap.size + 1 + 1 ≠ w.heap.size + 1; omega) (.int .i64 b))
  have ET := Lib.hid ((DT.out.set_ (show 0 < 3 by omega) (.int .i64 a)).set_ (show 1 < 3 by omega) (.int .i64 b))
  go_wp2_with fail
  refine (toIntSS_any _ _ _ ks _ hn (HA.out.below HB1.out)).mono ?_
  rintro e w2 ⟨rfl, hG2, hb2⟩
  have FQ := Lib.hid (EQ.out.call hb2)
  have FT := Lib.hid (ET.out.call hb2)
  have HB2 := Lib.hid (bel_call HB1.out hb2)
  have HG2 := Lib.hid hG2
  have HZ := Lib.hid HB1.out.size
  have HZT := Lib.hid ET.out.lt
  clear t0 t1 f0 f1 s2 hb2 hG2
  have T0 : w2.cell? ⟨w.heap.size + 1 + 1, 0, none⟩ = some (.int .i64 a) := FT.out.cell (show 0 < 3 by omega)
  have T1 : w2.cell? ⟨w.heap.size + 1 + 1, 1, none⟩ = some (.int .i64 b) := FT.out.cell (show 1 < 3 by omega)
  have T2 : w2.cell? ⟨w.heap.size + 1 + 1, 2, none⟩ = some (.slice none 0 0) := FT.out.cell (show 2 < 3 by omega)
  have F2 := FT.out.frozen (show 2 < 3 by omega)
  have Q0 : w2.cell? ⟨w.heap.size + 1, 0, none⟩ = some (.int .i64 0) := FQ.out.cell (show 0 < 3 by omega)
  have Q1 : w2.cell? ⟨w.heap.size + 1, 1, none⟩ = some (.int .i64 0) := FQ.out.cell (show 1 < 3 by omega)
  have Q2 : w2.cell? ⟨w.heap.size + 1, 2, none⟩ = some (.slice none 0 0) := FQ.out.cell (show 2 < 3 by omega)
  have G0 := FQ.out.frozen (show 0 < 3 by omega)
  have G1 := FQ.out.frozen (show 1 < 3 by omega)
  have G2 := FQ.out.frozen (show 2 < 3 by omega)
  generalize ((w1.setCell ⟨w.heap.size + 1 + 1, 0, none⟩ (.int .i64 a)).setCell ⟨w.heap.size + 1 + 1, 1, none⟩ (.int .i64 b)).heap.size = g at *
  go_wp2_with fail
  refine bodyPost_ret (v := .agg #[.int .i64 a, .int .i64 b, .slice (some ⟨g, 0, none⟩) n n]) (by simp [results, Try.results6, go_sem, Q0, Q1, Q2]) rfl ⟨g, rfl, HZ.out, ?_, ?_⟩
  · obtain ⟨G, hG⟩ := HG2.out
    have hz := HZT.out
    exact ⟨G, (((hG.under (by show w.heap.size + 1 + 1 < g; omega) _).under (by show w.heap.size + 1 < g; omega) _).under (by show w.heap.size + 1 < g; omega) _).under (by show w.heap.size + 1 < g; omega) _⟩
  · have h := HB2.out
    (repeat (first | assumption | exact Below.refl _ _ | (refine Below.alloc ?_ (by first | omega | (simp; done) | (simp; omega)) _) | (refine Below.setCell ?_ (by first | omega | (simp; done) | (simp; omega)) _) | refine bel_drewN ?_ _ | refine bel_drew ?_ | (refine bel_call ?_ (by assumption))))

end Go.Proofs.Ytkmgmlgjflnbeaa
