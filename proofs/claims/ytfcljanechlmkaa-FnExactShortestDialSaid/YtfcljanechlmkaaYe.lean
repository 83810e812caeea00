/- Stops of steps, as the program tells them: the closure that tells the dial behind any steps. For steps that are steps. -/
import Derived.Test.YtfcljanechlmkaaYd
namespace Go.Proofs.Ytfcljanechlmkaa
open Go.ChangeShapes Go.WideShapes Go.ChangeAt Go.RowKit Go.Joins

def dialF (m r : Int) (j : Nat) : Value := (#[.int .i64 m, .int .i64 r] : Array Value).toList.getD j undef

theorem dialF_new (W : World) (m r : Int) {g : Nat} (hg : g = W.heap.size) : Cells (W.alloc (.cells #[.int .i64 m, .int .i64 r] 46)) g 2 (dialF m r) := Cells.new (n := 2) hg rfl

theorem dialF_set {W : World} {g : Nat} {m p : Int} (h : Cells W g 2 (dialF m p)) (x y : Int) : Cells ((W.setCell ⟨g, 0, none⟩ (.int .i64 x)).setCell ⟨g, 1, none⟩ (.int .i64 y)) g 2 (dialF x y) :=
  ((h.set_ (show 0 < 2 by omega) (.int .i64 x)).set_ (show 1 < 2 by omega) (.int .i64 y)).congr (fun j hj => by
    match j, hj with
    | 0, _ => rfl
    | 1, _ => rfl)

theorem posN_congr {m s : Int} {xs ys : List Int} : ∀ k, (∀ j, j < k → xs.getD j 0 = ys.getD j 0) → posN m s xs k = posN m s ys k
  | 0, _ => rfl
  | k + 1, h => by rw [posN, posN, posN_congr k (fun j hj => h j (by omega)), h k (by omega)]

/-- Two dials in blocks of their own. -/
structure TwoD (W : World) (D B : Nat) (m r p : Int) : Prop where
  d : Cells W D 2 (dialF m r)
  b : Cells W B 2 (dialF m p)

theorem TwoD.facts {W : World} {D B : Nat} {m r p : Int} (h : TwoD W D B m r p) : W.cell? ⟨D, 0, none⟩ = some (.int .i64 m) ∧ W.cell? ⟨D, 1, none⟩ = some (.int .i64 r) ∧ W.cell? ⟨B, 0, none⟩ = some (.int .i64 m) ∧ W.cell? ⟨B, 1, none⟩ = some (.int .i64 p) ∧ W.frozen? ⟨B, 0, none⟩ = false ∧ W.frozen? ⟨B, 1, none⟩ = false :=
  ⟨h.d.cell (show 0 < 2 by omega), h.d.cell (show 1 < 2 by omega), h.b.cell (show 0 < 2 by omega), h.b.cell (show 1 < 2 by omega), h.b.frozen (show 0 < 2 by omega), h.b.frozen (show 1 < 2 by omega)⟩

theorem TwoD.call {W W' : World} {D B : Nat} {m r p : Int} (h : TwoD W D B m r p) (hb : Below W.heap.size W W') : TwoD W' D B m r p := ⟨h.d.call hb, h.b.call hb⟩

set_option maxHeartbeats 4000000 in
theorem behind_any (m r : Int) (D : Nat) (A : Option Addr) (n c : Nat) (xs : List Int) (w : World) (hd : dmB m r = true) (hn : n ≤ 12) (hx : ∀ k, k < n → -1000 ≤ xs.getD k 0 ∧ xs.getD k 0 ≤ 1000) (hD : Cells w D 2 (dialF m r)) (hA : IntsA w A n xs) :
    Calls Try.prog 97 #[.slice A n c, .pointer (some ⟨D, 0, none⟩)] w fun e w' => e = .returned (.agg #[.int .i64 m, .int .i64 (posN m r xs n)]) ∧ Below w.heap.size w w' := by
  have HL := Lib.hid hA.len
  have HA := Lib.hid hA
  have HD := Lib.hid hD
  have HX := Lib.hid hx
  have c0 : w.cell? ⟨D, 0, none⟩ = some (.int .i64 m) := hD.cell (show 0 < 2 by omega)
  have c1 : w.cell? ⟨D, 1, none⟩ = some (.int .i64 r) := hD.cell (show 1 < 2 by omega)
  have hDl := hD.lt
  obtain ⟨m2, m1, r0, r1⟩ := dm_yes hd
  have HDM := Lib.hid hd
  clear hA hD hx hd
  go_enter Try.func97, Try.ntmps97
  go_wp2
  go_loopw [10] (fun i wr => ∃ k : Nat, k ≤ n ∧ i = .int .i64 k ∧ Cells wr w.heap.size 2 (dialF 0 0) ∧ Cells wr (w.heap.size + 1) 2 (dialF m (posN m r xs k)) ∧ Below w.heap.size w wr) (fun i _ => n - (intOf i).toNat)
  case atStart =>
    refine ⟨0, by omega, rfl, ?_, ?_, ?_⟩
    · exact (dialF_new w 0 0 rfl).alloc _
    · exact dialF_new (w.alloc (.cells #[.int .i64 0, .int .i64 0] 46)) m r (by rw [World.size_alloc])
    · (repeat (first | assumption | exact Below.refl _ _ | (refine Below.alloc ?_ (by first | omega | (simp; done) | (simp; omega)) _) | (refine Below.setCell ?_ (by first | omega | (simp; done) | (simp; omega)) _) | refine bel_drewN ?_ _ | refine bel_drew ?_ | (refine bel_call ?_ (by assumption))))
  case round =>
    obtain ⟨k, hk, rfl, hC0, hC1, hB⟩ := hrel
    have HC0 := Lib.hid hC0
    have HC1 := Lib.hid hC1
    have HB := Lib.hid hB
    clear hC0 hC1 hB
    by_cases hlt : k < n
    · obtain ⟨b, off, rfl, hb, hc⟩ := (HA.out.below HB.out).at_.resolve_left (by omega)
      have o1 := hc k hlt
      obtain ⟨p0, p1⟩ := posN_bd (xs := xs) HDM.out k
      obtain ⟨x0, x1⟩ := HX.out k hlt
      have HP : Hid (modI m (posN m r xs k + xs.getD k 0) = posN m r xs (k + 1)) := Lib.hid rfl
      obtain ⟨q, hq⟩ : ∃ q, posN m r xs (k + 1) = q := ⟨_, rfl⟩
      rw [hq] at HP
      have HQ := Lib.hid hq
      clear hq
      generalize posN m r xs k = p at p0 p1 HP HC1
      generalize xs.getD k 0 = x at o1 x0 x1 HP
      have T0 := Lib.hid (show TwoD wr.drew D (w.heap.size + 1) m r p from ⟨((HD.out.below HB.out hDl)).drew, HC1.out.drew⟩)
      obtain ⟨t0, t1, t2, t3, t4, t5⟩ := T0.out.facts
      have hw1 : IntKind.i64.wrap (p + x) = p + x := IntWalk.i64_in _ (by omega)
      clear hc c0 c1
      go_wp2_with fail
      go_region_with (first
        | (go_at_call 61; refine (read_any _ _ _).mono ?_; rintro e w1 ⟨rfl, hb1⟩; have T1 := Lib.hid (T0.out.call hb1); obtain ⟨t0, t1, t2, t3, t4, t5⟩ := T1.out.facts)
        | (go_at_call 88; refine (around_any _ _ _ _ m2 m1).mono ?_; rw [HP.out]; rintro e w2 ⟨rfl, hb2⟩; have T2 := Lib.hid (T1.out.call hb2); obtain ⟨t0, t1, t2, t3, t4, t5⟩ := T2.out.facts)
        | (go_at_call 65; refine (reading_any _ _ _ _).mono ?_; rintro e w3 ⟨rfl, hb3⟩; have T3 := Lib.hid (T2.out.call hb3); obtain ⟨t0, t1, t2, t3, t4, t5⟩ := T3.out.facts))
      all_goals
        have HBW := Lib.hid (bel_call HB.out (below_undrew (((hb1.mono (Nat.le_refl _)).trans (hb2.mono hb1.size)).trans (hb3.mono (Nat.le_trans hb1.size hb2.size)))))
        have HW1 : Hid (Cells w3 (w.heap.size + 1) 2 (dialF m p)) := Lib.hid T3.out.b
        have HW0 : Hid (Cells w3 w.heap.size 2 (dialF 0 0)) := Lib.hid (((HC0.out.drew.call hb1).call hb2).call hb3)
        clear T0 T1 T2 T3 hb1 hb2 hb3
        go_wp2_with fail
        go_roundw
        case rel =>
          refine ⟨k + 1, by omega, by go_num, ?_, ?_, ?_⟩
          · exact (HW0.out.far (by dsimp only; omega) _).far (by dsimp only; omega) _
          · rw [HQ.out]
            exact dialF_set HW1.out m q
          · exact (HBW.out.setCell (by dsimp only; omega) _).setCell (by dsimp only; omega) _
        case measure => simp [intOf]; omega
    · obtain rfl : k = n := by omega
      have q0 : wr.cell? ⟨w.heap.size + 1, 0, none⟩ = some (.int .i64 m) := HC1.out.cell (show 0 < 2 by omega)
      have q1 : wr.cell? ⟨w.heap.size + 1, 1, none⟩ = some (.int .i64 (posN m r xs k)) := HC1.out.cell (show 1 < 2 by omega)
      have q2 : wr.cell? ⟨w.heap.size, 0, none⟩ = some (.int .i64 0) := HC0.out.cell (show 0 < 2 by omega)
      have q3 : wr.cell? ⟨w.heap.size, 1, none⟩ = some (.int .i64 0) := HC0.out.cell (show 1 < 2 by omega)
      have f2 := HC0.out.frozen (show 0 < 2 by omega)
      have f3 := HC0.out.frozen (show 1 < 2 by omega)
      have CW := (HC0.out.set_ (show 0 < 2 by omega) (.int .i64 m)).set_ (show 1 < 2 by omega) (.int .i64 (posN m r xs k))
      go_wp2_with fail
      refine bodyPost_ret (v := .agg #[.int .i64 m, .int .i64 (posN m r xs k)]) (dial_res Try.results97 _ _ w.heap.size _ _ rfl (CW.cell (show 0 < 2 by omega)) (CW.cell (show 1 < 2 by omega))) rfl ⟨rfl, ?_⟩
      exact (HB.out.setCell (Nat.le_refl _) _).setCell (Nat.le_refl _) _

end Go.Proofs.Ytfcljanechlmkaa
