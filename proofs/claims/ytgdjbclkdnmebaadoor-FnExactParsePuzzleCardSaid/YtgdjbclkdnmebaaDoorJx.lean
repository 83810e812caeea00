/- Puzzles read from a text, as the model reads them: where the lock's part has two numbers. For texts of at most 2^20 bytes. -/
import Derived.Test.YtgdjbclkdnmebaaDoorJw
import Derived.Deep.DeepCutAuto
namespace Go.Proofs.YtgdjbclkdnmebaaDoor
set_option maxRecDepth 100000
open Go.ChangeShapes Go.WideShapes Go.ChangeAt Go.RowKit Go.Joins

/-- What is known of the parts where the text is a puzzle's. -/
theorem zz_seen {s h t x y : ByteArray} (hht : spA 58 s = [h, t]) (hxy : spA 120 h = [x, y]) (hz : zzB s = true) : x = numB (zzA s) ∧ y = numB (zzD s) ∧ zzT s = t ∧ 0 ≤ zzA s ∧ zzA s ≤ 999 ∧ 0 ≤ zzD s ∧ zzD s ≤ 999 := by
  have H := zzHas hz
  have h2 := H.two
  rw [hht] at h2
  injection h2 with h4 h5
  injection h5 with h6 _
  have h3 := H.lock
  rw [← h4, hxy] at h3
  injection h3 with h7 h8
  injection h8 with h9 _
  have ha := H.a1
  have hb := H.b1
  exact ⟨h7, h9, h6.symm, by omega, by omega, by omega, by omega⟩

theorem zz_parts {s t : ByteArray} (ht : zzT s = t) (h0 : t.size ≠ 0) (hz : zzB s = true) : (zzK s).length = (spA 44 t).length ∧ ∀ k, k < (spA 44 t).length → ∃ c, cluOk c ∧ (spA 44 t).getD k ByteArray.empty = clT c ∧ (zzK s).take (k + 1) = (zzK s).take k ++ [c] := by
  have H := zzHas hz
  have hp := H.parts (by rw [ht]; omega)
  rw [ht] at hp
  have hl : (zzK s).length = (spA 44 t).length := by rw [hp, List.length_map]
  refine ⟨hl, fun k hk => ⟨(zzK s)[k]'(by omega), H.clu _ (List.getElem_mem _), ?_, ?_⟩⟩
  · rw [hp, List.getD, List.getElem?_map, List.getElem?_eq_getElem (by omega)]
    rfl
  · rw [List.take_succ_eq_append_getElem (by omega)]

theorem g3F_store {w : World} {L : Nat} {f : Nat → Value} (h : Cells w L 3 f) (a b : Int) (v : Value) : Cells (((w.setCell ⟨L, 0, none⟩ (.int .i64 a)).setCell ⟨L, 1, none⟩ (.int .i64 b)).setCell ⟨L, 2, none⟩ v) L 3 (g3F a b v) :=
  (((h.set_ (k := 0) (by omega) _).set_ (k := 1) (by omega) _).set_ (k := 2) (by omega) _).congr fun j hj => by
    have : j = 0 ∨ j = 1 ∨ j = 2 := by omega
    rcases this with rfl | rfl | rfl <;> rfl

theorem far3 {w : World} {L g n : Nat} {f : Nat → Value} (h : Cells w g n f) (hne : L ≠ g) (a b v : Value) : Cells (((w.setCell ⟨L, 0, none⟩ a).setCell ⟨L, 1, none⟩ b).setCell ⟨L, 2, none⟩ v) g n f :=
  ((h.far (p := ⟨L, 0, none⟩) hne _).far (p := ⟨L, 1, none⟩) hne _).far (p := ⟨L, 2, none⟩) hne _

theorem bel3 {w W : World} {B L : Nat} (h : Below B W w) (hL : B ≤ L) (a b v : Value) : Below B W (((w.setCell ⟨L, 0, none⟩ a).setCell ⟨L, 1, none⟩ b).setCell ⟨L, 2, none⟩ v) :=
  ((h.setCell (p := ⟨L, 0, none⟩) hL _).setCell (p := ⟨L, 1, none⟩) hL _).setCell (p := ⟨L, 2, none⟩) hL _

theorem KC.drewR {w : World} {lo hi : Nat} {A : Option Addr} {n : Nat} {f : Nat → Value} (h : KC w lo hi A n f) : KC w.drew lo hi A n f := h.call (bel_drew (Below.refl _ _))

/-- The numbers of a clue's text. -/
theorem zz_clue {p x0 x1 x2 : ByteArray} {c : Clu} {r0 r1 r2 : Int} (hok : cluOk c) (hp : p = clT c) (e : spA 46 p = [x0, x1, x2]) (h0 : ∀ n, 0 ≤ n → n ≤ 999 → x0 = numB n → r0 = n) (h1 : ∀ n, 0 ≤ n → n ≤ 999 → x1 = numB n → r1 = n) (h2 : ∀ n, 0 ≤ n → n ≤ 999 → x2 = numB n → r2 = n) : (r0, r1, r2) = c := by
  rw [hp, spA_clT hok] at e
  injection e with e0 e
  injection e with e1 e
  injection e with e2 _
  obtain ⟨k1, k2, k3, k4, k5, k6⟩ := hok
  rw [h0 c.1 (by omega) (by omega) e0.symm, h1 c.2.1 (by omega) (by omega) e1.symm, h2 c.2.2 (by omega) (by omega) e2.symm]

set_option maxHeartbeats 8000000 in
theorem pzParseY_any (s : ByteArray) (hs : s.size ≤ 100) (h t x y : ByteArray) (hht : spA 58 s = [h, t]) (hxy : spA 120 h = [x, y]) (w : World) :
    Calls Tryd.prog 51 #[.string s] w (KzP w s) := by
  have HQ := Lib.hid (show Cells (w.alloc (.cells #[.int .i64 0, .int .i64 0, .slice none 0 0] 46)) w.heap.size 3 (g3F 0 0 (.slice none 0 0)) from Cells.new (n := 3) rfl rfl)
  have HB0 := Lib.hid (show Below w.heap.size w (w.alloc (.cells #[.int .i64 0, .int .i64 0, .slice none 0 0] 46)) from (Below.refl _ _).alloc (Nat.le_refl _) _)
  have HSEEN : Hid (zzB s = true → x = numB (zzA s) ∧ y = numB (zzD s) ∧ zzT s = t ∧ 0 ≤ zzA s ∧ zzA s ≤ 999 ∧ 0 ≤ zzD s ∧ zzD s ≤ 999) := Lib.hid (zz_seen hht hxy)
  have HXY : Hid ((spA 58 s).length = 2 ∧ strF (spA 58 s) = strF [h, t]) := Lib.hid (by rw [hht]; exact ⟨rfl, rfl⟩)
  have HXZ : Hid ((spA 120 h).length = 2 ∧ strF (spA 120 h) = strF [x, y]) := Lib.hid (by rw [hxy]; exact ⟨rfl, rfl⟩)
  have hh1 : h.size ≤ 100 := by have := spA_part 58 s h (by rw [hht]; simp); omega
  have ht1 : t.size ≤ 100 := by have := spA_part 58 s t (by rw [hht]; simp); omega
  have hx1 : x.size ≤ 1048576 := by have := spA_part 120 h x (by rw [hxy]; simp); omega
  have hy1 : y.size ≤ 1048576 := by have := spA_part 120 h y (by rw [hxy]; simp); omega
  have h100 : ¬ 100 < s.size := by omega
  have hs' : s.size ≤ 1048576 := by omega
  clear hht hxy
  go_enter Tryd.func51, Tryd.ntmps51
  go_wp2_with (first
    | ((fail_if_success (have := o0)); go_at_call 70; refine (l1SplitC_any s 58 58 (by decide) hs' _).mono ?_; rw [HXY.out.1, HXY.out.2]; rintro e w1 ⟨g1, c1, rfl, hg1, hC1, hc1, hb1⟩
       have E1 := Lib.hid (HQ.out.call hb1)
       have B1 := Lib.hid (bel_call HB0.out hb1)
       have D1 := Lib.hid hC1
       have Y1 : w.heap.size < g1 := by rw [World.size_alloc] at hg1; omega
       have o0 : w1.cell? ⟨g1, 0, none⟩ = some (.string h) := hC1.cell (show 0 < 2 by omega)
       clear hC1 hb1 hg1)
    | (go_at_call 70; refine (l1SplitC_any h 120 120 (by decide) (by omega) _).mono ?_; rw [HXZ.out.1, HXZ.out.2]; rintro e w2 ⟨g2, c2, rfl, hg2, hC2, hc2, hb2⟩
       have E2 := Lib.hid (E1.out.call hb2)
       have B2 := Lib.hid (bel_call B1.out hb2)
       have D2 := Lib.hid (D1.out.call hb2)
       have F2 := Lib.hid hC2
       have Y2 : g1 < g2 := by have := D1.out.lt; omega
       have p0 : w2.cell? ⟨g2, 0, none⟩ = some (.string x) := hC2.cell (show 0 < 2 by omega)
       have p1 : w2.cell? ⟨g2, 1, none⟩ = some (.string y) := hC2.cell (show 1 < 2 by omega)
       clear o0 hC2 hb2 hg2))
  go_cut [6] from 29 to 39 (fun v6 wx => ∃ (L : Nat) (a b : Int), v6 = .pointer (some ⟨L, 0, none⟩) ∧ (∀ n, 0 ≤ n → n ≤ 999 → x = numB n → a = n) ∧ (∀ n, 0 ≤ n → n ≤ 999 → y = numB n → b = n) ∧ w2.heap.size ≤ L ∧ Cells wx L 3 (g3F a b (.slice none 0 0)) ∧ Cells wx g1 2 (strF [h, t]) ∧ Cells wx w.heap.size 3 (g3F 0 0 (.slice none 0 0)) ∧ Below w.heap.size w wx)
  case first =>
    have Y4 : g1 < w2.heap.size := D2.out.lt
    have Y5 : w.heap.size < w2.heap.size := E2.out.lt
    have k0 : ((w2.alloc (.cells #[.int .i64 0, .int .i64 0, .slice none 0 0] 46)).drew).cell? ⟨g2, 0, none⟩ = some (.string x) := ((F2.out.alloc _).drew).cell (show 0 < 2 by omega)
    have k1 : ((w2.alloc (.cells #[.int .i64 0, .int .i64 0, .slice none 0 0] 46)).drew).cell? ⟨g2, 1, none⟩ = some (.string y) := ((F2.out.alloc _).drew).cell (show 1 < 2 by omega)
    go_region_law (first
      | ((fail_if_success (have := hr)); go_simp; go_at_call 71; refine (l1Read_any x hx1 _).mono ?_; rintro e w3 ⟨a, rfl, hr, hb3⟩
         have HB3 : Hid (Below w2.heap.size w2 w3) := by first | exact Lib.hid (below_undrew hb3) | exact Lib.hid (bel_call (bel_drew ((Below.refl _ _).alloc (Nat.le_refl _) _)) hb3) | exact Lib.hid (bel_call ((bel_drew (Below.refl _ _)).alloc (by simp) _) hb3)
         have m0 : w3.cell? ⟨g2, 0, none⟩ = some (.string x) := (F2.out.call HB3.out).cell (show 0 < 2 by omega)
         have m1 : w3.cell? ⟨g2, 1, none⟩ = some (.string y) := (F2.out.call HB3.out).cell (show 1 < 2 by omega)
         have n1 : (w3.alloc (.cells #[.int .i64 0, .int .i64 0, .slice none 0 0] 46)).cell? ⟨g2, 1, none⟩ = some (.string y) := ((F2.out.call HB3.out).alloc _).cell (show 1 < 2 by omega)
         have n0 : (w3.alloc (.cells #[.int .i64 0, .int .i64 0, .slice none 0 0] 46)).cell? ⟨g2, 0, none⟩ = some (.string x) := ((F2.out.call HB3.out).alloc _).cell (show 0 < 2 by omega)
         have HRA := Lib.hid hr
         first
           | (have T3 : Hid (Cells w3 w2.heap.size 3 (g3F 0 0 (.slice none 0 0))) := by first | exact Lib.hid ((Cells.new (W := w2.drew) (g := w2.heap.size) (n := 3) (by simp) rfl).call hb3) | exact Lib.hid (((Cells.new (W := w2) (n := 3) rfl rfl).drew).call hb3))
           | skip
         clear hb3)
      | (go_simp; go_at_call 71; refine (l1Read_any y hy1 _).mono ?_; rintro e w4 ⟨b, rfl, hq, hb4⟩
         have HB4 : Hid (Below w3.heap.size w3 w4) := by first | exact Lib.hid hb4 | exact Lib.hid (bel_call ((Below.refl _ _).alloc (Nat.le_refl _) _) hb4)
         have HRB := Lib.hid hq
         first
           | (have T4 : Hid (Cells w4 w2.heap.size 3 (g3F 0 0 (.slice none 0 0))) := Lib.hid (T3.out.call HB4.out)
              have c0 := T4.out.cell (show 0 < 3 by omega)
              have c1' := T4.out.cell (show 1 < 3 by omega)
              have c2' := T4.out.cell (show 2 < 3 by omega)
              have f0 := T4.out.frozen (show 0 < 3 by omega)
              have f1 := T4.out.frozen (show 1 < 3 by omega)
              have f2 := T4.out.frozen (show 2 < 3 by omega))
           | (have T5 : Hid (Cells w4 w3.heap.size 3 (g3F 0 0 (.slice none 0 0))) := Lib.hid ((Cells.new (W := w3) (n := 3) rfl rfl).call hb4)
              have c0 := T5.out.cell (show 0 < 3 by omega)
              have c1' := T5.out.cell (show 1 < 3 by omega)
              have c2' := T5.out.cell (show 2 < 3 by omega)
              have f0 := T5.out.frozen (show 0 < 3 by omega)
              have f1 := T5.out.frozen (show 1 < 3 by omega)
              have f2 := T5.out.frozen (show 2 < 3 by omega))
           | skip
         clear hb4))
    all_goals
      go_wp2_with fail
      try go_simp
      have Z3 := HB3.out.size
      have Z4 := HB4.out.size
      have D4 := (D2.out.call HB3.out).call HB4.out
      have E4 := (E2.out.call HB3.out).call HB4.out
      have B4 := bel_call (bel_call B2.out HB3.out) HB4.out
      go_meet
      first
        | exact ⟨w2.heap.size, a, b, rfl, HRA.out, HRB.out, Nat.le_refl _, g3F_store T4.out _ _ _, far3 D4 (by omega) _ _ _, far3 E4 (by omega) _ _ _, bel3 B4 (by omega) _ _ _⟩
        | exact ⟨w3.heap.size, a, b, rfl, HRA.out, HRB.out, Z3, g3F_store T5.out _ _ _, far3 D4 (by omega) _ _ _, far3 E4 (by omega) _ _ _, bel3 B4 (by omega) _ _ _⟩
        | exact ⟨w4.heap.size, a, b, rfl, HRA.out, HRB.out, by omega, Cells.new (n := 3) rfl rfl, D4.alloc _, E4.alloc _, B4.alloc B4.size _⟩
        | trace_state
  case rest =>
    obtain ⟨L, a, b, rfl, ha, hb, hL, CT, CU, CQ, hB0⟩ := hcut
    have hz0 : L + 1 ≤ wc.heap.size := CT.lt
    have HAB : Hid (zzB s = true → a = zzA s ∧ b = zzD s) := Lib.hid (fun hz => by
      obtain ⟨h1, h2, _, h3, h4, h5, h6⟩ := HSEEN.out hz
      exact ⟨ha _ h3 h4 h1, hb _ h5 h6 h2⟩)
    have HTT : Hid (zzB s = true → zzT s = t) := Lib.hid (fun hz => (HSEEN.out hz).2.2.1)
    have hq1 : w.heap.size < L := by have := E2.out.lt; omega
    have hq2 : g1 < L := by have := D2.out.lt; omega
    have o1 : wc.cell? ⟨g1, 1, none⟩ = some (.string t) := CU.cell (show 1 < 2 by omega)
    have HT := Lib.hid CT
    have HU := Lib.hid CU
    have HQQ := Lib.hid CQ
    have HB := Lib.hid hB0
    clear ha hb E1 B1 D1 E2 B2 D2 F2 p0 p1 Y1 Y2 hL HSEEN CT CU CQ hB0 HQ HB0
    have HQ := HQQ
    clear HQQ
    by_cases ht0 : t.size = 0
    · have hti : ¬ (0 : Int) < (t.size : Int) := by omega
      have HCS : Hid (zzB s = true → ([] : List Clu) = zzK s) := Lib.hid (fun hz => ((zzHas hz).none (by rw [HTT.out hz]; exact ht0)).symm)
      have HKC : Hid (KC wc L wc.heap.size none 0 (cluF [])) := Lib.hid (.inl rfl)
      have HKL : Hid (([] : List Clu).length = 0) := Lib.hid rfl
      have hVlo := hq1
      clear ht0
      have t0 : wc.cell? ⟨L, 0, none⟩ = some (.int .i64 a) := HT.out.cell (show 0 < 3 by omega)
      have t1 : wc.cell? ⟨L, 1, none⟩ = some (.int .i64 b) := HT.out.cell (show 1 < 3 by omega)
      have t2 : wc.cell? ⟨L, 2, none⟩ = some (.slice none 0 0) := HT.out.cell (show 2 < 3 by omega)
      have HSE : Hid (zzB s = (pzB a b [] && decide (pzU a b [] 0 = s))) := Lib.hid (by
        have h1 := zz_end (s := s) (a := a) (b := b) (cs := []) (fun hz => ⟨(HAB.out hz).1, (HAB.out hz).2, HCS.out hz⟩)
        rw [HKL.out] at h1
        exact h1.symm)
      have HFK : Hid (∀ W, Below wc.heap.size wc W → KC W L wc.heap.size none 0 (cluF [])) := Lib.hid (fun W hb => HKC.out.call hb)
      have HFIN : Hid (∀ W, Below wc.heap.size wc W → KzP w s (.returned (.tuple #[.agg #[.int .i64 a, .int .i64 b, .slice none 0 0], .bool (zzB s)])) (((W.setCell ⟨w.heap.size, 0, none⟩ (.int .i64 a)).setCell ⟨w.heap.size, 1, none⟩ (.int .i64 b)).setCell ⟨w.heap.size, 2, none⟩ (.slice none 0 0))) := Lib.hid (fun W hb => ⟨a, b, 0, none, 0, rfl, ⟨fun hz => ⟨(HAB.out hz).1, (HAB.out hz).2, by rw [← HCS.out hz, HKL.out], by
        rw [← HCS.out hz, size_setCell, size_setCell, size_setCell]
        exact ((((HKC.out.call hb).far (p := ⟨w.heap.size, 0, none⟩) hVlo _).far (p := ⟨w.heap.size, 1, none⟩) hVlo _).far (p := ⟨w.heap.size, 2, none⟩) hVlo _).wide (Nat.le_of_lt hVlo) hb.size⟩, bel3 (bel_call HB.out hb) (Nat.le_refl _) _ _ _⟩⟩)
      obtain ⟨x9, HX9⟩ : ∃ x, Hid (pzB a b [] = x) := ⟨_, Lib.hid rfl⟩
      rcases x9 with _ | _
      · have HD : Hid (zzB s = false) := Lib.hid (by rw [HSE.out, HX9.out]; rfl)
        go_wp2_with fail
        have hst : ∀ (W : World) (p : Nat) (z : Value), (fun W => W.cell? ⟨L, 0, none⟩ = some (.int .i64 a) ∧ W.cell? ⟨L, 1, none⟩ = some (.int .i64 b) ∧ W.cell? ⟨L, 2, none⟩ = some (.slice none 0 0) ∧ (∃ f, Cells W w.heap.size 3 f) ∧ KC W L wc.heap.size none 0 (cluF []) ∧ Below w.heap.size w W) W → p < 3 → (fun W => W.cell? ⟨L, 0, none⟩ = some (.int .i64 a) ∧ W.cell? ⟨L, 1, none⟩ = some (.int .i64 b) ∧ W.cell? ⟨L, 2, none⟩ = some (.slice none 0 0) ∧ (∃ f, Cells W w.heap.size 3 f) ∧ KC W L wc.heap.size none 0 (cluF []) ∧ Below w.heap.size w W) (W.setCell ⟨w.heap.size, p, none⟩ z) := fun W p z ⟨h1, h2, h3, ⟨f, h4⟩, h5, h6⟩ hp => ⟨by rw [World.cell?_setCell_other W _ _ z (fun e => by injection e with e; omega)]; exact h1, by rw [World.cell?_setCell_other W _ _ z (fun e => by injection e with e; omega)]; exact h2, by rw [World.cell?_setCell_other W _ _ z (fun e => by injection e with e; omega)]; exact h3, ⟨_, h4.set_ hp z⟩, h5.far (p := ⟨w.heap.size, p, none⟩) hVlo z, h6.setCell (Nat.le_refl _) z⟩
        refine wp_region_held_drew (S := (fun W => W.cell? ⟨L, 0, none⟩ = some (.int .i64 a) ∧ W.cell? ⟨L, 1, none⟩ = some (.int .i64 b) ∧ W.cell? ⟨L, 2, none⟩ = some (.slice none 0 0) ∧ (∃ f, Cells W w.heap.size 3 f) ∧ KC W L wc.heap.size none 0 (cluF []) ∧ Below w.heap.size w W)) (by kernel_rfl) ⟨t0, t1, t2, ⟨_, HQ.out.drew⟩, HKC.out.drewR, bel_drew HB.out⟩ (fun hHeld => ?_)
        clear t0 t1 t2
        (refine wpAnyH_take (i := 0) (v := ?_) rfl (by kernel_rfl) (by kernel_rfl) (by kernel_rfl) (fun _ _ _ h => h) (Or.inl ⟨by rfl, by intro w hSw; (try dsimp only at hSw); go_simp; try with_reducible rfl⟩) (by assumption) ?_; try simp only [Act.put, List.getElem_toArray, List.getElem_cons_zero, List.setIfInBounds_toArray, List.set_cons_zero, List.set_cons_succ])
        (refine wpAnyH_take (i := 1) (v := ?_) rfl (by kernel_rfl) (by kernel_rfl) (by kernel_rfl) (fun _ _ _ h => h) (Or.inl ⟨by rfl, by intro w hSw; (try dsimp only at hSw); go_simp; try with_reducible rfl⟩) (by assumption) ?_; try simp only [Act.put, List.getElem_toArray, List.getElem_cons_zero, List.getElem_cons_succ, List.setIfInBounds_toArray, List.set_cons_zero, List.set_cons_succ])
        (refine wpAnyH_ready (rs := [2]) (by kernel_rfl) (by simp) (AllReadyH.cons rfl (fun K hK => ?_) AllReadyH.nil); rw [if_pos (by rfl)]; simp only [List.getElem_toArray, List.getElem_cons_zero, List.getElem_cons_succ]; go_wp2_with ((go_at_call 42; refine (pzGood_any a b _ _ _ [] _ (by unfold maxLen; omega) (hHeld.2.2.2.2.1.argN HKL.out)).mono ?_; rw [HX9.out]; rintro e w5 ⟨rfl, hb5⟩; have hS5 := And.intro ((hb5.cell (p := ⟨L, 0, none⟩) (World.block_lt_of_cell? _ _ hHeld.1)).trans hHeld.1) (And.intro ((hb5.cell (p := ⟨L, 1, none⟩) (World.block_lt_of_cell? _ _ hHeld.2.1)).trans hHeld.2.1) (And.intro ((hb5.cell (p := ⟨L, 2, none⟩) (World.block_lt_of_cell? _ _ hHeld.2.2.1)).trans hHeld.2.2.1) (And.intro (hHeld.2.2.2.1.elim fun f h => (⟨f, h.call hb5⟩ : ∃ f, Cells w5 w.heap.size 3 f)) (And.intro (hHeld.2.2.2.2.1.call hb5) (bel_call hHeld.2.2.2.2.2 hb5))))))); refine hK.out _ _ hS5 (fun hHeld => ?_); clear hK K; try simp only [Act.put, List.getElem_toArray, List.getElem_cons_zero, List.getElem_cons_succ, List.setIfInBounds_toArray, List.set_cons_zero, List.set_cons_succ])
        (refine wpAnyH_take (i := 3) (v := ?_) rfl (by kernel_rfl) (by kernel_rfl) (by kernel_rfl) (fun _ _ _ h => h) (Or.inl ⟨by rfl, by intro w hSw; (try dsimp only at hSw); go_simp; try with_reducible rfl⟩) (by assumption) ?_; try simp only [Act.put, List.getElem_toArray, List.getElem_cons_zero, List.getElem_cons_succ, List.setIfInBounds_toArray, List.set_cons_zero, List.set_cons_succ])
        (refine wpAnyH_take (i := 4) (v := undef) rfl (by kernel_rfl) (by kernel_rfl) (by kernel_rfl) (fun _ _ _ h => h) (Or.inr ⟨by rfl, rfl⟩) (by assumption) ?_; try simp only [Act.put, List.getElem_toArray, List.getElem_cons_zero, List.getElem_cons_succ, List.setIfInBounds_toArray, List.set_cons_zero, List.set_cons_succ])
        (refine wpAnyH_take (i := 5) (v := undef) rfl (by kernel_rfl) (by kernel_rfl) (by kernel_rfl) (fun _ _ _ h => h) (Or.inr ⟨by rfl, rfl⟩) (by assumption) ?_; try simp only [Act.put, List.getElem_toArray, List.getElem_cons_zero, List.getElem_cons_succ, List.setIfInBounds_toArray, List.set_cons_zero, List.set_cons_succ])
        (refine wpAnyH_take (i := 6) (v := undef) rfl (by kernel_rfl) (by kernel_rfl) (by kernel_rfl) (fun _ _ _ h => h) (Or.inr ⟨by rfl, rfl⟩) (by assumption) ?_; try simp only [Act.put, List.getElem_toArray, List.getElem_cons_zero, List.getElem_cons_succ, List.setIfInBounds_toArray, List.set_cons_zero, List.set_cons_succ])
        (refine wpAnyH_take (i := 7) (v := undef) rfl (by kernel_rfl) (by kernel_rfl) (by kernel_rfl) (fun _ _ _ h => h) (Or.inr ⟨by rfl, rfl⟩) (by assumption) ?_; try simp only [Act.put, List.getElem_toArray, List.getElem_cons_zero, List.getElem_cons_succ, List.setIfInBounds_toArray, List.set_cons_zero, List.set_cons_succ])
        (refine wpAnyH_take (i := 8) (v := ?_) rfl (by kernel_rfl) (by kernel_rfl) (by kernel_rfl) (fun _ _ _ h => h) (Or.inl ⟨by rfl, by intro w hSw; (try dsimp only at hSw); go_simp; try with_reducible rfl⟩) (by assumption) ?_; try simp only [Act.put, List.getElem_toArray, List.getElem_cons_zero, List.getElem_cons_succ, List.setIfInBounds_toArray, List.set_cons_zero, List.set_cons_succ])
        obtain ⟨fq, hq5⟩ := hHeld.2.2.2.1
        have q0 := hq5.cell (show 0 < 3 by omega)
        have q1 := hq5.cell (show 1 < 3 by omega)
        have q2 := hq5.cell (show 2 < 3 by omega)
        have f0 := hq5.frozen (show 0 < 3 by omega)
        have f1 := hq5.frozen (show 1 < 3 by omega)
        have f2 := hq5.frozen (show 2 < 3 by omega)
        have HS6 := Lib.hid (hst _ 2 (.slice none 0 0) (hst _ 1 (.int .i64 b) (hst _ 0 (.int .i64 a) hHeld (by omega)) (by omega)) (by omega))
        have HH5 := Lib.hid hHeld
        clear hst hq5
        (refine wpAnyH_ready (rs := [9]) (by kernel_rfl) (by simp) (AllReadyH.cons rfl (fun K hK => ?_) AllReadyH.nil); rw [if_pos (by rfl)]; simp only [List.getElem_toArray, List.getElem_cons_zero, List.getElem_cons_succ]; go_wp2_with (fail); refine hK.out _ _ HS6.out (fun hHeld => ?_); clear hK K; try simp only [Act.put, List.getElem_toArray, List.getElem_cons_zero, List.getElem_cons_succ, List.setIfInBounds_toArray, List.set_cons_zero, List.set_cons_succ])
        (refine wpAnyH_take (i := 10) (v := ?_) rfl (by kernel_rfl) (by kernel_rfl) (by kernel_rfl) (fun _ _ _ h => h) (Or.inl ⟨by rfl, by intro w hSw; (try dsimp only at hSw); go_simp; try with_reducible rfl⟩) (by assumption) ?_; try simp only [Act.put, List.getElem_toArray, List.getElem_cons_zero, List.getElem_cons_succ, List.setIfInBounds_toArray, List.set_cons_zero, List.set_cons_succ])
        refine wpAnyH_done (by kernel_rfl) ?_ _
        go_wp2_with fail
        refine bodyPost_ret (v := .tuple #[.agg #[.int .i64 a, .int .i64 b, .slice none 0 0], .bool false]) (by simp [results, Tryd.results51, go_sem, q0, q1, q2]) rfl ?_
        exact ⟨a, b, 0, none, 0, by rw [HD.out], ⟨(fun h => by rw [HD.out] at h; cases h), HS6.out.2.2.2.2.2⟩⟩
      · by_cases hes : pzU a b [] 0 = s
        · have HD : Hid (zzB s = true) := Lib.hid (by rw [HSE.out, HX9.out, decide_eq_true hes]; rfl)
          have HES := Lib.hid hes
          clear hes
          have hsame : (s.toList == s.toList) = true := beq_self_eq_true _
          go_wp2_with fail
          go_region_with (first
              | ((fail_if_success (have := HB5)); (try go_simp); go_at_call 42; refine (pzGood_any a b _ _ _ [] _ (by unfold maxLen; omega) ((HKC.out.argN HKL.out).below (bel_drew (Below.refl _ _)))).mono ?_; rw [HX9.out]; rintro e w5 ⟨rfl, hb5⟩
                 have HB5 := Lib.hid (below_undrew hb5)
                 have HT5 := Lib.hid (HT.out.call HB5.out)
                 have r0 : w5.cell? ⟨L, 0, none⟩ = some (.int .i64 a) := HT5.out.cell (show 0 < 3 by omega)
                 have r1 : w5.cell? ⟨L, 1, none⟩ = some (.int .i64 b) := HT5.out.cell (show 1 < 3 by omega)
                 have r2 : w5.cell? ⟨L, 2, none⟩ = some (.slice none 0 0) := HT5.out.cell (show 2 < 3 by omega)
                 clear hb5)
              | ((try go_simp); go_at_call 43; refine (pzText_any a b _ _ _ [] _ HX9.out ((HKC.out.argN HKL.out).below HB5.out)).mono ?_; rw [HES.out]; rintro e w6 ⟨rfl, hb6⟩
                 have HY3 : Below wc.heap.size wc w5 := HB5.out
                 have HY4 : Below w5.heap.size w5 w6 := hb6
                 have HB6 := Lib.hid (bel_call HY3 HY4)
                 have HT6 := Lib.hid (HT.out.call HB6.out)
                 have HQ6 := Lib.hid (HQ.out.call HB6.out)
                 have s0 : w6.cell? ⟨L, 0, none⟩ = some (.int .i64 a) := HT6.out.cell (show 0 < 3 by omega)
                 have s1 : w6.cell? ⟨L, 1, none⟩ = some (.int .i64 b) := HT6.out.cell (show 1 < 3 by omega)
                 have s2 : w6.cell? ⟨L, 2, none⟩ = some (.slice none 0 0) := HT6.out.cell (show 2 < 3 by omega)
                 have q0 := HQ6.out.cell (show 0 < 3 by omega)
                 have q1 := HQ6.out.cell (show 1 < 3 by omega)
                 have q2 := HQ6.out.cell (show 2 < 3 by omega)
                 have f0 := HQ6.out.frozen (show 0 < 3 by omega)
                 have f1 := HQ6.out.frozen (show 1 < 3 by omega)
                 have f2 := HQ6.out.frozen (show 2 < 3 by omega)
                 clear hb6 HY3 HY4))
          all_goals
            go_wp2_with fail
            refine bodyPost_ret (v := .tuple #[.agg #[.int .i64 a, .int .i64 b, .slice none 0 0], .bool true]) (by simp [results, Tryd.results51, go_sem, q0, q1, q2]) rfl ?_
            have h := HFIN.out _ HB6.out
            rw [HD.out] at h
            exact h
        · have HD : Hid (zzB s = false) := Lib.hid (by rw [HSE.out, HX9.out, decide_eq_false hes]; rfl)
          obtain ⟨u, hu⟩ : ∃ u, pzU a b [] 0 = u := ⟨_, rfl⟩
          have HES := Lib.hid hu
          have hsame : (u.toList == s.toList) = false := bytes_neP (by rw [← hu]; exact hes)
          clear hes hu
          go_wp2_with fail
          go_region_with (first
              | ((fail_if_success (have := HB5)); (try go_simp); go_at_call 42; refine (pzGood_any a b _ _ _ [] _ (by unfold maxLen; omega) ((HKC.out.argN HKL.out).below (bel_drew (Below.refl _ _)))).mono ?_; rw [HX9.out]; rintro e w5 ⟨rfl, hb5⟩
                 have HB5 := Lib.hid (below_undrew hb5)
                 have HT5 := Lib.hid (HT.out.call HB5.out)
                 have r0 : w5.cell? ⟨L, 0, none⟩ = some (.int .i64 a) := HT5.out.cell (show 0 < 3 by omega)
                 have r1 : w5.cell? ⟨L, 1, none⟩ = some (.int .i64 b) := HT5.out.cell (show 1 < 3 by omega)
                 have r2 : w5.cell? ⟨L, 2, none⟩ = some (.slice none 0 0) := HT5.out.cell (show 2 < 3 by omega)
                 clear hb5)
              | ((try go_simp); go_at_call 43; refine (pzText_any a b _ _ _ [] _ HX9.out ((HKC.out.argN HKL.out).below HB5.out)).mono ?_; rw [HES.out]; rintro e w6 ⟨rfl, hb6⟩
                 have HY3 : Below wc.heap.size wc w5 := HB5.out
                 have HY4 : Below w5.heap.size w5 w6 := hb6
                 have HB6 := Lib.hid (bel_call HY3 HY4)
                 have HT6 := Lib.hid (HT.out.call HB6.out)
                 have HQ6 := Lib.hid (HQ.out.call HB6.out)
                 have s0 : w6.cell? ⟨L, 0, none⟩ = some (.int .i64 a) := HT6.out.cell (show 0 < 3 by omega)
                 have s1 : w6.cell? ⟨L, 1, none⟩ = some (.int .i64 b) := HT6.out.cell (show 1 < 3 by omega)
                 have s2 : w6.cell? ⟨L, 2, none⟩ = some (.slice none 0 0) := HT6.out.cell (show 2 < 3 by omega)
                 have q0 := HQ6.out.cell (show 0 < 3 by omega)
                 have q1 := HQ6.out.cell (show 1 < 3 by omega)
                 have q2 := HQ6.out.cell (show 2 < 3 by omega)
                 have f0 := HQ6.out.frozen (show 0 < 3 by omega)
                 have f1 := HQ6.out.frozen (show 1 < 3 by omega)
                 have f2 := HQ6.out.frozen (show 2 < 3 by omega)
                 clear hb6 HY3 HY4))
          all_goals
            go_wp2_with fail
            refine bodyPost_ret (v := .tuple #[.agg #[.int .i64 a, .int .i64 b, .slice none 0 0], .bool false]) (by simp [results, Tryd.results51, go_sem, q0, q1, q2]) rfl ?_
            have h := HFIN.out _ HB6.out
            rw [HD.out] at h
            exact h
    · have hti : (0 : Int) < (t.size : Int) := by omega
      obtain ⟨i0, hi, hy0i, hyy1, hy2i⟩ := info_parts info_clue
      have HPP : Hid (zzB s = true → (zzK s).length = (spA 44 t).length ∧ ∀ k, k < (spA 44 t).length → ∃ c, cluOk c ∧ (spA 44 t).getD k ByteArray.empty = clT c ∧ (zzK s).take (k + 1) = (zzK s).take k ++ [c]) := Lib.hid (fun hz => zz_parts (HTT.out hz) ht0 hz)
      obtain ⟨n, hnl⟩ : ∃ n, (spA 44 t).length = n := ⟨_, rfl⟩
      have HNL := Lib.hid hnl
      have hn0 := spA_size 44 t
      have hn1 : n ≤ 101 := by omega
      have HPT := Lib.hid (spA_part 44 t)
      rw [hnl] at HPP
      clear hnl hn0 ht0 HTT
      go_wp2_with (first
        | (go_at_call 70; refine (l1SplitC_any t 44 44 (by decide) (by omega) _).mono ?_; rw [HNL.out]; rintro e w5 ⟨V, c5, rfl, hV, hS5, hc5, hb5⟩
           have S5 := Lib.hid hS5
           have T5 := Lib.hid (HT.out.call hb5)
           have Q5 := Lib.hid (HQ.out.call hb5)
           have B5 := Lib.hid (bel_call HB.out hb5)
           have hz5 : V + 1 ≤ w5.heap.size := hS5.lt
           have hLV : L < V := by omega
           clear hS5 hb5 hV))
      clear o1 hti hc5
      go_loopw [49] (fun i wr => ∃ (k : Nat) (v : Value) (cs : List Clu), k ≤ n ∧ i = .int .i64 (k : Nat) ∧ cs.length = k ∧ (zzB s = true → cs = (zzK s).take k) ∧ Cells wr L 3 (g3F a b v) ∧ wr.ownsRow (V + 1) 77 3 v k (cv cs) ∧ Cells wr V n (strF (spA 44 t)) ∧ Cells wr w.heap.size 3 (g3F 0 0 (.slice none 0 0)) ∧ V + 1 ≤ wr.heap.size ∧ Below w.heap.size w wr) (fun i _ => n - (intOf i).toNat)
      case atStart => exact ⟨0, _, [], by omega, rfl, rfl, fun _ => rfl, T5.out, World.ownsRow_nil _ _ _ _, S5.out, Q5.out, hz5, B5.out⟩
      case round =>
        clear HT HU HQ HB S5 T5 Q5 B5 hz5
        obtain ⟨k, v, cs, hk, rfl, hcl, hcs, hT, hO, hS, hQ, hz, hB⟩ := hrel
        have HT := Lib.hid hT
        have HO := Lib.hid hO
        have HS := Lib.hid hS
        have HQ := Lib.hid hQ
        have HB := Lib.hid hB
        have HCL := Lib.hid hcl
        clear hT hO hS hQ hB
        by_cases hlt : k < n
        · have hts : ((spA 44 t).getD k ByteArray.empty).size ≤ 1048576 := by
            rw [List.getD, List.getElem?_eq_getElem (show k < (spA 44 t).length by rw [HNL.out]; exact hlt)]
            have := HPT.out _ (List.getElem_mem (show k < (spA 44 t).length by rw [HNL.out]; exact hlt))
            show ((spA 44 t)[k]'_).size ≤ _
            omega
          have o1 : wr.cell? ⟨V, k, none⟩ = some (.string ((spA 44 t).getD k ByteArray.empty)) := HS.out.cell hlt
          have HP : Hid (zzB s = true → ∃ c, cluOk c ∧ (spA 44 t).getD k ByteArray.empty = clT c ∧ (zzK s).take (k + 1) = cs ++ [c]) := Lib.hid (fun hz => by
            obtain ⟨c, h1, h2, h3⟩ := (HPP.out hz).2 k hlt
            exact ⟨c, h1, h2, by rw [hcs hz]; exact h3⟩)
          generalize (spA 44 t).getD k ByteArray.empty = p at hts o1 HP
          obtain ⟨Av, cV, rfl, _⟩ := own_kc HO.out HCL.out
          clear hcs
          by_cases hM : (spA 46 p).length = 3
          · obtain ⟨x0, x1, x2, he⟩ : ∃ x0 x1 x2, spA 46 p = [x0, x1, x2] := by
              match h3 : spA 46 p, hM with
              | [x0, x1, x2], _ => exact ⟨x0, x1, x2, rfl⟩
            have HE : Hid ((spA 46 p).length = 3 ∧ strF (spA 46 p) = strF [x0, x1, x2]) := Lib.hid (by rw [he]; exact ⟨rfl, rfl⟩)
            have hx0 : x0.size ≤ 1048576 := by have := spA_part 46 p x0 (by rw [he]; simp); omega
            have hx1' : x1.size ≤ 1048576 := by have := spA_part 46 p x1 (by rw [he]; simp); omega
            have hx2 : x2.size ≤ 1048576 := by have := spA_part 46 p x2 (by rw [he]; simp); omega
            have HC : Hid (∀ r0 r1 r2 : Int, (∀ n, 0 ≤ n → n ≤ 999 → x0 = numB n → r0 = n) → (∀ n, 0 ≤ n → n ≤ 999 → x1 = numB n → r1 = n) → (∀ n, 0 ≤ n → n ≤ 999 → x2 = numB n → r2 = n) → zzB s = true → cs ++ [(r0, r1, r2)] = (zzK s).take (k + 1)) := Lib.hid (fun r0 r1 r2 h0 h1 h2 hz => by
              obtain ⟨c, k1, k2, k3⟩ := HP.out hz
              rw [k3, zz_clue k1 k2 he h0 h1 h2])
            clear hM he HP
            go_wp2_with (first
              | (go_at_call 70; refine (l1SplitC_any p 46 46 (by decide) hts _).mono ?_; rw [HE.out.1, HE.out.2]; rintro e w4 ⟨G, c4, rfl, hG, hC4, hc4, hb4⟩
                 have HT4 := Lib.hid (HT.out.call hb4)
                 have HO4 := Lib.hid (rowv_kept HO.out hb4)
                 have HS4 := Lib.hid (HS.out.call hb4)
                 have HQ4 := Lib.hid (HQ.out.call hb4)
                 have HB4 := Lib.hid (bel_call HB.out hb4)
                 have P4 := Lib.hid hC4
                 have hGV : wr.heap.size ≤ G := hG
                 have hLG : L < G := by have := HT.out.lt; omega
                 have hz4 : V + 1 ≤ w4.heap.size := Nat.le_trans hz hb4.size
                 have u0 : w4.cell? ⟨G, 0, none⟩ = some (.string x0) := hC4.cell (show 0 < 3 by omega)
                 have u1 : w4.cell? ⟨G, 1, none⟩ = some (.string x1) := hC4.cell (show 1 < 3 by omega)
                 have u2 : w4.cell? ⟨G, 2, none⟩ = some (.string x2) := hC4.cell (show 2 < 3 by omega)
                 have um : w4.cell? ⟨L, 2, none⟩ = some (.slice Av k cV) := HT4.out.cell (show 2 < 3 by omega)
                 clear hC4 hb4 hG))
            have hS4 : (fun W => W.cell? ⟨G, 0, none⟩ = some (.string x0) ∧ W.cell? ⟨G, 1, none⟩ = some (.string x1) ∧ W.cell? ⟨G, 2, none⟩ = some (.string x2) ∧ G < W.heap.size) w4.drew := And.intro u0 (And.intro u1 (And.intro u2 P4.out.lt))
            refine wp_region_held_drew (S := (fun W => W.cell? ⟨G, 0, none⟩ = some (.string x0) ∧ W.cell? ⟨G, 1, none⟩ = some (.string x1) ∧ W.cell? ⟨G, 2, none⟩ = some (.string x2) ∧ G < W.heap.size)) (by kernel_rfl) hS4 (fun hHeld => ?_)
            (refine wpAnyH_take (i := 0) (v := ?_) rfl (by kernel_rfl) (by kernel_rfl) (by kernel_rfl) (fun _ _ _ h => h) (Or.inl ⟨by rfl, by intro w hSw; (try dsimp only at hSw); go_simp; try with_reducible rfl⟩) (by assumption) ?_; try simp only [Act.put, List.getElem_toArray, List.getElem_cons_zero, List.setIfInBounds_toArray, List.set_cons_zero, List.set_cons_succ])
            (refine wpAnyH_take (i := 2) (v := ?_) rfl (by kernel_rfl) (by kernel_rfl) (by kernel_rfl) (fun _ _ _ h => h) (Or.inl ⟨by rfl, by intro w hSw; (try dsimp only at hSw); go_simp; try with_reducible rfl⟩) (by assumption) ?_; try simp only [Act.put, List.getElem_toArray, List.getElem_cons_zero, List.getElem_cons_succ, List.setIfInBounds_toArray, List.set_cons_zero, List.set_cons_succ])
            (refine wpAnyH_take (i := 3) (v := ?_) rfl (by kernel_rfl) (by kernel_rfl) (by kernel_rfl) (fun _ _ _ h => h) (Or.inl ⟨by rfl, by intro w hSw; (try dsimp only at hSw); go_simp; try with_reducible rfl⟩) (by assumption) ?_; try simp only [Act.put, List.getElem_toArray, List.getElem_cons_zero, List.getElem_cons_succ, List.setIfInBounds_toArray, List.set_cons_zero, List.set_cons_succ])
            (refine wpAnyH_take (i := 4) (v := ?_) rfl (by kernel_rfl) (by kernel_rfl) (by kernel_rfl) (fun _ _ _ h => h) (Or.inl ⟨by rfl, by intro w hSw; (try dsimp only at hSw); go_simp; try with_reducible rfl⟩) (by assumption) ?_; try simp only [Act.put, List.getElem_toArray, List.getElem_cons_zero, List.getElem_cons_succ, List.setIfInBounds_toArray, List.set_cons_zero, List.set_cons_succ])
            (refine wpAnyH_take (i := 6) (v := ?_) rfl (by kernel_rfl) (by kernel_rfl) (by kernel_rfl) (fun _ _ _ h => h) (Or.inl ⟨by rfl, by intro w hSw; (try dsimp only at hSw); go_simp; try with_reducible rfl⟩) (by assumption) ?_; try simp only [Act.put, List.getElem_toArray, List.getElem_cons_zero, List.getElem_cons_succ, List.setIfInBounds_toArray, List.set_cons_zero, List.set_cons_succ])
            (refine wpAnyH_take (i := 7) (v := ?_) rfl (by kernel_rfl) (by kernel_rfl) (by kernel_rfl) (fun _ _ _ h => h) (Or.inl ⟨by rfl, by intro w hSw; (try dsimp only at hSw); go_simp; try with_reducible rfl⟩) (by assumption) ?_; try simp only [Act.put, List.getElem_toArray, List.getElem_cons_zero, List.getElem_cons_succ, List.setIfInBounds_toArray, List.set_cons_zero, List.set_cons_succ])
            (refine wpAnyH_take (i := 8) (v := ?_) rfl (by kernel_rfl) (by kernel_rfl) (by kernel_rfl) (fun _ _ _ h => h) (Or.inl ⟨by rfl, by intro w hSw; (try dsimp only at hSw); go_simp; try with_reducible rfl⟩) (by assumption) ?_; try simp only [Act.put, List.getElem_toArray, List.getElem_cons_zero, List.getElem_cons_succ, List.setIfInBounds_toArray, List.set_cons_zero, List.set_cons_succ])
            (refine wpAnyH_take (i := 10) (v := ?_) rfl (by kernel_rfl) (by kernel_rfl) (by kernel_rfl) (fun _ _ _ h => h) (Or.inl ⟨by rfl, by intro w hSw; (try dsimp only at hSw); go_simp; try with_reducible rfl⟩) (by assumption) ?_; try simp only [Act.put, List.getElem_toArray, List.getElem_cons_zero, List.getElem_cons_succ, List.setIfInBounds_toArray, List.set_cons_zero, List.set_cons_succ])
            (refine wpAnyH_take (i := 11) (v := ?_) rfl (by kernel_rfl) (by kernel_rfl) (by kernel_rfl) (fun _ _ _ h => h) (Or.inl ⟨by rfl, by intro w hSw; (try dsimp only at hSw); go_simp; try with_reducible rfl⟩) (by assumption) ?_; try simp only [Act.put, List.getElem_toArray, List.getElem_cons_zero, List.getElem_cons_succ, List.setIfInBounds_toArray, List.set_cons_zero, List.set_cons_succ])
            (refine wpAnyH_take (i := 12) (v := ?_) rfl (by kernel_rfl) (by kernel_rfl) (by kernel_rfl) (fun _ _ _ h => h) (Or.inl ⟨by rfl, by intro w hSw; (try dsimp only at hSw); go_simp; try with_reducible rfl⟩) (by assumption) ?_; try simp only [Act.put, List.getElem_toArray, List.getElem_cons_zero, List.getElem_cons_succ, List.setIfInBounds_toArray, List.set_cons_zero, List.set_cons_succ])
            refine wpAnyH_ready (rs := [1, 5]) (by kernel_rfl) (by simp) (AllReadyH.cons rfl (fun K hK => ?_) (AllReadyH.cons rfl (fun K hK => ?_) AllReadyH.nil))
            · rw [if_pos (by rfl)]
              simp only [List.getElem_toArray, List.getElem_cons_zero, List.getElem_cons_succ]
              go_wp2_with fail
              refine hK.out _ _ hHeld (fun hHeld => ?_)
              clear hK K
              try simp only [Act.put, List.getElem_toArray, List.getElem_cons_zero, List.getElem_cons_succ, List.setIfInBounds_toArray, List.set_cons_zero, List.set_cons_succ]
              refine wpAnyH_ready (rs := [5]) (by kernel_rfl) (by simp) (AllReadyH.cons rfl (fun K hK => ?_) AllReadyH.nil)
              rw [if_pos (by rfl)]
              simp only [List.getElem_toArray, List.getElem_cons_zero, List.getElem_cons_succ]
              go_wp2_with (go_at_call 71; refine (l1Read_any x0 hx0 _).mono ?_; rintro e w5 ⟨r0, rfl, hr5, hb5⟩)
              have HBB : Hid (Below w4.heap.size w4 w5) := by first | exact Lib.hid (below_undrew hb5) | exact Lib.hid hb5
              have HR5 := Lib.hid hr5
              clear hr5 hb5
              have HT5 := Lib.hid (HT4.out.call HBB.out)
              have HO5 := Lib.hid (rowv_kept HO4.out HBB.out)
              have HS5 := Lib.hid (HS4.out.call HBB.out)
              have HQ5 := Lib.hid (HQ4.out.call HBB.out)
              have HB5 := Lib.hid (bel_call HB4.out HBB.out)
              have P5 := Lib.hid (P4.out.call HBB.out)
              have hz5 : V + 1 ≤ w5.heap.size := Nat.le_trans hz4 HBB.out.size
              have hS5 := And.intro (P5.out.cell (show 0 < 3 by omega)) (And.intro (P5.out.cell (show 1 < 3 by omega)) (And.intro (P5.out.cell (show 2 < 3 by omega)) P5.out.lt))
              have um5 : w5.cell? ⟨L, 2, none⟩ = some (.slice Av k cV) := HT5.out.cell (show 2 < 3 by omega)
              clear HBB
              refine hK.out _ _ hS5 (fun hHeld => ?_)
              clear hK K
              try simp only [Act.put, List.getElem_toArray, List.getElem_cons_zero, List.getElem_cons_succ, List.setIfInBounds_toArray, List.set_cons_zero, List.set_cons_succ]
              refine wpAnyH_ready (rs := [9]) (by kernel_rfl) (by simp) (AllReadyH.cons rfl (fun K hK => ?_) AllReadyH.nil)
              rw [if_pos (by rfl)]
              simp only [List.getElem_toArray, List.getElem_cons_zero, List.getElem_cons_succ]
              go_wp2_with (go_at_call 71; refine (l1Read_any x1 hx1' _).mono ?_; rintro e w6 ⟨r1, rfl, hr6, hb6⟩)
              have HBB : Hid (Below w5.heap.size w5 w6) := by first | exact Lib.hid (below_undrew hb6) | exact Lib.hid hb6
              have HR6 := Lib.hid hr6
              clear hr6 hb6
              have HT6 := Lib.hid (HT5.out.call HBB.out)
              have HO6 := Lib.hid (rowv_kept HO5.out HBB.out)
              have HS6 := Lib.hid (HS5.out.call HBB.out)
              have HQ6 := Lib.hid (HQ5.out.call HBB.out)
              have HB6 := Lib.hid (bel_call HB5.out HBB.out)
              have P6 := Lib.hid (P5.out.call HBB.out)
              have hz6 : V + 1 ≤ w6.heap.size := Nat.le_trans hz5 HBB.out.size
              have hS6 := And.intro (P6.out.cell (show 0 < 3 by omega)) (And.intro (P6.out.cell (show 1 < 3 by omega)) (And.intro (P6.out.cell (show 2 < 3 by omega)) P6.out.lt))
              have um6 : w6.cell? ⟨L, 2, none⟩ = some (.slice Av k cV) := HT6.out.cell (show 2 < 3 by omega)
              clear HBB
              refine hK.out _ _ hS6 (fun hHeld => ?_)
              clear hK K
              try simp only [Act.put, List.getElem_toArray, List.getElem_cons_zero, List.getElem_cons_succ, List.setIfInBounds_toArray, List.set_cons_zero, List.set_cons_succ]
              refine wpAnyH_ready (rs := [13]) (by kernel_rfl) (by simp) (AllReadyH.cons rfl (fun K hK => ?_) AllReadyH.nil)
              rw [if_pos (by rfl)]
              simp only [List.getElem_toArray, List.getElem_cons_zero, List.getElem_cons_succ]
              go_wp2_with (go_at_call 71; refine (l1Read_any x2 hx2 _).mono ?_; rintro e w7 ⟨r2, rfl, hr7, hb7⟩)
              have HBB : Hid (Below w6.heap.size w6 w7) := by first | exact Lib.hid (below_undrew hb7) | exact Lib.hid hb7
              have HR7 := Lib.hid hr7
              clear hr7 hb7
              have HT7 := Lib.hid (HT6.out.call HBB.out)
              have HO7 := Lib.hid (rowv_kept HO6.out HBB.out)
              have HS7 := Lib.hid (HS6.out.call HBB.out)
              have HQ7 := Lib.hid (HQ6.out.call HBB.out)
              have HB7 := Lib.hid (bel_call HB6.out HBB.out)
              have P7 := Lib.hid (P6.out.call HBB.out)
              have hz7 : V + 1 ≤ w7.heap.size := Nat.le_trans hz6 HBB.out.size
              have hS7 := And.intro (P7.out.cell (show 0 < 3 by omega)) (And.intro (P7.out.cell (show 1 < 3 by omega)) (And.intro (P7.out.cell (show 2 < 3 by omega)) P7.out.lt))
              have um7 : w7.cell? ⟨L, 2, none⟩ = some (.slice Av k cV) := HT7.out.cell (show 2 < 3 by omega)
              clear HBB
              refine hK.out _ _ hS7 (fun hHeld => ?_)
              clear hK K
              try simp only [Act.put, List.getElem_toArray, List.getElem_cons_zero, List.getElem_cons_succ, List.setIfInBounds_toArray, List.set_cons_zero, List.set_cons_succ]
              (refine wpAnyH_take (i := 14) (v := ?_) rfl (by kernel_rfl) (by kernel_rfl) (by kernel_rfl) (fun _ _ _ h => h) (Or.inl ⟨by rfl, by intro w hSw; (try dsimp only at hSw); go_simp; try with_reducible rfl⟩) (by assumption) ?_; try simp only [Act.put, List.getElem_toArray, List.getElem_cons_zero, List.getElem_cons_succ, List.setIfInBounds_toArray, List.set_cons_zero, List.set_cons_succ])
              refine wpAnyH_ready (rs := [15]) (by kernel_rfl) (by simp) (AllReadyH.cons rfl (fun K hK => ?_) AllReadyH.nil)
              rw [if_pos (by rfl)]
              simp only [List.getElem_toArray, List.getElem_cons_zero, List.getElem_cons_succ]
              go_wp2_with fail
              have HTa := Lib.hid (HT7.out.alloc (.cells #[.int .i64 r0, .int .i64 r1, .int .i64 r2] 77))
              have Pa := Lib.hid (P7.out.alloc (.cells #[.int .i64 r0, .int .i64 r1, .int .i64 r2] 77))
              have uma : (w7.alloc (.cells #[.int .i64 r0, .int .i64 r1, .int .i64 r2] 77)).cell? ⟨L, 2, none⟩ = some (.slice Av k cV) := HTa.out.cell (show 2 < 3 by omega)
              refine hK.out _ _ (And.intro (Pa.out.cell (show 0 < 3 by omega)) (And.intro (Pa.out.cell (show 1 < 3 by omega)) (And.intro (Pa.out.cell (show 2 < 3 by omega)) Pa.out.lt))) (fun hHeld => ?_)
              clear hK K
              try simp only [Act.put, List.getElem_toArray, List.getElem_cons_zero, List.getElem_cons_succ, List.setIfInBounds_toArray, List.set_cons_zero, List.set_cons_succ]
              refine wpAnyH_ready (rs := [16]) (by kernel_rfl) (by simp) (AllReadyH.cons rfl (fun K hK => ?_) AllReadyH.nil)
              refine step_appC rfl (.tmp 60) (.tmp 74) 44 rfl (V + 1) 77 i0 (.agg #[.int .i64 0, .int .i64 0, .int .i64 0]) 3 24 Tryd.underlying44 hi hy0i hyy1 hy2i rfl (by decide) (.slice Av k cV) k (cv cs) rfl (HO7.out.alloc _) ⟨w7.heap.size, 0, none⟩ 1 1 [.int .i64 r0, .int .i64 r1, .int .i64 r2] rfl rfl (news_c (Cells.new (n := 3) rfl rfl)) (one_c r0 r1 r2) (by unfold maxLen; omega) (by omega) (by simp; omega) ?_
              intro v9 w9 hown9 hgrow9
              have hO9 : w9.ownsRow (V + 1) 77 3 v9 (k + 1) (cv (cs ++ [(r0, r1, r2)])) := by rw [← cv_snoc]; exact hown9
              obtain ⟨A9, c9, rfl, _⟩ := own_kc hO9 (by rw [List.length_append, HCL.out]; rfl)
              have HO9 := Lib.hid hO9
              have HT9 := Lib.hid ((HT7.out.alloc _).keptC hgrow9 (fun e => by have := (HO7.out.lt L e).1; omega))
              have HS9 := Lib.hid ((HS7.out.alloc _).keptC hgrow9 (fun e => by have := (HO7.out.lt V e).1; omega))
              have HQ9 := Lib.hid ((HQ7.out.alloc _).keptC hgrow9 (fun e => by have := (HO7.out.lt w.heap.size e).1; omega))
              have P9 := Lib.hid ((P7.out.alloc _).keptC hgrow9 (fun e => by have h2 := (HO.out.lt G e).2; have := hGV; omega))
              have HB9 := Lib.hid ((HB7.out.alloc HB7.out.size (.cells #[.int .i64 r0, .int .i64 r1, .int .i64 r2] 77)).grown hgrow9 (by have := HB7.out.size; simp; omega) (fun j hj => by have := (HO7.out.lt j hj).1; omega))
              have y2 : w9.cell? ⟨L, 2, none⟩ = some (.slice Av k cV) := HT9.out.cell (show 2 < 3 by omega)
              have yf2 := HT9.out.frozen (show 2 < 3 by omega)
              have hz9 : V + 1 ≤ w9.heap.size := by have h1 := hgrow9.size; rw [World.size_alloc] at h1; omega
              have HCN := Lib.hid (HC.out r0 r1 r2 HR5.out HR6.out HR7.out)
              clear hown9 hgrow9 hO9
              refine hK.out _ _ (And.intro (P9.out.cell (show 0 < 3 by omega)) (And.intro (P9.out.cell (show 1 < 3 by omega)) (And.intro (P9.out.cell (show 2 < 3 by omega)) P9.out.lt))) (fun hHeld => ?_)
              clear hK K
              try simp only [Act.put, List.getElem_toArray, List.getElem_cons_zero, List.getElem_cons_succ, List.setIfInBounds_toArray, List.set_cons_zero, List.set_cons_succ]
              (refine wpAnyH_take (i := 17) (v := ?_) rfl (by kernel_rfl) (by kernel_rfl) (by kernel_rfl) (fun _ _ _ h => h) (Or.inl ⟨by rfl, by intro w hSw; (try dsimp only at hSw); go_simp; try with_reducible rfl⟩) (by assumption) ?_; try simp only [Act.put, List.getElem_toArray, List.getElem_cons_zero, List.getElem_cons_succ, List.setIfInBounds_toArray, List.set_cons_zero, List.set_cons_succ])
              refine wpAnyH_ready (rs := [18]) (by kernel_rfl) (by simp) (AllReadyH.cons rfl (fun K hK => ?_) AllReadyH.nil)
              rw [if_pos (by rfl)]
              simp only [List.getElem_toArray, List.getElem_cons_zero, List.getElem_cons_succ]
              go_wp2_with fail
              have PP := Lib.hid (P9.out.far (p := ⟨L, 2, none⟩) (by show L ≠ G; have := hLG; omega) (.slice A9 (k + 1) c9))
              refine hK.out _ _ (And.intro (PP.out.cell (show 0 < 3 by omega)) (And.intro (PP.out.cell (show 1 < 3 by omega)) (And.intro (PP.out.cell (show 2 < 3 by omega)) PP.out.lt))) (fun hHeld => ?_)
              clear hK K
              try simp only [Act.put, List.getElem_toArray, List.getElem_cons_zero, List.getElem_cons_succ, List.setIfInBounds_toArray, List.set_cons_zero, List.set_cons_succ]
              refine wpAnyH_done (by kernel_rfl) ?_ _
              go_wp2_with fail
              go_roundw
              case rel =>
                refine ⟨k + 1, .slice A9 (k + 1) c9, cs ++ [(r0, r1, r2)], by omega, by go_num, by rw [List.length_append, HCL.out]; rfl, HCN.out, (HT9.out.set_ (show 2 < 3 by omega) (.slice A9 (k + 1) c9)).congr (fun i hi3 => ?_), ?_, HS9.out.far (by show L ≠ V; omega) _, HQ9.out.far (by show L ≠ w.heap.size; omega) _, by rw [size_setCell]; exact hz9, HB9.out.setCell (by show w.heap.size ≤ L; omega) _⟩
                · have : i = 0 ∨ i = 1 ∨ i = 2 := by omega
                  rcases this with rfl | rfl | rfl <;> rfl
                · exact ownsRow_setCell_below HO9.out (by show L < V + 1; omega) _
              case measure => simp [intOf]; omega
            · rw [if_pos (by rfl)]
              simp only [List.getElem_toArray, List.getElem_cons_zero, List.getElem_cons_succ]
              go_wp2_with (go_at_call 71; refine (l1Read_any x0 hx0 _).mono ?_; rintro e w5 ⟨r0, rfl, hr5, hb5⟩)
              have HBB : Hid (Below w4.heap.size w4 w5) := by first | exact Lib.hid (below_undrew hb5) | exact Lib.hid hb5
              have HR5 := Lib.hid hr5
              clear hr5 hb5
              have HT5 := Lib.hid (HT4.out.call HBB.out)
              have HO5 := Lib.hid (rowv_kept HO4.out HBB.out)
              have HS5 := Lib.hid (HS4.out.call HBB.out)
              have HQ5 := Lib.hid (HQ4.out.call HBB.out)
              have HB5 := Lib.hid (bel_call HB4.out HBB.out)
              have P5 := Lib.hid (P4.out.call HBB.out)
              have hz5 : V + 1 ≤ w5.heap.size := Nat.le_trans hz4 HBB.out.size
              have hS5 := And.intro (P5.out.cell (show 0 < 3 by omega)) (And.intro (P5.out.cell (show 1 < 3 by omega)) (And.intro (P5.out.cell (show 2 < 3 by omega)) P5.out.lt))
              have um5 : w5.cell? ⟨L, 2, none⟩ = some (.slice Av k cV) := HT5.out.cell (show 2 < 3 by omega)
              clear HBB
              refine hK.out _ _ hS5 (fun hHeld => ?_)
              clear hK K
              try simp only [Act.put, List.getElem_toArray, List.getElem_cons_zero, List.getElem_cons_succ, List.setIfInBounds_toArray, List.set_cons_zero, List.set_cons_succ]
              refine wpAnyH_ready (rs := [1, 9]) (by kernel_rfl) (by simp) (AllReadyH.cons rfl (fun K hK => ?_) (AllReadyH.cons rfl (fun K hK => ?_) AllReadyH.nil))
              · rw [if_pos (by rfl)]
                simp only [List.getElem_toArray, List.getElem_cons_zero, List.getElem_cons_succ]
                go_wp2_with fail
                refine hK.out _ _ hHeld (fun hHeld => ?_)
                clear hK K
                try simp only [Act.put, List.getElem_toArray, List.getElem_cons_zero, List.getElem_cons_succ, List.setIfInBounds_toArray, List.set_cons_zero, List.set_cons_succ]
                refine wpAnyH_ready (rs := [9]) (by kernel_rfl) (by simp) (AllReadyH.cons rfl (fun K hK => ?_) AllReadyH.nil)
                rw [if_pos (by rfl)]
                simp only [List.getElem_toArray, List.getElem_cons_zero, List.getElem_cons_succ]
                go_wp2_with (go_at_call 71; refine (l1Read_any x1 hx1' _).mono ?_; rintro e w6 ⟨r1, rfl, hr6, hb6⟩)
                have HBB : Hid (Below w5.heap.size w5 w6) := by first | exact Lib.hid (below_undrew hb6) | exact Lib.hid hb6
                have HR6 := Lib.hid hr6
                clear hr6 hb6
                have HT6 := Lib.hid (HT5.out.call HBB.out)
                have HO6 := Lib.hid (rowv_kept HO5.out HBB.out)
                have HS6 := Lib.hid (HS5.out.call HBB.out)
                have HQ6 := Lib.hid (HQ5.out.call HBB.out)
                have HB6 := Lib.hid (bel_call HB5.out HBB.out)
                have P6 := Lib.hid (P5.out.call HBB.out)
                have hz6 : V + 1 ≤ w6.heap.size := Nat.le_trans hz5 HBB.out.size
                have hS6 := And.intro (P6.out.cell (show 0 < 3 by omega)) (And.intro (P6.out.cell (show 1 < 3 by omega)) (And.intro (P6.out.cell (show 2 < 3 by omega)) P6.out.lt))
                have um6 : w6.cell? ⟨L, 2, none⟩ = some (.slice Av k cV) := HT6.out.cell (show 2 < 3 by omega)
                clear HBB
                refine hK.out _ _ hS6 (fun hHeld => ?_)
                clear hK K
                try simp only [Act.put, List.getElem_toArray, List.getElem_cons_zero, List.getElem_cons_succ, List.setIfInBounds_toArray, List.set_cons_zero, List.set_cons_succ]
                refine wpAnyH_ready (rs := [13]) (by kernel_rfl) (by simp) (AllReadyH.cons rfl (fun K hK => ?_) AllReadyH.nil)
                rw [if_pos (by rfl)]
                simp only [List.getElem_toArray, List.getElem_cons_zero, List.getElem_cons_succ]
                go_wp2_with (go_at_call 71; refine (l1Read_any x2 hx2 _).mono ?_; rintro e w7 ⟨r2, rfl, hr7, hb7⟩)
                have HBB : Hid (Below w6.heap.size w6 w7) := by first | exact Lib.hid (below_undrew hb7) | exact Lib.hid hb7
                have HR7 := Lib.hid hr7
                clear hr7 hb7
                have HT7 := Lib.hid (HT6.out.call HBB.out)
                have HO7 := Lib.hid (rowv_kept HO6.out HBB.out)
                have HS7 := Lib.hid (HS6.out.call HBB.out)
                have HQ7 := Lib.hid (HQ6.out.call HBB.out)
                have HB7 := Lib.hid (bel_call HB6.out HBB.out)
                have P7 := Lib.hid (P6.out.call HBB.out)
                have hz7 : V + 1 ≤ w7.heap.size := Nat.le_trans hz6 HBB.out.size
                have hS7 := And.intro (P7.out.cell (show 0 < 3 by omega)) (And.intro (P7.out.cell (show 1 < 3 by omega)) (And.intro (P7.out.cell (show 2 < 3 by omega)) P7.out.lt))
                have um7 : w7.cell? ⟨L, 2, none⟩ = some (.slice Av k cV) := HT7.out.cell (show 2 < 3 by omega)
                clear HBB
                refine hK.out _ _ hS7 (fun hHeld => ?_)
                clear hK K
                try simp only [Act.put, List.getElem_toArray, List.getElem_cons_zero, List.getElem_cons_succ, List.setIfInBounds_toArray, List.set_cons_zero, List.set_cons_succ]
                (refine wpAnyH_take (i := 14) (v := ?_) rfl (by kernel_rfl) (by kernel_rfl) (by kernel_rfl) (fun _ _ _ h => h) (Or.inl ⟨by rfl, by intro w hSw; (try dsimp only at hSw); go_simp; try with_reducible rfl⟩) (by assumption) ?_; try simp only [Act.put, List.getElem_toArray, List.getElem_cons_zero, List.getElem_cons_succ, List.setIfInBounds_toArray, List.set_cons_zero, List.set_cons_succ])
                refine wpAnyH_ready (rs := [15]) (by kernel_rfl) (by simp) (AllReadyH.cons rfl (fun K hK => ?_) AllReadyH.nil)
                rw [if_pos (by rfl)]
                simp only [List.getElem_toArray, List.getElem_cons_zero, List.getElem_cons_succ]
                go_wp2_with fail
                have HTa := Lib.hid (HT7.out.alloc (.cells #[.int .i64 r0, .int .i64 r1, .int .i64 r2] 77))
                have Pa := Lib.hid (P7.out.alloc (.cells #[.int .i64 r0, .int .i64 r1, .int .i64 r2] 77))
                have uma : (w7.alloc (.cells #[.int .i64 r0, .int .i64 r1, .int .i64 r2] 77)).cell? ⟨L, 2, none⟩ = some (.slice Av k cV) := HTa.out.cell (show 2 < 3 by omega)
                refine hK.out _ _ (And.intro (Pa.out.cell (show 0 < 3 by omega)) (And.intro (Pa.out.cell (show 1 < 3 by omega)) (And.intro (Pa.out.cell (show 2 < 3 by omega)) Pa.out.lt))) (fun hHeld => ?_)
                clear hK K
                try simp only [Act.put, List.getElem_toArray, List.getElem_cons_zero, List.getElem_cons_succ, List.setIfInBounds_toArray, List.set_cons_zero, List.set_cons_succ]
                refine wpAnyH_ready (rs := [16]) (by kernel_rfl) (by simp) (AllReadyH.cons rfl (fun K hK => ?_) AllReadyH.nil)
                refine step_appC rfl (.tmp 60) (.tmp 74) 44 rfl (V + 1) 77 i0 (.agg #[.int .i64 0, .int .i64 0, .int .i64 0]) 3 24 Tryd.underlying44 hi hy0i hyy1 hy2i rfl (by decide) (.slice Av k cV) k (cv cs) rfl (HO7.out.alloc _) ⟨w7.heap.size, 0, none⟩ 1 1 [.int .i64 r0, .int .i64 r1, .int .i64 r2] rfl rfl (news_c (Cells.new (n := 3) rfl rfl)) (one_c r0 r1 r2) (by unfold maxLen; omega) (by omega) (by simp; omega) ?_
                intro v9 w9 hown9 hgrow9
                have hO9 : w9.ownsRow (V + 1) 77 3 v9 (k + 1) (cv (cs ++ [(r0, r1, r2)])) := by rw [← cv_snoc]; exact hown9
                obtain ⟨A9, c9, rfl, _⟩ := own_kc hO9 (by rw [List.length_append, HCL.out]; rfl)
                have HO9 := Lib.hid hO9
                have HT9 := Lib.hid ((HT7.out.alloc _).keptC hgrow9 (fun e => by have := (HO7.out.lt L e).1; omega))
                have HS9 := Lib.hid ((HS7.out.alloc _).keptC hgrow9 (fun e => by have := (HO7.out.lt V e).1; omega))
                have HQ9 := Lib.hid ((HQ7.out.alloc _).keptC hgrow9 (fun e => by have := (HO7.out.lt w.heap.size e).1; omega))
                have P9 := Lib.hid ((P7.out.alloc _).keptC hgrow9 (fun e => by have h2 := (HO.out.lt G e).2; have := hGV; omega))
                have HB9 := Lib.hid ((HB7.out.alloc HB7.out.size (.cells #[.int .i64 r0, .int .i64 r1, .int .i64 r2] 77)).grown hgrow9 (by have := HB7.out.size; simp; omega) (fun j hj => by have := (HO7.out.lt j hj).1; omega))
                have y2 : w9.cell? ⟨L, 2, none⟩ = some (.slice Av k cV) := HT9.out.cell (show 2 < 3 by omega)
                have yf2 := HT9.out.frozen (show 2 < 3 by omega)
                have hz9 : V + 1 ≤ w9.heap.size := by have h1 := hgrow9.size; rw [World.size_alloc] at h1; omega
                have HCN := Lib.hid (HC.out r0 r1 r2 HR5.out HR6.out HR7.out)
                clear hown9 hgrow9 hO9
                refine hK.out _ _ (And.intro (P9.out.cell (show 0 < 3 by omega)) (And.intro (P9.out.cell (show 1 < 3 by omega)) (And.intro (P9.out.cell (show 2 < 3 by omega)) P9.out.lt))) (fun hHeld => ?_)
                clear hK K
                try simp only [Act.put, List.getElem_toArray, List.getElem_cons_zero, List.getElem_cons_succ, List.setIfInBounds_toArray, List.set_cons_zero, List.set_cons_succ]
                (refine wpAnyH_take (i := 17) (v := ?_) rfl (by kernel_rfl) (by kernel_rfl) (by kernel_rfl) (fun _ _ _ h => h) (Or.inl ⟨by rfl, by intro w hSw; (try dsimp only at hSw); go_simp; try with_reducible rfl⟩) (by assumption) ?_; try simp only [Act.put, List.getElem_toArray, List.getElem_cons_zero, List.getElem_cons_succ, List.setIfInBounds_toArray, List.set_cons_zero, List.set_cons_succ])
                refine wpAnyH_ready (rs := [18]) (by kernel_rfl) (by simp) (AllReadyH.cons rfl (fun K hK => ?_) AllReadyH.nil)
                rw [if_pos (by rfl)]
                simp only [List.getElem_toArray, List.getElem_cons_zero, List.getElem_cons_succ]
                go_wp2_with fail
                have PP := Lib.hid (P9.out.far (p := ⟨L, 2, none⟩) (by show L ≠ G; have := hLG; omega) (.slice A9 (k + 1) c9))
                refine hK.out _ _ (And.intro (PP.out.cell (show 0 < 3 by omega)) (And.intro (PP.out.cell (show 1 < 3 by omega)) (And.intro (PP.out.cell (show 2 < 3 by omega)) PP.out.lt))) (fun hHeld => ?_)
                clear hK K
                try simp only [Act.put, List.getElem_toArray, List.getElem_cons_zero, List.getElem_cons_succ, List.setIfInBounds_toArray, List.set_cons_zero, List.set_cons_succ]
                refine wpAnyH_done (by kernel_rfl) ?_ _
                go_wp2_with fail
                go_roundw
                case rel =>
                  refine ⟨k + 1, .slice A9 (k + 1) c9, cs ++ [(r0, r1, r2)], by omega, by go_num, by rw [List.length_append, HCL.out]; rfl, HCN.out, (HT9.out.set_ (show 2 < 3 by omega) (.slice A9 (k + 1) c9)).congr (fun i hi3 => ?_), ?_, HS9.out.far (by show L ≠ V; omega) _, HQ9.out.far (by show L ≠ w.heap.size; omega) _, by rw [size_setCell]; exact hz9, HB9.out.setCell (by show w.heap.size ≤ L; omega) _⟩
                  · have : i = 0 ∨ i = 1 ∨ i = 2 := by omega
                    rcases this with rfl | rfl | rfl <;> rfl
                  · exact ownsRow_setCell_below HO9.out (by show L < V + 1; omega) _
                case measure => simp [intOf]; omega
              · rw [if_pos (by rfl)]
                simp only [List.getElem_toArray, List.getElem_cons_zero, List.getElem_cons_succ]
                go_wp2_with (go_at_call 71; refine (l1Read_any x1 hx1' _).mono ?_; rintro e w6 ⟨r1, rfl, hr6, hb6⟩)
                have HBB : Hid (Below w5.heap.size w5 w6) := by first | exact Lib.hid (below_undrew hb6) | exact Lib.hid hb6
                have HR6 := Lib.hid hr6
                clear hr6 hb6
                have HT6 := Lib.hid (HT5.out.call HBB.out)
                have HO6 := Lib.hid (rowv_kept HO5.out HBB.out)
                have HS6 := Lib.hid (HS5.out.call HBB.out)
                have HQ6 := Lib.hid (HQ5.out.call HBB.out)
                have HB6 := Lib.hid (bel_call HB5.out HBB.out)
                have P6 := Lib.hid (P5.out.call HBB.out)
                have hz6 : V + 1 ≤ w6.heap.size := Nat.le_trans hz5 HBB.out.size
                have hS6 := And.intro (P6.out.cell (show 0 < 3 by omega)) (And.intro (P6.out.cell (show 1 < 3 by omega)) (And.intro (P6.out.cell (show 2 < 3 by omega)) P6.out.lt))
                have um6 : w6.cell? ⟨L, 2, none⟩ = some (.slice Av k cV) := HT6.out.cell (show 2 < 3 by omega)
                clear HBB
                refine hK.out _ _ hS6 (fun hHeld => ?_)
                clear hK K
                try simp only [Act.put, List.getElem_toArray, List.getElem_cons_zero, List.getElem_cons_succ, List.setIfInBounds_toArray, List.set_cons_zero, List.set_cons_succ]
                refine wpAnyH_ready (rs := [1, 13]) (by kernel_rfl) (by simp) (AllReadyH.cons rfl (fun K hK => ?_) (AllReadyH.cons rfl (fun K hK => ?_) AllReadyH.nil))
                · rw [if_pos (by rfl)]
                  simp only [List.getElem_toArray, List.getElem_cons_zero, List.getElem_cons_succ]
                  go_wp2_with fail
                  refine hK.out _ _ hHeld (fun hHeld => ?_)
                  clear hK K
                  try simp only [Act.put, List.getElem_toArray, List.getElem_cons_zero, List.getElem_cons_succ, List.setIfInBounds_toArray, List.set_cons_zero, List.set_cons_succ]
                  refine wpAnyH_ready (rs := [13]) (by kernel_rfl) (by simp) (AllReadyH.cons rfl (fun K hK => ?_) AllReadyH.nil)
                  rw [if_pos (by rfl)]
                  simp only [List.getElem_toArray, List.getElem_cons_zero, List.getElem_cons_succ]
                  go_wp2_with (go_at_call 71; refine (l1Read_any x2 hx2 _).mono ?_; rintro e w7 ⟨r2, rfl, hr7, hb7⟩)
                  have HBB : Hid (Below w6.heap.size w6 w7) := by first | exact Lib.hid (below_undrew hb7) | exact Lib.hid hb7
                  have HR7 := Lib.hid hr7
                  clear hr7 hb7
                  have HT7 := Lib.hid (HT6.out.call HBB.out)
                  have HO7 := Lib.hid (rowv_kept HO6.out HBB.out)
                  have HS7 := Lib.hid (HS6.out.call HBB.out)
                  have HQ7 := Lib.hid (HQ6.out.call HBB.out)
                  have HB7 := Lib.hid (bel_call HB6.out HBB.out)
                  have P7 := Lib.hid (P6.out.call HBB.out)
                  have hz7 : V + 1 ≤ w7.heap.size := Nat.le_trans hz6 HBB.out.size
                  have hS7 := And.intro (P7.out.cell (show 0 < 3 by omega)) (And.intro (P7.out.cell (show 1 < 3 by omega)) (And.intro (P7.out.cell (show 2 < 3 by omega)) P7.out.lt))
                  have um7 : w7.cell? ⟨L, 2, none⟩ = some (.slice Av k cV) := HT7.out.cell (show 2 < 3 by omega)
                  clear HBB
                  refine hK.out _ _ hS7 (fun hHeld => ?_)
                  clear hK K
                  try simp only [Act.put, List.getElem_toArray, List.getElem_cons_zero, List.getElem_cons_succ, List.setIfInBounds_toArray, List.set_cons_zero, List.set_cons_succ]
                  (refine wpAnyH_take (i := 14) (v := ?_) rfl (by kernel_rfl) (by kernel_rfl) (by kernel_rfl) (fun _ _ _ h => h) (Or.inl ⟨by rfl, by intro w hSw; (try dsimp only at hSw); go_simp; try with_reducible rfl⟩) (by assumption) ?_; try simp only [Act.put, List.getElem_toArray, List.getElem_cons_zero, List.getElem_cons_succ, List.setIfInBounds_toArray, List.set_cons_zero, List.set_cons_succ])
                  refine wpAnyH_ready (rs := [15]) (by kernel_rfl) (by simp) (AllReadyH.cons rfl (fun K hK => ?_) AllReadyH.nil)
                  rw [if_pos (by rfl)]
                  simp only [List.getElem_toArray, List.getElem_cons_zero, List.getElem_cons_succ]
                  go_wp2_with fail
                  have HTa := Lib.hid (HT7.out.alloc (.cells #[.int .i64 r0, .int .i64 r1, .int .i64 r2] 77))
                  have Pa := Lib.hid (P7.out.alloc (.cells #[.int .i64 r0, .int .i64 r1, .int .i64 r2] 77))
                  have uma : (w7.alloc (.cells #[.int .i64 r0, .int .i64 r1, .int .i64 r2] 77)).cell? ⟨L, 2, none⟩ = some (.slice Av k cV) := HTa.out.cell (show 2 < 3 by omega)
                  refine hK.out _ _ (And.intro (Pa.out.cell (show 0 < 3 by omega)) (And.intro (Pa.out.cell (show 1 < 3 by omega)) (And.intro (Pa.out.cell (show 2 < 3 by omega)) Pa.out.lt))) (fun hHeld => ?_)
                  clear hK K
                  try simp only [Act.put, List.getElem_toArray, List.getElem_cons_zero, List.getElem_cons_succ, List.setIfInBounds_toArray, List.set_cons_zero, List.set_cons_succ]
                  refine wpAnyH_ready (rs := [16]) (by kernel_rfl) (by simp) (AllReadyH.cons rfl (fun K hK => ?_) AllReadyH.nil)
                  refine step_appC rfl (.tmp 60) (.tmp 74) 44 rfl (V + 1) 77 i0 (.agg #[.int .i64 0, .int .i64 0, .int .i64 0]) 3 24 Tryd.underlying44 hi hy0i hyy1 hy2i rfl (by decide) (.slice Av k cV) k (cv cs) rfl (HO7.out.alloc _) ⟨w7.heap.size, 0, none⟩ 1 1 [.int .i64 r0, .int .i64 r1, .int .i64 r2] rfl rfl (news_c (Cells.new (n := 3) rfl rfl)) (one_c r0 r1 r2) (by unfold maxLen; omega) (by omega) (by simp; omega) ?_
                  intro v9 w9 hown9 hgrow9
                  have hO9 : w9.ownsRow (V + 1) 77 3 v9 (k + 1) (cv (cs ++ [(r0, r1, r2)])) := by rw [← cv_snoc]; exact hown9
                  obtain ⟨A9, c9, rfl, _⟩ := own_kc hO9 (by rw [List.length_append, HCL.out]; rfl)
                  have HO9 := Lib.hid hO9
                  have HT9 := Lib.hid ((HT7.out.alloc _).keptC hgrow9 (fun e => by have := (HO7.out.lt L e).1; omega))
                  have HS9 := Lib.hid ((HS7.out.alloc _).keptC hgrow9 (fun e => by have := (HO7.out.lt V e).1; omega))
                  have HQ9 := Lib.hid ((HQ7.out.alloc _).keptC hgrow9 (fun e => by have := (HO7.out.lt w.heap.size e).1; omega))
                  have P9 := Lib.hid ((P7.out.alloc _).keptC hgrow9 (fun e => by have h2 := (HO.out.lt G e).2; have := hGV; omega))
                  have HB9 := Lib.hid ((HB7.out.alloc HB7.out.size (.cells #[.int .i64 r0, .int .i64 r1, .int .i64 r2] 77)).grown hgrow9 (by have := HB7.out.size; simp; omega) (fun j hj => by have := (HO7.out.lt j hj).1; omega))
                  have y2 : w9.cell? ⟨L, 2, none⟩ = some (.slice Av k cV) := HT9.out.cell (show 2 < 3 by omega)
                  have yf2 := HT9.out.frozen (show 2 < 3 by omega)
                  have hz9 : V + 1 ≤ w9.heap.size := by have h1 := hgrow9.size; rw [World.size_alloc] at h1; omega
                  have HCN := Lib.hid (HC.out r0 r1 r2 HR5.out HR6.out HR7.out)
                  clear hown9 hgrow9 hO9
                  refine hK.out _ _ (And.intro (P9.out.cell (show 0 < 3 by omega)) (And.intro (P9.out.cell (show 1 < 3 by omega)) (And.intro (P9.out.cell (show 2 < 3 by omega)) P9.out.lt))) (fun hHeld => ?_)
                  clear hK K
                  try simp only [Act.put, List.getElem_toArray, List.getElem_cons_zero, List.getElem_cons_succ, List.setIfInBounds_toArray, List.set_cons_zero, List.set_cons_succ]
                  (refine wpAnyH_take (i := 17) (v := ?_) rfl (by kernel_rfl) (by kernel_rfl) (by kernel_rfl) (fun _ _ _ h => h) (Or.inl ⟨by rfl, by intro w hSw; (try dsimp only at hSw); go_simp; try with_reducible rfl⟩) (by assumption) ?_; try simp only [Act.put, List.getElem_toArray, List.getElem_cons_zero, List.getElem_cons_succ, List.setIfInBounds_toArray, List.set_cons_zero, List.set_cons_succ])
                  refine wpAnyH_ready (rs := [18]) (by kernel_rfl) (by simp) (AllReadyH.cons rfl (fun K hK => ?_) AllReadyH.nil)
                  rw [if_pos (by rfl)]
                  simp only [List.getElem_toArray, List.getElem_cons_zero, List.getElem_cons_succ]
                  go_wp2_with fail
                  have PP := Lib.hid (P9.out.far (p := ⟨L, 2, none⟩) (by show L ≠ G; have := hLG; omega) (.slice A9 (k + 1) c9))
                  refine hK.out _ _ (And.intro (PP.out.cell (show 0 < 3 by omega)) (And.intro (PP.out.cell (show 1 < 3 by omega)) (And.intro (PP.out.cell (show 2 < 3 by omega)) PP.out.lt))) (fun hHeld => ?_)
                  clear hK K
                  try simp only [Act.put, List.getElem_toArray, List.getElem_cons_zero, List.getElem_cons_succ, List.setIfInBounds_toArray, List.set_cons_zero, List.set_cons_succ]
                  refine wpAnyH_done (by kernel_rfl) ?_ _
                  go_wp2_with fail
                  go_roundw
                  case rel =>
                    refine ⟨k + 1, .slice A9 (k + 1) c9, cs ++ [(r0, r1, r2)], by omega, by go_num, by rw [List.length_append, HCL.out]; rfl, HCN.out, (HT9.out.set_ (show 2 < 3 by omega) (.slice A9 (k + 1) c9)).congr (fun i hi3 => ?_), ?_, HS9.out.far (by show L ≠ V; omega) _, HQ9.out.far (by show L ≠ w.heap.size; omega) _, by rw [size_setCell]; exact hz9, HB9.out.setCell (by show w.heap.size ≤ L; omega) _⟩
                    · have : i = 0 ∨ i = 1 ∨ i = 2 := by omega
                      rcases this with rfl | rfl | rfl <;> rfl
                    · exact ownsRow_setCell_below HO9.out (by show L < V + 1; omega) _
                  case measure => simp [intOf]; omega
                · rw [if_pos (by rfl)]
                  simp only [List.getElem_toArray, List.getElem_cons_zero, List.getElem_cons_succ]
                  go_wp2_with (go_at_call 71; refine (l1Read_any x2 hx2 _).mono ?_; rintro e w7 ⟨r2, rfl, hr7, hb7⟩)
                  have HBB : Hid (Below w6.heap.size w6 w7) := by first | exact Lib.hid (below_undrew hb7) | exact Lib.hid hb7
                  have HR7 := Lib.hid hr7
                  clear hr7 hb7
                  have HT7 := Lib.hid (HT6.out.call HBB.out)
                  have HO7 := Lib.hid (rowv_kept HO6.out HBB.out)
                  have HS7 := Lib.hid (HS6.out.call HBB.out)
                  have HQ7 := Lib.hid (HQ6.out.call HBB.out)
                  have HB7 := Lib.hid (bel_call HB6.out HBB.out)
                  have P7 := Lib.hid (P6.out.call HBB.out)
                  have hz7 : V + 1 ≤ w7.heap.size := Nat.le_trans hz6 HBB.out.size
                  have hS7 := And.intro (P7.out.cell (show 0 < 3 by omega)) (And.intro (P7.out.cell (show 1 < 3 by omega)) (And.intro (P7.out.cell (show 2 < 3 by omega)) P7.out.lt))
                  have um7 : w7.cell? ⟨L, 2, none⟩ = some (.slice Av k cV) := HT7.out.cell (show 2 < 3 by omega)
                  clear HBB
                  refine hK.out _ _ hS7 (fun hHeld => ?_)
                  clear hK K
                  try simp only [Act.put, List.getElem_toArray, List.getElem_cons_zero, List.getElem_cons_succ, List.setIfInBounds_toArray, List.set_cons_zero, List.set_cons_succ]
                  (refine wpAnyH_take (i := 14) (v := ?_) rfl (by kernel_rfl) (by kernel_rfl) (by kernel_rfl) (fun _ _ _ h => h) (Or.inl ⟨by rfl, by intro w hSw; (try dsimp only at hSw); go_simp; try with_reducible rfl⟩) (by assumption) ?_; try simp only [Act.put, List.getElem_toArray, List.getElem_cons_zero, List.getElem_cons_succ, List.setIfInBounds_toArray, List.set_cons_zero, List.set_cons_succ])
                  refine wpAnyH_ready (rs := [1, 15]) (by kernel_rfl) (by simp) (AllReadyH.cons rfl (fun K hK => ?_) (AllReadyH.cons rfl (fun K hK => ?_) AllReadyH.nil))
                  · rw [if_pos (by rfl)]
                    simp only [List.getElem_toArray, List.getElem_cons_zero, List.getElem_cons_succ]
                    go_wp2_with fail
                    refine hK.out _ _ hHeld (fun hHeld => ?_)
                    clear hK K
                    try simp only [Act.put, List.getElem_toArray, List.getElem_cons_zero, List.getElem_cons_succ, List.setIfInBounds_toArray, List.set_cons_zero, List.set_cons_succ]
                    refine wpAnyH_ready (rs := [15]) (by kernel_rfl) (by simp) (AllReadyH.cons rfl (fun K hK => ?_) AllReadyH.nil)
                    rw [if_pos (by rfl)]
                    simp only [List.getElem_toArray, List.getElem_cons_zero, List.getElem_cons_succ]
                    go_wp2_with fail
                    have HTa := Lib.hid (HT7.out.alloc (.cells #[.int .i64 r0, .int .i64 r1, .int .i64 r2] 77))
                    have Pa := Lib.hid (P7.out.alloc (.cells #[.int .i64 r0, .int .i64 r1, .int .i64 r2] 77))
                    have uma : (w7.alloc (.cells #[.int .i64 r0, .int .i64 r1, .int .i64 r2] 77)).cell? ⟨L, 2, none⟩ = some (.slice Av k cV) := HTa.out.cell (show 2 < 3 by omega)
                    refine hK.out _ _ (And.intro (Pa.out.cell (show 0 < 3 by omega)) (And.intro (Pa.out.cell (show 1 < 3 by omega)) (And.intro (Pa.out.cell (show 2 < 3 by omega)) Pa.out.lt))) (fun hHeld => ?_)
                    clear hK K
                    try simp only [Act.put, List.getElem_toArray, List.getElem_cons_zero, List.getElem_cons_succ, List.setIfInBounds_toArray, List.set_cons_zero, List.set_cons_succ]
                    refine wpAnyH_ready (rs := [16]) (by kernel_rfl) (by simp) (AllReadyH.cons rfl (fun K hK => ?_) AllReadyH.nil)
                    refine step_appC rfl (.tmp 60) (.tmp 74) 44 rfl (V + 1) 77 i0 (.agg #[.int .i64 0, .int .i64 0, .int .i64 0]) 3 24 Tryd.underlying44 hi hy0i hyy1 hy2i rfl (by decide) (.slice Av k cV) k (cv cs) rfl (HO7.out.alloc _) ⟨w7.heap.size, 0, none⟩ 1 1 [.int .i64 r0, .int .i64 r1, .int .i64 r2] rfl rfl (news_c (Cells.new (n := 3) rfl rfl)) (one_c r0 r1 r2) (by unfold maxLen; omega) (by omega) (by simp; omega) ?_
                    intro v9 w9 hown9 hgrow9
                    have hO9 : w9.ownsRow (V + 1) 77 3 v9 (k + 1) (cv (cs ++ [(r0, r1, r2)])) := by rw [← cv_snoc]; exact hown9
                    obtain ⟨A9, c9, rfl, _⟩ := own_kc hO9 (by rw [List.length_append, HCL.out]; rfl)
                    have HO9 := Lib.hid hO9
                    have HT9 := Lib.hid ((HT7.out.alloc _).keptC hgrow9 (fun e => by have := (HO7.out.lt L e).1; omega))
                    have HS9 := Lib.hid ((HS7.out.alloc _).keptC hgrow9 (fun e => by have := (HO7.out.lt V e).1; omega))
                    have HQ9 := Lib.hid ((HQ7.out.alloc _).keptC hgrow9 (fun e => by have := (HO7.out.lt w.heap.size e).1; omega))
                    have P9 := Lib.hid ((P7.out.alloc _).keptC hgrow9 (fun e => by have h2 := (HO.out.lt G e).2; have := hGV; omega))
                    have HB9 := Lib.hid ((HB7.out.alloc HB7.out.size (.cells #[.int .i64 r0, .int .i64 r1, .int .i64 r2] 77)).grown hgrow9 (by have := HB7.out.size; simp; omega) (fun j hj => by have := (HO7.out.lt j hj).1; omega))
                    have y2 : w9.cell? ⟨L, 2, none⟩ = some (.slice Av k cV) := HT9.out.cell (show 2 < 3 by omega)
                    have yf2 := HT9.out.frozen (show 2 < 3 by omega)
                    have hz9 : V + 1 ≤ w9.heap.size := by have h1 := hgrow9.size; rw [World.size_alloc] at h1; omega
                    have HCN := Lib.hid (HC.out r0 r1 r2 HR5.out HR6.out HR7.out)
                    clear hown9 hgrow9 hO9
                    refine hK.out _ _ (And.intro (P9.out.cell (show 0 < 3 by omega)) (And.intro (P9.out.cell (show 1 < 3 by omega)) (And.intro (P9.out.cell (show 2 < 3 by omega)) P9.out.lt))) (fun hHeld => ?_)
                    clear hK K
                    try simp only [Act.put, List.getElem_toArray, List.getElem_cons_zero, List.getElem_cons_succ, List.setIfInBounds_toArray, List.set_cons_zero, List.set_cons_succ]
                    (refine wpAnyH_take (i := 17) (v := ?_) rfl (by kernel_rfl) (by kernel_rfl) (by kernel_rfl) (fun _ _ _ h => h) (Or.inl ⟨by rfl, by intro w hSw; (try dsimp only at hSw); go_simp; try with_reducible rfl⟩) (by assumption) ?_; try simp only [Act.put, List.getElem_toArray, List.getElem_cons_zero, List.getElem_cons_succ, List.setIfInBounds_toArray, List.set_cons_zero, List.set_cons_succ])
                    refine wpAnyH_ready (rs := [18]) (by kernel_rfl) (by simp) (AllReadyH.cons rfl (fun K hK => ?_) AllReadyH.nil)
                    rw [if_pos (by rfl)]
                    simp only [List.getElem_toArray, List.getElem_cons_zero, List.getElem_cons_succ]
                    go_wp2_with fail
                    have PP := Lib.hid (P9.out.far (p := ⟨L, 2, none⟩) (by show L ≠ G; have := hLG; omega) (.slice A9 (k + 1) c9))
                    refine hK.out _ _ (And.intro (PP.out.cell (show 0 < 3 by omega)) (And.intro (PP.out.cell (show 1 < 3 by omega)) (And.intro (PP.out.cell (show 2 < 3 by omega)) PP.out.lt))) (fun hHeld => ?_)
                    clear hK K
                    try simp only [Act.put, List.getElem_toArray, List.getElem_cons_zero, List.getElem_cons_succ, List.setIfInBounds_toArray, List.set_cons_zero, List.set_cons_succ]
                    refine wpAnyH_done (by kernel_rfl) ?_ _
                    go_wp2_with fail
                    go_roundw
                    case rel =>
                      refine ⟨k + 1, .slice A9 (k + 1) c9, cs ++ [(r0, r1, r2)], by omega, by go_num, by rw [List.length_append, HCL.out]; rfl, HCN.out, (HT9.out.set_ (show 2 < 3 by omega) (.slice A9 (k + 1) c9)).congr (fun i hi3 => ?_), ?_, HS9.out.far (by show L ≠ V; omega) _, HQ9.out.far (by show L ≠ w.heap.size; omega) _, by rw [size_setCell]; exact hz9, HB9.out.setCell (by show w.heap.size ≤ L; omega) _⟩
                      · have : i = 0 ∨ i = 1 ∨ i = 2 := by omega
                        rcases this with rfl | rfl | rfl <;> rfl
                      · exact ownsRow_setCell_below HO9.out (by show L < V + 1; omega) _
                    case measure => simp [intOf]; omega
                  · rw [if_pos (by rfl)]
                    simp only [List.getElem_toArray, List.getElem_cons_zero, List.getElem_cons_succ]
                    go_wp2_with fail
                    have HTa := Lib.hid (HT7.out.alloc (.cells #[.int .i64 r0, .int .i64 r1, .int .i64 r2] 77))
                    have Pa := Lib.hid (P7.out.alloc (.cells #[.int .i64 r0, .int .i64 r1, .int .i64 r2] 77))
                    have uma : (w7.alloc (.cells #[.int .i64 r0, .int .i64 r1, .int .i64 r2] 77)).cell? ⟨L, 2, none⟩ = some (.slice Av k cV) := HTa.out.cell (show 2 < 3 by omega)
                    refine hK.out _ _ (And.intro (Pa.out.cell (show 0 < 3 by omega)) (And.intro (Pa.out.cell (show 1 < 3 by omega)) (And.intro (Pa.out.cell (show 2 < 3 by omega)) Pa.out.lt))) (fun hHeld => ?_)
                    clear hK K
                    try simp only [Act.put, List.getElem_toArray, List.getElem_cons_zero, List.getElem_cons_succ, List.setIfInBounds_toArray, List.set_cons_zero, List.set_cons_succ]
                    refine wpAnyH_ready (rs := [1]) (by kernel_rfl) (by simp) (AllReadyH.cons rfl (fun K hK => ?_) AllReadyH.nil)
                    rw [if_pos (by rfl)]
                    simp only [List.getElem_toArray, List.getElem_cons_zero, List.getElem_cons_succ]
                    go_wp2_with fail
                    refine hK.out _ _ hHeld (fun hHeld => ?_)
                    clear hK K
                    try simp only [Act.put, List.getElem_toArray, List.getElem_cons_zero, List.getElem_cons_succ, List.setIfInBounds_toArray, List.set_cons_zero, List.set_cons_succ]
                    refine wpAnyH_ready (rs := [16]) (by kernel_rfl) (by simp) (AllReadyH.cons rfl (fun K hK => ?_) AllReadyH.nil)
                    refine step_appC rfl (.tmp 60) (.tmp 74) 44 rfl (V + 1) 77 i0 (.agg #[.int .i64 0, .int .i64 0, .int .i64 0]) 3 24 Tryd.underlying44 hi hy0i hyy1 hy2i rfl (by decide) (.slice Av k cV) k (cv cs) rfl (HO7.out.alloc _) ⟨w7.heap.size, 0, none⟩ 1 1 [.int .i64 r0, .int .i64 r1, .int .i64 r2] rfl rfl (news_c (Cells.new (n := 3) rfl rfl)) (one_c r0 r1 r2) (by unfold maxLen; omega) (by omega) (by simp; omega) ?_
                    intro v9 w9 hown9 hgrow9
                    have hO9 : w9.ownsRow (V + 1) 77 3 v9 (k + 1) (cv (cs ++ [(r0, r1, r2)])) := by rw [← cv_snoc]; exact hown9
                    obtain ⟨A9, c9, rfl, _⟩ := own_kc hO9 (by rw [List.length_append, HCL.out]; rfl)
                    have HO9 := Lib.hid hO9
                    have HT9 := Lib.hid ((HT7.out.alloc _).keptC hgrow9 (fun e => by have := (HO7.out.lt L e).1; omega))
                    have HS9 := Lib.hid ((HS7.out.alloc _).keptC hgrow9 (fun e => by have := (HO7.out.lt V e).1; omega))
                    have HQ9 := Lib.hid ((HQ7.out.alloc _).keptC hgrow9 (fun e => by have := (HO7.out.lt w.heap.size e).1; omega))
                    have P9 := Lib.hid ((P7.out.alloc _).keptC hgrow9 (fun e => by have h2 := (HO.out.lt G e).2; have := hGV; omega))
                    have HB9 := Lib.hid ((HB7.out.alloc HB7.out.size (.cells #[.int .i64 r0, .int .i64 r1, .int .i64 r2] 77)).grown hgrow9 (by have := HB7.out.size; simp; omega) (fun j hj => by have := (HO7.out.lt j hj).1; omega))
                    have y2 : w9.cell? ⟨L, 2, none⟩ = some (.slice Av k cV) := HT9.out.cell (show 2 < 3 by omega)
                    have yf2 := HT9.out.frozen (show 2 < 3 by omega)
                    have hz9 : V + 1 ≤ w9.heap.size := by have h1 := hgrow9.size; rw [World.size_alloc] at h1; omega
                    have HCN := Lib.hid (HC.out r0 r1 r2 HR5.out HR6.out HR7.out)
                    clear hown9 hgrow9 hO9
                    refine hK.out _ _ (And.intro (P9.out.cell (show 0 < 3 by omega)) (And.intro (P9.out.cell (show 1 < 3 by omega)) (And.intro (P9.out.cell (show 2 < 3 by omega)) P9.out.lt))) (fun hHeld => ?_)
                    clear hK K
                    try simp only [Act.put, List.getElem_toArray, List.getElem_cons_zero, List.getElem_cons_succ, List.setIfInBounds_toArray, List.set_cons_zero, List.set_cons_succ]
                    (refine wpAnyH_take (i := 17) (v := ?_) rfl (by kernel_rfl) (by kernel_rfl) (by kernel_rfl) (fun _ _ _ h => h) (Or.inl ⟨by rfl, by intro w hSw; (try dsimp only at hSw); go_simp; try with_reducible rfl⟩) (by assumption) ?_; try simp only [Act.put, List.getElem_toArray, List.getElem_cons_zero, List.getElem_cons_succ, List.setIfInBounds_toArray, List.set_cons_zero, List.set_cons_succ])
                    refine wpAnyH_ready (rs := [18]) (by kernel_rfl) (by simp) (AllReadyH.cons rfl (fun K hK => ?_) AllReadyH.nil)
                    rw [if_pos (by rfl)]
                    simp only [List.getElem_toArray, List.getElem_cons_zero, List.getElem_cons_succ]
                    go_wp2_with fail
                    have PP := Lib.hid (P9.out.far (p := ⟨L, 2, none⟩) (by show L ≠ G; have := hLG; omega) (.slice A9 (k + 1) c9))
                    refine hK.out _ _ (And.intro (PP.out.cell (show 0 < 3 by omega)) (And.intro (PP.out.cell (show 1 < 3 by omega)) (And.intro (PP.out.cell (show 2 < 3 by omega)) PP.out.lt))) (fun hHeld => ?_)
                    clear hK K
                    try simp only [Act.put, List.getElem_toArray, List.getElem_cons_zero, List.getElem_cons_succ, List.setIfInBounds_toArray, List.set_cons_zero, List.set_cons_succ]
                    refine wpAnyH_done (by kernel_rfl) ?_ _
                    go_wp2_with fail
                    go_roundw
                    case rel =>
                      refine ⟨k + 1, .slice A9 (k + 1) c9, cs ++ [(r0, r1, r2)], by omega, by go_num, by rw [List.length_append, HCL.out]; rfl, HCN.out, (HT9.out.set_ (show 2 < 3 by omega) (.slice A9 (k + 1) c9)).congr (fun i hi3 => ?_), ?_, HS9.out.far (by show L ≠ V; omega) _, HQ9.out.far (by show L ≠ w.heap.size; omega) _, by rw [size_setCell]; exact hz9, HB9.out.setCell (by show w.heap.size ≤ L; omega) _⟩
                      · have : i = 0 ∨ i = 1 ∨ i = 2 := by omega
                        rcases this with rfl | rfl | rfl <;> rfl
                      · exact ownsRow_setCell_below HO9.out (by show L < V + 1; omega) _
                    case measure => simp [intOf]; omega
          · have HD : Hid (zzB s = false) := Lib.hid (by
              cases hz : zzB s with
              | false => rfl
              | true =>
                obtain ⟨c, k1, k2, _⟩ := HP.out hz
                rw [k2, spA_clT k1] at hM
                exact absurd rfl hM)
            obtain ⟨M, hMM⟩ : ∃ M, (spA 46 p).length = M := ⟨_, rfl⟩
            have HMM := Lib.hid hMM
            rw [hMM] at hM
            have hM2' : ((M : Int) != 3) = true := by simpa using (show ¬ (M : Int) = 3 by omega)
            clear hMM
            go_wp2_with (first
              | (go_at_call 70; refine (l1SplitC_any p 46 46 (by decide) hts _).mono ?_; rw [HMM.out]; rintro e w4 ⟨G, c4, rfl, hG, hC4, hc4, hb4⟩
                 have HQ4 := Lib.hid (HQ.out.call hb4)
                 have HB4 := Lib.hid (bel_call HB.out hb4)
                 have q0 := HQ4.out.cell (show 0 < 3 by omega)
                 have q1 := HQ4.out.cell (show 1 < 3 by omega)
                 have q2 := HQ4.out.cell (show 2 < 3 by omega)
                 have f0 := HQ4.out.frozen (show 0 < 3 by omega)
                 have f1 := HQ4.out.frozen (show 1 < 3 by omega)
                 have f2 := HQ4.out.frozen (show 2 < 3 by omega)
                 clear hC4 hb4 hG))
            refine bodyPost_ret (v := .tuple #[.agg #[.int .i64 0, .int .i64 0, .slice none 0 0], .bool false]) (by simp [results, Tryd.results51, go_sem, q0, q1, q2]) rfl ?_
            exact kz_none HD.out (bel3 HB4.out (Nat.le_refl _) _ _ _)
        · obtain rfl : k = n := by omega
          obtain ⟨A', c', rfl, hKC⟩ := own_kc HO.out HCL.out
          have HKC := Lib.hid hKC
          have HKL := HCL
          have HCS : Hid (zzB s = true → cs = zzK s) := Lib.hid (fun hz => by
            have h1 := hcs hz
            rwa [List.take_of_length_le (by rw [(HPP.out hz).1]; exact Nat.le_refl _)] at h1)
          have hVlo : w.heap.size < V + 1 := by omega
          clear hKC HO hcs
          have t0 : wr.cell? ⟨L, 0, none⟩ = some (.int .i64 a) := HT.out.cell (show 0 < 3 by omega)
          have t1 : wr.cell? ⟨L, 1, none⟩ = some (.int .i64 b) := HT.out.cell (show 1 < 3 by omega)
          have t2 : wr.cell? ⟨L, 2, none⟩ = some (.slice A' k c') := HT.out.cell (show 2 < 3 by omega)
          have HSE : Hid (zzB s = (pzB a b cs && decide (pzU a b cs k = s))) := Lib.hid (by
            have h1 := zz_end (s := s) (a := a) (b := b) (cs := cs) (fun hz => ⟨(HAB.out hz).1, (HAB.out hz).2, HCS.out hz⟩)
            rw [HKL.out] at h1
            exact h1.symm)
          have HFK : Hid (∀ W, Below wr.heap.size wr W → KC W (V + 1) wr.heap.size A' k (cluF cs)) := Lib.hid (fun W hb => HKC.out.call hb)
          have HFIN : Hid (∀ W, Below wr.heap.size wr W → KzP w s (.returned (.tuple #[.agg #[.int .i64 a, .int .i64 b, .slice A' k c'], .bool (zzB s)])) (((W.setCell ⟨w.heap.size, 0, none⟩ (.int .i64 a)).setCell ⟨w.heap.size, 1, none⟩ (.int .i64 b)).setCell ⟨w.heap.size, 2, none⟩ (.slice A' k c'))) := Lib.hid (fun W hb => ⟨a, b, k, A', c', rfl, ⟨fun hz => ⟨(HAB.out hz).1, (HAB.out hz).2, by rw [← HCS.out hz, HKL.out], by
            rw [← HCS.out hz, size_setCell, size_setCell, size_setCell]
            exact ((((HKC.out.call hb).far (p := ⟨w.heap.size, 0, none⟩) hVlo _).far (p := ⟨w.heap.size, 1, none⟩) hVlo _).far (p := ⟨w.heap.size, 2, none⟩) hVlo _).wide (Nat.le_of_lt hVlo) hb.size⟩, bel3 (bel_call HB.out hb) (Nat.le_refl _) _ _ _⟩⟩)
          obtain ⟨x9, HX9⟩ : ∃ x, Hid (pzB a b cs = x) := ⟨_, Lib.hid rfl⟩
          rcases x9 with _ | _
          · have HD : Hid (zzB s = false) := Lib.hid (by rw [HSE.out, HX9.out]; rfl)
            go_wp2_with fail
            have hst : ∀ (W : World) (p : Nat) (z : Value), (fun W => W.cell? ⟨L, 0, none⟩ = some (.int .i64 a) ∧ W.cell? ⟨L, 1, none⟩ = some (.int .i64 b) ∧ W.cell? ⟨L, 2, none⟩ = some (.slice A' k c') ∧ (∃ f, Cells W w.heap.size 3 f) ∧ KC W (V + 1) wr.heap.size A' k (cluF cs) ∧ Below w.heap.size w W) W → p < 3 → (fun W => W.cell? ⟨L, 0, none⟩ = some (.int .i64 a) ∧ W.cell? ⟨L, 1, none⟩ = some (.int .i64 b) ∧ W.cell? ⟨L, 2, none⟩ = some (.slice A' k c') ∧ (∃ f, Cells W w.heap.size 3 f) ∧ KC W (V + 1) wr.heap.size A' k (cluF cs) ∧ Below w.heap.size w W) (W.setCell ⟨w.heap.size, p, none⟩ z) := fun W p z ⟨h1, h2, h3, ⟨f, h4⟩, h5, h6⟩ hp => ⟨by rw [World.cell?_setCell_other W _ _ z (fun e => by injection e with e; omega)]; exact h1, by rw [World.cell?_setCell_other W _ _ z (fun e => by injection e with e; omega)]; exact h2, by rw [World.cell?_setCell_other W _ _ z (fun e => by injection e with e; omega)]; exact h3, ⟨_, h4.set_ hp z⟩, h5.far (p := ⟨w.heap.size, p, none⟩) hVlo z, h6.setCell (Nat.le_refl _) z⟩
            refine wp_region_held_drew (S := (fun W => W.cell? ⟨L, 0, none⟩ = some (.int .i64 a) ∧ W.cell? ⟨L, 1, none⟩ = some (.int .i64 b) ∧ W.cell? ⟨L, 2, none⟩ = some (.slice A' k c') ∧ (∃ f, Cells W w.heap.size 3 f) ∧ KC W (V + 1) wr.heap.size A' k (cluF cs) ∧ Below w.heap.size w W)) (by kernel_rfl) ⟨t0, t1, t2, ⟨_, HQ.out.drew⟩, HKC.out.drewR, bel_drew HB.out⟩ (fun hHeld => ?_)
            clear t0 t1 t2
            (refine wpAnyH_take (i := 0) (v := ?_) rfl (by kernel_rfl) (by kernel_rfl) (by kernel_rfl) (fun _ _ _ h => h) (Or.inl ⟨by rfl, by intro w hSw; (try dsimp only at hSw); go_simp; try with_reducible rfl⟩) (by assumption) ?_; try simp only [Act.put, List.getElem_toArray, List.getElem_cons_zero, List.setIfInBounds_toArray, List.set_cons_zero, List.set_cons_succ])
            (refine wpAnyH_take (i := 1) (v := ?_) rfl (by kernel_rfl) (by kernel_rfl) (by kernel_rfl) (fun _ _ _ h => h) (Or.inl ⟨by rfl, by intro w hSw; (try dsimp only at hSw); go_simp; try with_reducible rfl⟩) (by assumption) ?_; try simp only [Act.put, List.getElem_toArray, List.getElem_cons_zero, List.getElem_cons_succ, List.setIfInBounds_toArray, List.set_cons_zero, List.set_cons_succ])
            (refine wpAnyH_ready (rs := [2]) (by kernel_rfl) (by simp) (AllReadyH.cons rfl (fun K hK => ?_) AllReadyH.nil); rw [if_pos (by rfl)]; simp only [List.getElem_toArray, List.getElem_cons_zero, List.getElem_cons_succ]; go_wp2_with ((go_at_call 42; refine (pzGood_any a b _ _ _ cs _ (by unfold maxLen; omega) (hHeld.2.2.2.2.1.argN HKL.out)).mono ?_; rw [HX9.out]; rintro e w5 ⟨rfl, hb5⟩; have hS5 := And.intro ((hb5.cell (p := ⟨L, 0, none⟩) (World.block_lt_of_cell? _ _ hHeld.1)).trans hHeld.1) (And.intro ((hb5.cell (p := ⟨L, 1, none⟩) (World.block_lt_of_cell? _ _ hHeld.2.1)).trans hHeld.2.1) (And.intro ((hb5.cell (p := ⟨L, 2, none⟩) (World.block_lt_of_cell? _ _ hHeld.2.2.1)).trans hHeld.2.2.1) (And.intro (hHeld.2.2.2.1.elim fun f h => (⟨f, h.call hb5⟩ : ∃ f, Cells w5 w.heap.size 3 f)) (And.intro (hHeld.2.2.2.2.1.call hb5) (bel_call hHeld.2.2.2.2.2 hb5))))))); refine hK.out _ _ hS5 (fun hHeld => ?_); clear hK K; try simp only [Act.put, List.getElem_toArray, List.getElem_cons_zero, List.getElem_cons_succ, List.setIfInBounds_toArray, List.set_cons_zero, List.set_cons_succ])
            (refine wpAnyH_take (i := 3) (v := ?_) rfl (by kernel_rfl) (by kernel_rfl) (by kernel_rfl) (fun _ _ _ h => h) (Or.inl ⟨by rfl, by intro w hSw; (try dsimp only at hSw); go_simp; try with_reducible rfl⟩) (by assumption) ?_; try simp only [Act.put, List.getElem_toArray, List.getElem_cons_zero, List.getElem_cons_succ, List.setIfInBounds_toArray, List.set_cons_zero, List.set_cons_succ])
            (refine wpAnyH_take (i := 4) (v := undef) rfl (by kernel_rfl) (by kernel_rfl) (by kernel_rfl) (fun _ _ _ h => h) (Or.inr ⟨by rfl, rfl⟩) (by assumption) ?_; try simp only [Act.put, List.getElem_toArray, List.getElem_cons_zero, List.getElem_cons_succ, List.setIfInBounds_toArray, List.set_cons_zero, List.set_cons_succ])
            (refine wpAnyH_take (i := 5) (v := undef) rfl (by kernel_rfl) (by kernel_rfl) (by kernel_rfl) (fun _ _ _ h => h) (Or.inr ⟨by rfl, rfl⟩) (by assumption) ?_; try simp only [Act.put, List.getElem_toArray, List.getElem_cons_zero, List.getElem_cons_succ, List.setIfInBounds_toArray, List.set_cons_zero, List.set_cons_succ])
            (refine wpAnyH_take (i := 6) (v := undef) rfl (by kernel_rfl) (by kernel_rfl) (by kernel_rfl) (fun _ _ _ h => h) (Or.inr ⟨by rfl, rfl⟩) (by assumption) ?_; try simp only [Act.put, List.getElem_toArray, List.getElem_cons_zero, List.getElem_cons_succ, List.setIfInBounds_toArray, List.set_cons_zero, List.set_cons_succ])
            (refine wpAnyH_take (i := 7) (v := undef) rfl (by kernel_rfl) (by kernel_rfl) (by kernel_rfl) (fun _ _ _ h => h) (Or.inr ⟨by rfl, rfl⟩) (by assumption) ?_; try simp only [Act.put, List.getElem_toArray, List.getElem_cons_zero, List.getElem_cons_succ, List.setIfInBounds_toArray, List.set_cons_zero, List.set_cons_succ])
            (refine wpAnyH_take (i := 8) (v := ?_) rfl (by kernel_rfl) (by kernel_rfl) (by kernel_rfl) (fun _ _ _ h => h) (Or.inl ⟨by rfl, by intro w hSw; (try dsimp only at hSw); go_simp; try with_reducible rfl⟩) (by assumption) ?_; try simp only [Act.put, List.getElem_toArray, List.getElem_cons_zero, List.getElem_cons_succ, List.setIfInBounds_toArray, List.set_cons_zero, List.set_cons_succ])
            obtain ⟨fq, hq5⟩ := hHeld.2.2.2.1
            have q0 := hq5.cell (show 0 < 3 by omega)
            have q1 := hq5.cell (show 1 < 3 by omega)
            have q2 := hq5.cell (show 2 < 3 by omega)
            have f0 := hq5.frozen (show 0 < 3 by omega)
            have f1 := hq5.frozen (show 1 < 3 by omega)
            have f2 := hq5.frozen (show 2 < 3 by omega)
            have HS6 := Lib.hid (hst _ 2 (.slice A' k c') (hst _ 1 (.int .i64 b) (hst _ 0 (.int .i64 a) hHeld (by omega)) (by omega)) (by omega))
            have HH5 := Lib.hid hHeld
            clear hst hq5
            (refine wpAnyH_ready (rs := [9]) (by kernel_rfl) (by simp) (AllReadyH.cons rfl (fun K hK => ?_) AllReadyH.nil); rw [if_pos (by rfl)]; simp only [List.getElem_toArray, List.getElem_cons_zero, List.getElem_cons_succ]; go_wp2_with (fail); refine hK.out _ _ HS6.out (fun hHeld => ?_); clear hK K; try simp only [Act.put, List.getElem_toArray, List.getElem_cons_zero, List.getElem_cons_succ, List.setIfInBounds_toArray, List.set_cons_zero, List.set_cons_succ])
            (refine wpAnyH_take (i := 10) (v := ?_) rfl (by kernel_rfl) (by kernel_rfl) (by kernel_rfl) (fun _ _ _ h => h) (Or.inl ⟨by rfl, by intro w hSw; (try dsimp only at hSw); go_simp; try with_reducible rfl⟩) (by assumption) ?_; try simp only [Act.put, List.getElem_toArray, List.getElem_cons_zero, List.getElem_cons_succ, List.setIfInBounds_toArray, List.set_cons_zero, List.set_cons_succ])
            refine wpAnyH_done (by kernel_rfl) ?_ _
            go_wp2_with fail
            refine bodyPost_ret (v := .tuple #[.agg #[.int .i64 a, .int .i64 b, .slice A' k c'], .bool false]) (by simp [results, Tryd.results51, go_sem, q0, q1, q2]) rfl ?_
            exact ⟨a, b, k, A', c', by rw [HD.out], ⟨(fun h => by rw [HD.out] at h; cases h), HS6.out.2.2.2.2.2⟩⟩
          · by_cases hes : pzU a b cs k = s
            · have HD : Hid (zzB s = true) := Lib.hid (by rw [HSE.out, HX9.out, decide_eq_true hes]; rfl)
              have HES := Lib.hid hes
              clear hes
              have hsame : (s.toList == s.toList) = true := beq_self_eq_true _
              go_wp2_with fail
              go_region_with (first
                  | ((fail_if_success (have := HB5)); (try go_simp); go_at_call 42; refine (pzGood_any a b _ _ _ cs _ (by unfold maxLen; omega) ((HKC.out.argN HKL.out).below (bel_drew (Below.refl _ _)))).mono ?_; rw [HX9.out]; rintro e w5 ⟨rfl, hb5⟩
                     have HB5 := Lib.hid (below_undrew hb5)
                     have HT5 := Lib.hid (HT.out.call HB5.out)
                     have r0 : w5.cell? ⟨L, 0, none⟩ = some (.int .i64 a) := HT5.out.cell (show 0 < 3 by omega)
                     have r1 : w5.cell? ⟨L, 1, none⟩ = some (.int .i64 b) := HT5.out.cell (show 1 < 3 by omega)
                     have r2 : w5.cell? ⟨L, 2, none⟩ = some (.slice A' k c') := HT5.out.cell (show 2 < 3 by omega)
                     clear hb5)
                  | ((try go_simp); go_at_call 43; refine (pzText_any a b _ _ _ cs _ HX9.out ((HKC.out.argN HKL.out).below HB5.out)).mono ?_; rw [HES.out]; rintro e w6 ⟨rfl, hb6⟩
                     have HY3 : Below wr.heap.size wr w5 := HB5.out
                     have HY4 : Below w5.heap.size w5 w6 := hb6
                     have HB6 := Lib.hid (bel_call HY3 HY4)
                     have HT6 := Lib.hid (HT.out.call HB6.out)
                     have HQ6 := Lib.hid (HQ.out.call HB6.out)
                     have s0 : w6.cell? ⟨L, 0, none⟩ = some (.int .i64 a) := HT6.out.cell (show 0 < 3 by omega)
                     have s1 : w6.cell? ⟨L, 1, none⟩ = some (.int .i64 b) := HT6.out.cell (show 1 < 3 by omega)
                     have s2 : w6.cell? ⟨L, 2, none⟩ = some (.slice A' k c') := HT6.out.cell (show 2 < 3 by omega)
                     have q0 := HQ6.out.cell (show 0 < 3 by omega)
                     have q1 := HQ6.out.cell (show 1 < 3 by omega)
                     have q2 := HQ6.out.cell (show 2 < 3 by omega)
                     have f0 := HQ6.out.frozen (show 0 < 3 by omega)
                     have f1 := HQ6.out.frozen (show 1 < 3 by omega)
                     have f2 := HQ6.out.frozen (show 2 < 3 by omega)
                     clear hb6 HY3 HY4))
              all_goals
                go_wp2_with fail
                refine bodyPost_ret (v := .tuple #[.agg #[.int .i64 a, .int .i64 b, .slice A' k c'], .bool true]) (by simp [results, Tryd.results51, go_sem, q0, q1, q2]) rfl ?_
                have h := HFIN.out _ HB6.out
                rw [HD.out] at h
                exact h
            · have HD : Hid (zzB s = false) := Lib.hid (by rw [HSE.out, HX9.out, decide_eq_false hes]; rfl)
              obtain ⟨u, hu⟩ : ∃ u, pzU a b cs k = u := ⟨_, rfl⟩
              have HES := Lib.hid hu
              have hsame : (u.toList == s.toList) = false := bytes_neP (by rw [← hu]; exact hes)
              clear hes hu
              go_wp2_with fail
              go_region_with (first
                  | ((fail_if_success (have := HB5)); (try go_simp); go_at_call 42; refine (pzGood_any a b _ _ _ cs _ (by unfold maxLen; omega) ((HKC.out.argN HKL.out).below (bel_drew (Below.refl _ _)))).mono ?_; rw [HX9.out]; rintro e w5 ⟨rfl, hb5⟩
                     have HB5 := Lib.hid (below_undrew hb5)
                     have HT5 := Lib.hid (HT.out.call HB5.out)
                     have r0 : w5.cell? ⟨L, 0, none⟩ = some (.int .i64 a) := HT5.out.cell (show 0 < 3 by omega)
                     have r1 : w5.cell? ⟨L, 1, none⟩ = some (.int .i64 b) := HT5.out.cell (show 1 < 3 by omega)
                     have r2 : w5.cell? ⟨L, 2, none⟩ = some (.slice A' k c') := HT5.out.cell (show 2 < 3 by omega)
                     clear hb5)
                  | ((try go_simp); go_at_call 43; refine (pzText_any a b _ _ _ cs _ HX9.out ((HKC.out.argN HKL.out).below HB5.out)).mono ?_; rw [HES.out]; rintro e w6 ⟨rfl, hb6⟩
                     have HY3 : Below wr.heap.size wr w5 := HB5.out
                     have HY4 : Below w5.heap.size w5 w6 := hb6
                     have HB6 := Lib.hid (bel_call HY3 HY4)
                     have HT6 := Lib.hid (HT.out.call HB6.out)
                     have HQ6 := Lib.hid (HQ.out.call HB6.out)
                     have s0 : w6.cell? ⟨L, 0, none⟩ = some (.int .i64 a) := HT6.out.cell (show 0 < 3 by omega)
                     have s1 : w6.cell? ⟨L, 1, none⟩ = some (.int .i64 b) := HT6.out.cell (show 1 < 3 by omega)
                     have s2 : w6.cell? ⟨L, 2, none⟩ = some (.slice A' k c') := HT6.out.cell (show 2 < 3 by omega)
                     have q0 := HQ6.out.cell (show 0 < 3 by omega)
                     have q1 := HQ6.out.cell (show 1 < 3 by omega)
                     have q2 := HQ6.out.cell (show 2 < 3 by omega)
                     have f0 := HQ6.out.frozen (show 0 < 3 by omega)
                     have f1 := HQ6.out.frozen (show 1 < 3 by omega)
                     have f2 := HQ6.out.frozen (show 2 < 3 by omega)
                     clear hb6 HY3 HY4))
              all_goals
                go_wp2_with fail
                refine bodyPost_ret (v := .tuple #[.agg #[.int .i64 a, .int .i64 b, .slice A' k c'], .bool false]) (by simp [results, Tryd.results51, go_sem, q0, q1, q2]) rfl ?_
                have h := HFIN.out _ HB6.out
                rw [HD.out] at h
                exact h

end Go.Proofs.YtgdjbclkdnmebaaDoor
