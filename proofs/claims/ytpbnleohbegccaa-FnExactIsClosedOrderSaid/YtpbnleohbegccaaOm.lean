/- Whether a list is an order, as the model tells it. For lists that can be. -/
import Derived.Test.YtpbnleohbegccaaOn
import Derived.Test.YtpbnleohbegccaaDead
import Derived.Test.YtpbnleohbegccaaNb
import Derived.Deep.RegionWith
import Derived.Deep.RegionHeld3
namespace Go.Proofs.Ytpbnleohbegccaa
open Go.ChangeShapes Go.WideShapes Go.ChangeAt Go.RowKit Go.Joins

/-- The number is that of one of the texts. -/
def seB (a b : Int) (ts : List ByteArray) (i : Nat) : Bool := ts.any fun t => nuN a b t == i

theorem seB_hs {a b : Int} {ts : List ByteArray} {s : ByteArray} (hs : askB a b s = true) (ht : ∀ t, t ∈ ts → askB a b t = true) : seB a b ts (nuN a b s) = hsS ts s := by
  rw [Bool.eq_iff_iff, hsS_iff]
  unfold seB
  rw [List.any_eq_true]
  constructor
  · rintro ⟨t, h1, h2⟩
    rw [← nuN_inj (ht t h1) hs (by simpa using h2)]; exact h1
  · exact fun h => ⟨s, h, by simp⟩

theorem seB_snoc {a b : Int} {ts : List ByteArray} {k : Nat} (hk : k < ts.length) (i : Nat) : seB a b (ts.take (k + 1)) i = (seB a b (ts.take k) i || (nuN a b (ts.getD k ByteArray.empty) == i)) := by
  unfold seB
  rw [List.take_succ_eq_append_getElem hk, List.any_append]
  simp [List.getD, List.getElem?_eq_getElem hk]

theorem make_boolsN (n : Nat) (hn : n ≤ 1000000) (W : World) : (Instr.makeSlice 109 (.int .i64 (n : Int)) (.int .i64 (n : Int))).run Try.prog W = .ok (.slice (some ⟨W.heap.size, 0, none⟩) n n) (W.alloc (.cells (madeCells #[.bool false] n) 4)) :=
  run_make_row' 109 4 (.bool false) 1 Try.underlying109 (by kernel_rfl) rfl .i64 .i64 n (by omega) (by omega) W

theorem taken_ask {a b : Int} {ts : List ByteArray} {k : Nat} (hk : k ≤ ts.length) (h : (List.range k).all (okAt a b ts) = true) : ∀ t, t ∈ ts.take k → askB a b t = true := by
  intro t ht
  obtain ⟨j, hj, rfl⟩ := List.getElem_of_mem ht
  have hj' : j < k := by rw [List.length_take] at hj; omega
  rw [List.all_eq_true] at h
  have := ok_ask (h j (List.mem_range.2 hj'))
  rw [List.getElem_take]
  simpa [List.getD, List.getElem?_eq_getElem (show j < ts.length by omega)] using this

/-- What the look holds. -/
structure OgSt (w wr : World) (a b : Int) (ts : List ByteArray) (g C j : Nat) : Prop where
  seen : Cells wr g C (fun i => .bool (seB a b (ts.take j) i))
  box : Cells wr w.heap.size 2 (b2F a b)
  bel : Below w.heap.size w wr
  big : w.heap.size < g

theorem OgSt.call {w wr w2 : World} {a b : Int} {ts : List ByteArray} {g C j : Nat} (h : OgSt w wr a b ts g C j) (hb : Below wr.heap.size wr w2) : OgSt w w2 a b ts g C j :=
  ⟨h.seen.call hb, h.box.call hb, bel_call h.bel hb, h.big⟩

theorem OgSt.put {w wr : World} {a b : Int} {ts : List ByteArray} {g C j : Nat} (h : OgSt w wr a b ts g C j) (hj : j < ts.length) (hc : nuN a b (ts.getD j ByteArray.empty) < C) : OgSt w (wr.setCell ⟨g, nuN a b (ts.getD j ByteArray.empty), none⟩ (.bool true)) a b ts g C (j + 1) := by
  refine ⟨(h.seen.set_ hc _).congr (fun i _ => ?_), h.box.far (by show g ≠ w.heap.size; have := h.big; omega) _, h.bel.setCell (Nat.le_of_lt h.big) _, h.big⟩
  rw [seB_snoc hj]
  by_cases e : i = nuN a b (ts.getD j ByteArray.empty)
  · rw [if_pos e, e]; simp
  · rw [if_neg e]
    have : (nuN a b (ts.getD j ByteArray.empty) == i) = false := by simpa using fun h => e h.symm
    rw [this, Bool.or_false]

theorem dist_fact {a b : Int} {s t : ByteArray} {q : Bool} (h2 : twoB a b s t = true) (hq : otB a b s t = q) : (fewZ a b s t != 1) = !q := by
  rw [ot_few h2] at hq
  rw [← hq]
  by_cases h : fewZ a b s t = 1
  · rw [h]; rfl
  · simp [h]

/-- Four cells that lie in a world, and lie on. -/
def Lie4 (wr : World) (a0 a1 a2 a3 : Addr) (x0 x1 x2 x3 : Value) : Prop :=
  (wr.cell? a0 = some x0 ∧ a0.block < wr.heap.size) ∧ (wr.cell? a1 = some x1 ∧ a1.block < wr.heap.size) ∧ (wr.cell? a2 = some x2 ∧ a2.block < wr.heap.size) ∧ (wr.cell? a3 = some x3 ∧ a3.block < wr.heap.size)

theorem call_lie4 {P : Program} {K : FuncId} {args : Array Value} {v : Value} {wr W : World} {a0 a1 a2 a3 : Addr} {x0 x1 x2 x3 : Value} (f : Lie4 wr a0 a1 a2 a3 x0 x1 x2 x3)
    (h : W.cell? a0 = some x0 ∧ W.cell? a1 = some x1 ∧ W.cell? a2 = some x2 ∧ W.cell? a3 = some x3 ∧ Below wr.heap.size wr W) (c : Calls P K args W fun e w' => e = .returned v ∧ Below W.heap.size W w') :
    Calls P K args W fun e w' => e = .returned v ∧ w'.cell? a0 = some x0 ∧ w'.cell? a1 = some x1 ∧ w'.cell? a2 = some x2 ∧ w'.cell? a3 = some x3 ∧ Below wr.heap.size wr w' :=
  c.mono fun _ _ ⟨he, hb⟩ => by
    have hB := bel_call h.2.2.2.2 hb
    exact ⟨he, (hB.cell f.1.2).trans f.1.1, (hB.cell f.2.1.2).trans f.2.1.1, (hB.cell f.2.2.1.2).trans f.2.2.1.1, (hB.cell f.2.2.2.2).trans f.2.2.2.1, hB⟩

set_option maxRecDepth 100000 in
set_option maxHeartbeats 8000000 in
theorem orGood_any (a b : Int) (A : Option Addr) (n c : Nat) (ts : List ByteArray) (w : World) (hn : n ≤ maxLen) (hg : goodB a b = true) (hA : ArgS w A n ts) :
    Calls Try.prog 90 #[.agg #[.int .i64 a, .int .i64 b], .slice A n c] w fun e w' => e = .returned (.bool (orB a b ts)) ∧ Below w.heap.size w w' := by
  unfold maxLen at hn
  have HA := Lib.hid hA
  have HL := Lib.hid hA.len
  have HZ := Lib.hid hA.sz
  have HG := Lib.hid hg
  by_cases h1 : n ≤ 1000
  · have hg' := good_yes hg
    obtain ⟨an, hae⟩ : ∃ an : Nat, a = an := ⟨a.toNat, by omega⟩
    subst hae
    have hcn := cnN_cast hg
    rw [Int.toNat_natCast] at hcn
    have hp := (pw_bd6 hg'.2.2.1 hg'.2.2.2 (k := an) (by omega)).2
    obtain ⟨C, hC⟩ : ∃ C, cnN an b = C := ⟨_, rfl⟩
    have HC := Lib.hid hC
    rw [hC] at hcn
    have HCC := Lib.hid hcn
    have hmk := make_boolsN C (by omega)
    clear hA hg hg' hC hcn
    go_enter Try.func90, Try.ntmps90
    go_wp2_with (go_at_call 80; refine (whCount_any _ _ _ HG.out).mono ?_; rw [← HCC.out]; rintro e w1 ⟨rfl, hb1⟩
                 have C1 := Lib.hid ((box_new (W := w) (a := (an : Int)) (b := b) (t := 26) rfl).call hb1)
                 have X1 := Lib.hid (show Below w.heap.size w w1 from bel_call ((Below.refl _ _).alloc (Nat.le_refl _) _) hb1)
                 have z1 := C1.out.lt
                 clear hb1)
    have ST0 := Lib.hid (show OgSt w (w1.alloc (.cells (madeCells #[.bool false] C) 4)) an b ts w1.heap.size C 0 from
      ⟨(Cells.made w1 (.bool false) C 4).congr (fun i _ => by simp [seB]), C1.out.alloc _, X1.out.alloc X1.out.size _, z1⟩)
    clear C1 X1 hmk
    generalize w1.heap.size = g at *
    go_loopw [16] (fun i wr => ∃ k : Nat, k ≤ n ∧ i = .int .i64 k ∧ (List.range k).all (okAt an b ts) = true ∧ OgSt w wr an b ts g C k) (fun i _ => n - (intOf i).toNat)
    case atStart => exact ⟨0, by omega, rfl, rfl, ST0.out⟩
    case round =>
      clear ST0
      obtain ⟨k, hk, rfl, hall, hS⟩ := hrel
      have HST := Lib.hid hS
      have HAL := Lib.hid hall
      clear hS hall
      by_cases hlt : k < n
      · obtain ⟨D, off, rfl, hbD, hcD⟩ := HA.out.at_.resolve_left (by omega)
        have o1 : wr.cell? ⟨D, off + k, none⟩ = some (.string (ts.getD k ByteArray.empty)) := (HST.out.bel.cell (p := ⟨D, off + k, none⟩) hbD).trans (hcD k hlt)
        have l0 : wr.cell? ⟨w.heap.size, 0, none⟩ = some (.int .i64 an) := HST.out.box.cell (show 0 < 2 by omega)
        have l1 : wr.cell? ⟨w.heap.size, 1, none⟩ = some (.int .i64 b) := HST.out.box.cell (show 1 < 2 by omega)
        have HCD := Lib.hid hcD
        have zw : w.heap.size < wr.heap.size := HST.out.box.lt
        have zg : g < wr.heap.size := HST.out.seen.lt
        have zD : D < wr.heap.size := Nat.lt_of_lt_of_le hbD HST.out.bel.size
        have HSK := Lib.hid (HZ.out k hlt)
        have HKL := Lib.hid (show k < ts.length by rw [HL.out]; exact hlt)
        clear hcD
        have HNO : Hid (okAt an b ts k = false → orB an b ts = false) := Lib.hid fun h => or_not HKL.out h
        have HPUT : Hid (∀ W, OgSt w W an b ts g C k → nuN an b (ts.getD k ByteArray.empty) < C → OgSt w (W.setCell ⟨g, nuN an b (ts.getD k ByteArray.empty), none⟩ (.bool true)) an b ts g C (k + 1)) := Lib.hid fun W h h2 => h.put HKL.out h2
        obtain ⟨s, hs⟩ : ∃ s, ts.getD k ByteArray.empty = s := ⟨_, rfl⟩
        have HSS := Lib.hid hs
        rw [hs] at o1 HSK HPUT
        clear hs
        by_cases hc : isCodeB an b s = true
        · have HCO := Lib.hid hc
          have hask : askB an b s = true := by unfold askB; rw [HG.out, hc]; rfl
          have HASK := Lib.hid hask
          have HNU := Lib.hid (nuN_cast hask)
          have hnl : nuN an b s < C := by rw [← HC.out]; exact nuN_lt hask
          have HSE := Lib.hid (seB_hs hask (taken_ask (ts := ts) (k := k) (Nat.le_of_lt HKL.out) HAL.out))
          obtain ⟨u, hu⟩ : ∃ u, nuN an b s = u := ⟨_, rfl⟩
          rw [hu] at HNU hnl HSE HPUT
          clear hu hc hask
          by_cases hm : hsS (ts.take k) s = true
          · have HM := Lib.hid hm
            have HO : Hid (orB an b ts = false) := Lib.hid (HNO.out (ok_met (by rw [HSS.out]; exact hm)))
            clear hm
            have o2 : wr.cell? ⟨g, u, none⟩ = some (.bool true) := by rw [HST.out.seen.cell hnl, HSE.out, HM.out]
            have FF := Lib.hid (show Lie4 wr ⟨w.heap.size, 0, none⟩ ⟨w.heap.size, 1, none⟩ ⟨g, u, none⟩ ⟨w.heap.size, 0, none⟩ (.int .i64 an) (.int .i64 b) (.bool true) (.int .i64 an) from ⟨⟨l0, zw⟩, ⟨l1, zw⟩, ⟨o2, zg⟩, ⟨l0, zw⟩⟩)
            go_wp2_with fail
            refine wp_region_held_drew (S := (fun w' => w'.cell? ⟨w.heap.size, 0, none⟩ = some (.int .i64 an) ∧ w'.cell? ⟨w.heap.size, 1, none⟩ = some (.int .i64 b) ∧ w'.cell? ⟨g, u, none⟩ = some (.bool true) ∧ w'.cell? ⟨w.heap.size, 0, none⟩ = some (.int .i64 an) ∧ Below wr.heap.size wr w')) (by kernel_rfl) ⟨l0, l1, o2, l0, bel_drew (Below.refl _ _)⟩ (fun hHeld => ?_)
            refine wpAnyH_take (i := 0) (v := ?_) rfl (by kernel_rfl) (by kernel_rfl) (by kernel_rfl) (fun _ _ _ h => h) (Or.inl ⟨by rfl, by intro w hSw; (try dsimp only at hSw); go_simp; try with_reducible rfl⟩) (by assumption) ?_
            try simp only [Act.put, List.getElem_toArray, List.getElem_cons_zero, List.setIfInBounds_toArray, List.set_cons_zero, List.set_cons_succ]
            refine wpAnyH_take (i := 1) (v := ?_) rfl (by kernel_rfl) (by kernel_rfl) (by kernel_rfl) (fun _ _ _ h => h) (Or.inl ⟨by rfl, by intro w hSw; (try dsimp only at hSw); go_simp; try with_reducible rfl⟩) (by assumption) ?_
            try simp only [Act.put, List.getElem_toArray, List.getElem_cons_zero, List.getElem_cons_succ, List.setIfInBounds_toArray, List.set_cons_zero, List.set_cons_succ]
            refine wpAnyH_ready (rs := [2]) (by kernel_rfl) (by simp) (AllReadyH.cons rfl (fun K hK => ?_) AllReadyH.nil)
            go_wp2_with (go_at_call 99; refine (call_lie4 FF.out (by assumption) (whCode_any _ _ _ _ HSK.out HG.out)).mono ?_; rw [HCO.out]; rintro e w2 ⟨rfl, hS⟩)
            refine hK.out _ _ hS (fun hHeld => ?_)
            clear hK K
            try simp only [Act.put, List.getElem_toArray, List.getElem_cons_zero, List.getElem_cons_succ, List.setIfInBounds_toArray, List.set_cons_zero, List.set_cons_succ]
            refine wpAnyH_take (i := 3) (v := ?_) rfl (by kernel_rfl) (by kernel_rfl) (by kernel_rfl) (fun _ _ _ h => h) (Or.inl ⟨by rfl, by intro w hSw; (try dsimp only at hSw); go_simp; try with_reducible rfl⟩) (by assumption) ?_
            try simp only [Act.put, List.getElem_toArray, List.getElem_cons_zero, List.getElem_cons_succ, List.setIfInBounds_toArray, List.set_cons_zero, List.set_cons_succ]
            refine wpAnyH_take (i := 4) (v := ?_) rfl (by kernel_rfl) (by kernel_rfl) (by kernel_rfl) (fun _ _ _ h => h) (Or.inl ⟨by rfl, by intro w hSw; (try dsimp only at hSw); go_simp; try with_reducible rfl⟩) (by assumption) ?_
            try simp only [Act.put, List.getElem_toArray, List.getElem_cons_zero, List.getElem_cons_succ, List.setIfInBounds_toArray, List.set_cons_zero, List.set_cons_succ]
            refine wpAnyH_take (i := 5) (v := ?_) rfl (by kernel_rfl) (by kernel_rfl) (by kernel_rfl) (fun _ _ _ h => h) (Or.inl ⟨by rfl, by intro w hSw; (try dsimp only at hSw); go_simp; try with_reducible rfl⟩) (by assumption) ?_
            try simp only [Act.put, List.getElem_toArray, List.getElem_cons_zero, List.getElem_cons_succ, List.setIfInBounds_toArray, List.set_cons_zero, List.set_cons_succ]
            refine wpAnyH_take (i := 6) (v := ?_) rfl (by kernel_rfl) (by kernel_rfl) (by kernel_rfl) (fun _ _ _ h => h) (Or.inl ⟨by rfl, by intro w hSw; (try dsimp only at hSw); go_simp; try with_reducible rfl⟩) (by assumption) ?_
            try simp only [Act.put, List.getElem_toArray, List.getElem_cons_zero, List.getElem_cons_succ, List.setIfInBounds_toArray, List.set_cons_zero, List.set_cons_succ]
            refine wpAnyH_take (i := 7) (v := ?_) rfl (by kernel_rfl) (by kernel_rfl) (by kernel_rfl) (fun _ _ _ h => h) (Or.inl ⟨by rfl, by intro w hSw; (try dsimp only at hSw); go_simp; try with_reducible rfl⟩) (by assumption) ?_
            try simp only [Act.put, List.getElem_toArray, List.getElem_cons_zero, List.getElem_cons_succ, List.setIfInBounds_toArray, List.set_cons_zero, List.set_cons_succ]
            refine wpAnyH_ready (rs := [8]) (by kernel_rfl) (by simp) (AllReadyH.cons rfl (fun K hK => ?_) AllReadyH.nil)
            rw [if_pos (by rfl)]
            simp only [List.getElem_toArray, List.getElem_cons_zero, List.getElem_cons_succ]
            go_wp2_with (go_at_call 109; refine (call_lie4 FF.out (by assumption) (whNumber_any _ _ _ _ HASK.out)).mono ?_; rw [← HNU.out]; rintro e w3 ⟨rfl, hS⟩)
            refine hK.out _ _ hS (fun hHeld => ?_)
            clear hK K
            try simp only [Act.put, List.getElem_toArray, List.getElem_cons_zero, List.getElem_cons_succ, List.setIfInBounds_toArray, List.set_cons_zero, List.set_cons_succ]
            refine wpAnyH_take (i := 9) (v := ?_) rfl (by kernel_rfl) (by kernel_rfl) (by kernel_rfl) (fun _ _ _ h => h) (Or.inl ⟨by rfl, by intro w hSw; (try dsimp only at hSw); go_simp; try with_reducible rfl⟩) (by assumption) ?_
            try simp only [Act.put, List.getElem_toArray, List.getElem_cons_zero, List.getElem_cons_succ, List.setIfInBounds_toArray, List.set_cons_zero, List.set_cons_succ]
            refine wpAnyH_take (i := 10) (v := ?_) rfl (by kernel_rfl) (by kernel_rfl) (by kernel_rfl) (fun _ _ _ h => h) (Or.inl ⟨by rfl, by intro w hSw; (try dsimp only at hSw); go_simp; try with_reducible rfl⟩) (by assumption) ?_
            try simp only [Act.put, List.getElem_toArray, List.getElem_cons_zero, List.getElem_cons_succ, List.setIfInBounds_toArray, List.set_cons_zero, List.set_cons_succ]
            refine wpAnyH_take (i := 11) (v := ?_) rfl (by kernel_rfl) (by kernel_rfl) (by kernel_rfl) (fun _ _ _ h => h) (Or.inl ⟨by rfl, by intro w hSw; (try dsimp only at hSw); go_simp; try with_reducible rfl⟩) (by assumption) ?_
            try simp only [Act.put, List.getElem_toArray, List.getElem_cons_zero, List.getElem_cons_succ, List.setIfInBounds_toArray, List.set_cons_zero, List.set_cons_succ]
            refine wpAnyH_take (i := 12) (v := ?_) rfl (by kernel_rfl) (by kernel_rfl) (by kernel_rfl) (fun _ _ _ h => h) (Or.inl ⟨by rfl, by intro w hSw; (try dsimp only at hSw); go_simp; try with_reducible rfl⟩) (by assumption) ?_
            try simp only [Act.put, List.getElem_toArray, List.getElem_cons_zero, List.getElem_cons_succ, List.setIfInBounds_toArray, List.set_cons_zero, List.set_cons_succ]
            refine wpAnyH_take (i := 13) (v := undef) rfl (by kernel_rfl) (by kernel_rfl) (by kernel_rfl) (fun _ _ _ h => h) (Or.inr ⟨by rfl, rfl⟩) (by assumption) ?_
            try simp only [Act.put, List.getElem_toArray, List.getElem_cons_zero, List.getElem_cons_succ, List.setIfInBounds_toArray, List.set_cons_zero, List.set_cons_succ]
            refine wpAnyH_take (i := 14) (v := undef) rfl (by kernel_rfl) (by kernel_rfl) (by kernel_rfl) (fun _ _ _ h => h) (Or.inr ⟨by rfl, rfl⟩) (by assumption) ?_
            try simp only [Act.put, List.getElem_toArray, List.getElem_cons_zero, List.getElem_cons_succ, List.setIfInBounds_toArray, List.set_cons_zero, List.set_cons_succ]
            refine wpAnyH_take (i := 15) (v := undef) rfl (by kernel_rfl) (by kernel_rfl) (by kernel_rfl) (fun _ _ _ h => h) (Or.inr ⟨by rfl, rfl⟩) (by assumption) ?_
            try simp only [Act.put, List.getElem_toArray, List.getElem_cons_zero, List.getElem_cons_succ, List.setIfInBounds_toArray, List.set_cons_zero, List.set_cons_succ]
            refine wpAnyH_take (i := 16) (v := undef) rfl (by kernel_rfl) (by kernel_rfl) (by kernel_rfl) (fun _ _ _ h => h) (Or.inr ⟨by rfl, rfl⟩) (by assumption) ?_
            try simp only [Act.put, List.getElem_toArray, List.getElem_cons_zero, List.getElem_cons_succ, List.setIfInBounds_toArray, List.set_cons_zero, List.set_cons_succ]
            refine wpAnyH_take (i := 17) (v := undef) rfl (by kernel_rfl) (by kernel_rfl) (by kernel_rfl) (fun _ _ _ h => h) (Or.inr ⟨by rfl, rfl⟩) (by assumption) ?_
            try simp only [Act.put, List.getElem_toArray, List.getElem_cons_zero, List.getElem_cons_succ, List.setIfInBounds_toArray, List.set_cons_zero, List.set_cons_succ]
            refine wpAnyH_take (i := 18) (v := undef) rfl (by kernel_rfl) (by kernel_rfl) (by kernel_rfl) (fun _ _ _ h => h) (Or.inr ⟨by rfl, rfl⟩) (by assumption) ?_
            try simp only [Act.put, List.getElem_toArray, List.getElem_cons_zero, List.getElem_cons_succ, List.setIfInBounds_toArray, List.set_cons_zero, List.set_cons_succ]
            refine wpAnyH_take (i := 19) (v := undef) rfl (by kernel_rfl) (by kernel_rfl) (by kernel_rfl) (fun _ _ _ h => h) (Or.inr ⟨by rfl, rfl⟩) (by assumption) ?_
            try simp only [Act.put, List.getElem_toArray, List.getElem_cons_zero, List.getElem_cons_succ, List.setIfInBounds_toArray, List.set_cons_zero, List.set_cons_succ]
            refine wpAnyH_take (i := 20) (v := undef) rfl (by kernel_rfl) (by kernel_rfl) (by kernel_rfl) (fun _ _ _ h => h) (Or.inr ⟨by rfl, rfl⟩) (by assumption) ?_
            try simp only [Act.put, List.getElem_toArray, List.getElem_cons_zero, List.getElem_cons_succ, List.setIfInBounds_toArray, List.set_cons_zero, List.set_cons_succ]
            refine wpAnyH_take (i := 21) (v := undef) rfl (by kernel_rfl) (by kernel_rfl) (by kernel_rfl) (fun _ _ _ h => h) (Or.inr ⟨by rfl, rfl⟩) (by assumption) ?_
            try simp only [Act.put, List.getElem_toArray, List.getElem_cons_zero, List.getElem_cons_succ, List.setIfInBounds_toArray, List.set_cons_zero, List.set_cons_succ]
            refine wpAnyH_take (i := 22) (v := undef) rfl (by kernel_rfl) (by kernel_rfl) (by kernel_rfl) (fun _ _ _ h => h) (Or.inr ⟨by rfl, rfl⟩) (by assumption) ?_
            try simp only [Act.put, List.getElem_toArray, List.getElem_cons_zero, List.getElem_cons_succ, List.setIfInBounds_toArray, List.set_cons_zero, List.set_cons_succ]
            refine wpAnyH_take (i := 23) (v := undef) rfl (by kernel_rfl) (by kernel_rfl) (by kernel_rfl) (fun _ _ _ h => h) (Or.inr ⟨by rfl, rfl⟩) (by assumption) ?_
            try simp only [Act.put, List.getElem_toArray, List.getElem_cons_zero, List.getElem_cons_succ, List.setIfInBounds_toArray, List.set_cons_zero, List.set_cons_succ]
            refine wpAnyH_take (i := 24) (v := undef) rfl (by kernel_rfl) (by kernel_rfl) (by kernel_rfl) (fun _ _ _ h => h) (Or.inr ⟨by rfl, rfl⟩) (by assumption) ?_
            try simp only [Act.put, List.getElem_toArray, List.getElem_cons_zero, List.getElem_cons_succ, List.setIfInBounds_toArray, List.set_cons_zero, List.set_cons_succ]
            refine wpAnyH_take (i := 25) (v := undef) rfl (by kernel_rfl) (by kernel_rfl) (by kernel_rfl) (fun _ _ _ h => h) (Or.inr ⟨by rfl, rfl⟩) (by assumption) ?_
            try simp only [Act.put, List.getElem_toArray, List.getElem_cons_zero, List.getElem_cons_succ, List.setIfInBounds_toArray, List.set_cons_zero, List.set_cons_succ]
            refine wpAnyH_take (i := 26) (v := ?_) rfl (by kernel_rfl) (by kernel_rfl) (by kernel_rfl) (fun _ _ _ h => h) (Or.inl ⟨by rfl, by intro w hSw; (try dsimp only at hSw); go_simp; try with_reducible rfl⟩) (by assumption) ?_
            try simp only [Act.put, List.getElem_toArray, List.getElem_cons_zero, List.getElem_cons_succ, List.setIfInBounds_toArray, List.set_cons_zero, List.set_cons_succ]
            refine wpAnyH_done (by kernel_rfl) ?_ _
            all_goals
              go_wp2_with fail
              go_ret
              exact ⟨ret_bool HO.out.symm, HST.out.bel.trans (hS.2.2.2.2.mono HST.out.bel.size)⟩
          · have HM := Lib.hid (Bool.eq_false_iff.2 hm)
            have o2 : wr.cell? ⟨g, u, none⟩ = some (.bool false) := by rw [HST.out.seen.cell hnl, HSE.out, HM.out]
            clear hm
            rcases k with _ | m
            · rw [Nat.add_zero] at o1
              have HOK := Lib.hid (ok_first (a := (an : Int)) (b := b) (ts := ts) (by rw [HSS.out]; exact HASK.out))
              have FF := Lib.hid (show Lie4 wr ⟨w.heap.size, 0, none⟩ ⟨w.heap.size, 1, none⟩ ⟨g, u, none⟩ ⟨w.heap.size, 0, none⟩ (.int .i64 an) (.int .i64 b) (.bool false) (.int .i64 an) from ⟨⟨l0, zw⟩, ⟨l1, zw⟩, ⟨o2, zg⟩, ⟨l0, zw⟩⟩)
              go_wp2_with fail
              refine wp_region_held_drew (S := (fun w' => w'.cell? ⟨w.heap.size, 0, none⟩ = some (.int .i64 an) ∧ w'.cell? ⟨w.heap.size, 1, none⟩ = some (.int .i64 b) ∧ w'.cell? ⟨g, u, none⟩ = some (.bool false) ∧ w'.cell? ⟨w.heap.size, 0, none⟩ = some (.int .i64 an) ∧ Below wr.heap.size wr w')) (by kernel_rfl) ⟨l0, l1, o2, l0, bel_drew (Below.refl _ _)⟩ (fun hHeld => ?_)
              refine wpAnyH_take (i := 0) (v := ?_) rfl (by kernel_rfl) (by kernel_rfl) (by kernel_rfl) (fun _ _ _ h => h) (Or.inl ⟨by rfl, by intro w hSw; (try dsimp only at hSw); go_simp; try with_reducible rfl⟩) (by assumption) ?_
              try simp only [Act.put, List.getElem_toArray, List.getElem_cons_zero, List.setIfInBounds_toArray, List.set_cons_zero, List.set_cons_succ]
              refine wpAnyH_take (i := 1) (v := ?_) rfl (by kernel_rfl) (by kernel_rfl) (by kernel_rfl) (fun _ _ _ h => h) (Or.inl ⟨by rfl, by intro w hSw; (try dsimp only at hSw); go_simp; try with_reducible rfl⟩) (by assumption) ?_
              try simp only [Act.put, List.getElem_toArray, List.getElem_cons_zero, List.getElem_cons_succ, List.setIfInBounds_toArray, List.set_cons_zero, List.set_cons_succ]
              refine wpAnyH_ready (rs := [2]) (by kernel_rfl) (by simp) (AllReadyH.cons rfl (fun K hK => ?_) AllReadyH.nil)
              go_wp2_with (go_at_call 99; refine (call_lie4 FF.out (by assumption) (whCode_any _ _ _ _ HSK.out HG.out)).mono ?_; rw [HCO.out]; rintro e w2 ⟨rfl, hS⟩)
              refine hK.out _ _ hS (fun hHeld => ?_)
              clear hK K
              try simp only [Act.put, List.getElem_toArray, List.getElem_cons_zero, List.getElem_cons_succ, List.setIfInBounds_toArray, List.set_cons_zero, List.set_cons_succ]
              refine wpAnyH_take (i := 3) (v := ?_) rfl (by kernel_rfl) (by kernel_rfl) (by kernel_rfl) (fun _ _ _ h => h) (Or.inl ⟨by rfl, by intro w hSw; (try dsimp only at hSw); go_simp; try with_reducible rfl⟩) (by assumption) ?_
              try simp only [Act.put, List.getElem_toArray, List.getElem_cons_zero, List.getElem_cons_succ, List.setIfInBounds_toArray, List.set_cons_zero, List.set_cons_succ]
              refine wpAnyH_take (i := 4) (v := ?_) rfl (by kernel_rfl) (by kernel_rfl) (by kernel_rfl) (fun _ _ _ h => h) (Or.inl ⟨by rfl, by intro w hSw; (try dsimp only at hSw); go_simp; try with_reducible rfl⟩) (by assumption) ?_
              try simp only [Act.put, List.getElem_toArray, List.getElem_cons_zero, List.getElem_cons_succ, List.setIfInBounds_toArray, List.set_cons_zero, List.set_cons_succ]
              refine wpAnyH_take (i := 5) (v := ?_) rfl (by kernel_rfl) (by kernel_rfl) (by kernel_rfl) (fun _ _ _ h => h) (Or.inl ⟨by rfl, by intro w hSw; (try dsimp only at hSw); go_simp; try with_reducible rfl⟩) (by assumption) ?_
              try simp only [Act.put, List.getElem_toArray, List.getElem_cons_zero, List.getElem_cons_succ, List.setIfInBounds_toArray, List.set_cons_zero, List.set_cons_succ]
              refine wpAnyH_take (i := 6) (v := ?_) rfl (by kernel_rfl) (by kernel_rfl) (by kernel_rfl) (fun _ _ _ h => h) (Or.inl ⟨by rfl, by intro w hSw; (try dsimp only at hSw); go_simp; try with_reducible rfl⟩) (by assumption) ?_
              try simp only [Act.put, List.getElem_toArray, List.getElem_cons_zero, List.getElem_cons_succ, List.setIfInBounds_toArray, List.set_cons_zero, List.set_cons_succ]
              refine wpAnyH_take (i := 7) (v := ?_) rfl (by kernel_rfl) (by kernel_rfl) (by kernel_rfl) (fun _ _ _ h => h) (Or.inl ⟨by rfl, by intro w hSw; (try dsimp only at hSw); go_simp; try with_reducible rfl⟩) (by assumption) ?_
              try simp only [Act.put, List.getElem_toArray, List.getElem_cons_zero, List.getElem_cons_succ, List.setIfInBounds_toArray, List.set_cons_zero, List.set_cons_succ]
              refine wpAnyH_ready (rs := [8]) (by kernel_rfl) (by simp) (AllReadyH.cons rfl (fun K hK => ?_) AllReadyH.nil)
              rw [if_pos (by rfl)]
              simp only [List.getElem_toArray, List.getElem_cons_zero, List.getElem_cons_succ]
              go_wp2_with (go_at_call 109; refine (call_lie4 FF.out (by assumption) (whNumber_any _ _ _ _ HASK.out)).mono ?_; rw [← HNU.out]; rintro e w3 ⟨rfl, hS⟩)
              refine hK.out _ _ hS (fun hHeld => ?_)
              clear hK K
              try simp only [Act.put, List.getElem_toArray, List.getElem_cons_zero, List.getElem_cons_succ, List.setIfInBounds_toArray, List.set_cons_zero, List.set_cons_succ]
              refine wpAnyH_take (i := 9) (v := ?_) rfl (by kernel_rfl) (by kernel_rfl) (by kernel_rfl) (fun _ _ _ h => h) (Or.inl ⟨by rfl, by intro w hSw; (try dsimp only at hSw); go_simp; try with_reducible rfl⟩) (by assumption) ?_
              try simp only [Act.put, List.getElem_toArray, List.getElem_cons_zero, List.getElem_cons_succ, List.setIfInBounds_toArray, List.set_cons_zero, List.set_cons_succ]
              refine wpAnyH_take (i := 10) (v := ?_) rfl (by kernel_rfl) (by kernel_rfl) (by kernel_rfl) (fun _ _ _ h => h) (Or.inl ⟨by rfl, by intro w hSw; (try dsimp only at hSw); go_simp; try with_reducible rfl⟩) (by assumption) ?_
              try simp only [Act.put, List.getElem_toArray, List.getElem_cons_zero, List.getElem_cons_succ, List.setIfInBounds_toArray, List.set_cons_zero, List.set_cons_succ]
              refine wpAnyH_take (i := 11) (v := ?_) rfl (by kernel_rfl) (by kernel_rfl) (by kernel_rfl) (fun _ _ _ h => h) (Or.inl ⟨by rfl, by intro w hSw; (try dsimp only at hSw); go_simp; try with_reducible rfl⟩) (by assumption) ?_
              try simp only [Act.put, List.getElem_toArray, List.getElem_cons_zero, List.getElem_cons_succ, List.setIfInBounds_toArray, List.set_cons_zero, List.set_cons_succ]
              refine wpAnyH_take (i := 12) (v := ?_) rfl (by kernel_rfl) (by kernel_rfl) (by kernel_rfl) (fun _ _ _ h => h) (Or.inl ⟨by rfl, by intro w hSw; (try dsimp only at hSw); go_simp; try with_reducible rfl⟩) (by assumption) ?_
              try simp only [Act.put, List.getElem_toArray, List.getElem_cons_zero, List.getElem_cons_succ, List.setIfInBounds_toArray, List.set_cons_zero, List.set_cons_succ]
              refine wpAnyH_take (i := 13) (v := ?_) rfl (by kernel_rfl) (by kernel_rfl) (by kernel_rfl) (fun _ _ _ h => h) (Or.inl ⟨by rfl, by intro w hSw; (try dsimp only at hSw); go_simp; try with_reducible rfl⟩) (by assumption) ?_
              try simp only [Act.put, List.getElem_toArray, List.getElem_cons_zero, List.getElem_cons_succ, List.setIfInBounds_toArray, List.set_cons_zero, List.set_cons_succ]
              refine wpAnyH_take (i := 14) (v := ?_) rfl (by kernel_rfl) (by kernel_rfl) (by kernel_rfl) (fun _ _ _ h => h) (Or.inl ⟨by rfl, by intro w hSw; (try dsimp only at hSw); go_simp; try with_reducible rfl⟩) (by assumption) ?_
              try simp only [Act.put, List.getElem_toArray, List.getElem_cons_zero, List.getElem_cons_succ, List.setIfInBounds_toArray, List.set_cons_zero, List.set_cons_succ]
              refine wpAnyH_take (i := 15) (v := ?_) rfl (by kernel_rfl) (by kernel_rfl) (by kernel_rfl) (fun _ _ _ h => h) (Or.inl ⟨by rfl, by intro w hSw; (try dsimp only at hSw); go_simp; try with_reducible rfl⟩) (by assumption) ?_
              try simp only [Act.put, List.getElem_toArray, List.getElem_cons_zero, List.getElem_cons_succ, List.setIfInBounds_toArray, List.set_cons_zero, List.set_cons_succ]
              refine wpAnyH_take (i := 16) (v := undef) rfl (by kernel_rfl) (by kernel_rfl) (by kernel_rfl) (fun _ _ _ h => h) (Or.inr ⟨by rfl, rfl⟩) (by assumption) ?_
              try simp only [Act.put, List.getElem_toArray, List.getElem_cons_zero, List.getElem_cons_succ, List.setIfInBounds_toArray, List.set_cons_zero, List.set_cons_succ]
              refine wpAnyH_take (i := 17) (v := undef) rfl (by kernel_rfl) (by kernel_rfl) (by kernel_rfl) (fun _ _ _ h => h) (Or.inr ⟨by rfl, rfl⟩) (by assumption) ?_
              try simp only [Act.put, List.getElem_toArray, List.getElem_cons_zero, List.getElem_cons_succ, List.setIfInBounds_toArray, List.set_cons_zero, List.set_cons_succ]
              refine wpAnyH_take (i := 18) (v := undef) rfl (by kernel_rfl) (by kernel_rfl) (by kernel_rfl) (fun _ _ _ h => h) (Or.inr ⟨by rfl, rfl⟩) (by assumption) ?_
              try simp only [Act.put, List.getElem_toArray, List.getElem_cons_zero, List.getElem_cons_succ, List.setIfInBounds_toArray, List.set_cons_zero, List.set_cons_succ]
              refine wpAnyH_take (i := 19) (v := undef) rfl (by kernel_rfl) (by kernel_rfl) (by kernel_rfl) (fun _ _ _ h => h) (Or.inr ⟨by rfl, rfl⟩) (by assumption) ?_
              try simp only [Act.put, List.getElem_toArray, List.getElem_cons_zero, List.getElem_cons_succ, List.setIfInBounds_toArray, List.set_cons_zero, List.set_cons_succ]
              refine wpAnyH_take (i := 20) (v := undef) rfl (by kernel_rfl) (by kernel_rfl) (by kernel_rfl) (fun _ _ _ h => h) (Or.inr ⟨by rfl, rfl⟩) (by assumption) ?_
              try simp only [Act.put, List.getElem_toArray, List.getElem_cons_zero, List.getElem_cons_succ, List.setIfInBounds_toArray, List.set_cons_zero, List.set_cons_succ]
              refine wpAnyH_take (i := 21) (v := undef) rfl (by kernel_rfl) (by kernel_rfl) (by kernel_rfl) (fun _ _ _ h => h) (Or.inr ⟨by rfl, rfl⟩) (by assumption) ?_
              try simp only [Act.put, List.getElem_toArray, List.getElem_cons_zero, List.getElem_cons_succ, List.setIfInBounds_toArray, List.set_cons_zero, List.set_cons_succ]
              refine wpAnyH_take (i := 22) (v := undef) rfl (by kernel_rfl) (by kernel_rfl) (by kernel_rfl) (fun _ _ _ h => h) (Or.inr ⟨by rfl, rfl⟩) (by assumption) ?_
              try simp only [Act.put, List.getElem_toArray, List.getElem_cons_zero, List.getElem_cons_succ, List.setIfInBounds_toArray, List.set_cons_zero, List.set_cons_succ]
              refine wpAnyH_take (i := 23) (v := undef) rfl (by kernel_rfl) (by kernel_rfl) (by kernel_rfl) (fun _ _ _ h => h) (Or.inr ⟨by rfl, rfl⟩) (by assumption) ?_
              try simp only [Act.put, List.getElem_toArray, List.getElem_cons_zero, List.getElem_cons_succ, List.setIfInBounds_toArray, List.set_cons_zero, List.set_cons_succ]
              refine wpAnyH_take (i := 24) (v := undef) rfl (by kernel_rfl) (by kernel_rfl) (by kernel_rfl) (fun _ _ _ h => h) (Or.inr ⟨by rfl, rfl⟩) (by assumption) ?_
              try simp only [Act.put, List.getElem_toArray, List.getElem_cons_zero, List.getElem_cons_succ, List.setIfInBounds_toArray, List.set_cons_zero, List.set_cons_succ]
              refine wpAnyH_take (i := 25) (v := ?_) rfl (by kernel_rfl) (by kernel_rfl) (by kernel_rfl) (fun _ _ _ h => h) (Or.inl ⟨by rfl, by intro w hSw; (try dsimp only at hSw); go_simp; try with_reducible rfl⟩) (by assumption) ?_
              try simp only [Act.put, List.getElem_toArray, List.getElem_cons_zero, List.getElem_cons_succ, List.setIfInBounds_toArray, List.set_cons_zero, List.set_cons_succ]
              refine wpAnyH_take (i := 26) (v := ?_) rfl (by kernel_rfl) (by kernel_rfl) (by kernel_rfl) (fun _ _ _ h => h) (Or.inl ⟨by rfl, by intro w hSw; (try dsimp only at hSw); go_simp; try with_reducible rfl⟩) (by assumption) ?_
              try simp only [Act.put, List.getElem_toArray, List.getElem_cons_zero, List.getElem_cons_succ, List.setIfInBounds_toArray, List.set_cons_zero, List.set_cons_succ]
              refine wpAnyH_done (by kernel_rfl) ?_ _
              have STW := Lib.hid (HST.out.call hS.2.2.2.2)
              have hS0 := hS.1
              have hS1 := hS.2.1
              go_wp2_with (go_at_call 109; refine (whNumber_any _ _ _ _ HASK.out).mono ?_; rw [← HNU.out]; rintro e w5 ⟨rfl, hb5⟩
                           have ST5 := Lib.hid (STW.out.call hb5)
                           have v5 := ST5.out.seen.frozen hnl
                           have v6 := ST5.out.seen.cell hnl
                           clear hb5)
              have STP := Lib.hid (HPUT.out _ ST5.out hnl)
              go_roundw
              case rel => exact ⟨1, by omega, by go_num, allR_snoc HAL.out HOK.out, STP.out⟩
              case measure => simp [intOf]; omega
            · obtain ⟨t, ht⟩ : ∃ t, ts.getD m ByteArray.empty = t := ⟨_, rfl⟩
              have HTT := Lib.hid ht
              have HTA : Hid (askB an b t = true) := Lib.hid (by
                rw [← ht]
                have := HAL.out
                rw [List.all_eq_true] at this
                exact ok_ask (this m (List.mem_range.2 (by omega))))
              have H2 : Hid (twoB an b t s = true) := Lib.hid (by unfold twoB; rw [HTA.out, HASK.out]; rfl)
              obtain ⟨q, hq⟩ : ∃ q, otB an b t s = q := ⟨_, rfl⟩
              have HOK : Hid (okAt an b ts (m + 1) = q) := Lib.hid (by rw [ok_next (by rw [HSS.out]; exact HASK.out) (by rw [HSS.out]; exact HM.out), HTT.out, HSS.out, hq])
              have o3 : wr.cell? ⟨D, off + m, none⟩ = some (.string t) := ((HST.out.bel.cell (p := ⟨D, off + m, none⟩) hbD).trans (HCD.out m (by omega))).trans (by rw [HTT.out])
              have hdq := dist_fact H2.out hq
              have hk0 : (0 : Int) < (m : Int) + 1 := by omega
              have hk1 : m < n := by omega
              have hw1 : IntKind.i64.wrap (m : Int) = (m : Int) := IntWalk.i64_in _ (by omega)
              clear ht hq
              generalize hfz : fewZ an b t s = fz at hdq
              have HFZ := Lib.hid hfz
              clear hfz
              by_cases hqq : q = true
              · rw [hqq] at HOK hdq
                have hdd : (fz != 1) = false := hdq
                have FF := Lib.hid (show Lie4 wr ⟨w.heap.size, 0, none⟩ ⟨w.heap.size, 1, none⟩ ⟨g, u, none⟩ ⟨D, off + m, none⟩ (.int .i64 an) (.int .i64 b) (.bool false) (.string t) from ⟨⟨l0, zw⟩, ⟨l1, zw⟩, ⟨o2, zg⟩, ⟨o3, zD⟩⟩)
                go_wp2_with fail
                go_region_held3 (fun w' => w'.cell? ⟨w.heap.size, 0, none⟩ = some (.int .i64 an) ∧ w'.cell? ⟨w.heap.size, 1, none⟩ = some (.int .i64 b) ∧ w'.cell? ⟨g, u, none⟩ = some (.bool false) ∧ w'.cell? ⟨D, off + m, none⟩ = some (.string t) ∧ Below wr.heap.size wr w') (first | assumption | exact ⟨l0, l1, o2, o3, bel_drew (Below.refl _ _)⟩ | go_keep)
                  (first
                    | (go_at_call 99; refine (call_lie4 FF.out (by assumption) (whCode_any _ _ _ _ HSK.out HG.out)).mono ?_; rw [HCO.out]; rintro e w2 ⟨rfl, hS⟩)
                    | (go_at_call 109; refine (call_lie4 FF.out (by assumption) (whNumber_any _ _ _ _ HASK.out)).mono ?_; rw [← HNU.out]; rintro e w3 ⟨rfl, hS⟩)
                    | (go_at_call 92; refine (call_lie4 FF.out (by assumption) (whDistance_any _ _ _ _ _ H2.out)).mono ?_; rw [HFZ.out]; rintro e w4 ⟨rfl, hS⟩))
                have STW := Lib.hid (HST.out.call hS.2.2.2.2)
                have hS0 := hS.1
                have hS1 := hS.2.1
                go_wp2_with (go_at_call 109; refine (whNumber_any _ _ _ _ HASK.out).mono ?_; rw [← HNU.out]; rintro e w5 ⟨rfl, hb5⟩
                             have ST5 := Lib.hid (STW.out.call hb5)
                             have v5 := ST5.out.seen.frozen hnl
                             have v6 := ST5.out.seen.cell hnl
                             clear hb5)
                have STP := Lib.hid (HPUT.out _ ST5.out hnl)
                go_roundw
                case rel => exact ⟨m + 1 + 1, by omega, by go_num, allR_snoc HAL.out HOK.out, STP.out⟩
                case measure => simp [intOf]; omega
              · have hqf := Bool.eq_false_iff.2 hqq
                rw [hqf] at HOK hdq
                have hdd : (fz != 1) = true := hdq
                have HO : Hid (orB an b ts = false) := Lib.hid (HNO.out HOK.out)
                have FF := Lib.hid (show Lie4 wr ⟨w.heap.size, 0, none⟩ ⟨w.heap.size, 1, none⟩ ⟨g, u, none⟩ ⟨D, off + m, none⟩ (.int .i64 an) (.int .i64 b) (.bool false) (.string t) from ⟨⟨l0, zw⟩, ⟨l1, zw⟩, ⟨o2, zg⟩, ⟨o3, zD⟩⟩)
                go_wp2_with fail
                go_region_held3 (fun w' => w'.cell? ⟨w.heap.size, 0, none⟩ = some (.int .i64 an) ∧ w'.cell? ⟨w.heap.size, 1, none⟩ = some (.int .i64 b) ∧ w'.cell? ⟨g, u, none⟩ = some (.bool false) ∧ w'.cell? ⟨D, off + m, none⟩ = some (.string t) ∧ Below wr.heap.size wr w') (first | assumption | exact ⟨l0, l1, o2, o3, bel_drew (Below.refl _ _)⟩ | go_keep)
                  (first
                    | (go_at_call 99; refine (call_lie4 FF.out (by assumption) (whCode_any _ _ _ _ HSK.out HG.out)).mono ?_; rw [HCO.out]; rintro e w2 ⟨rfl, hS⟩)
                    | (go_at_call 109; refine (call_lie4 FF.out (by assumption) (whNumber_any _ _ _ _ HASK.out)).mono ?_; rw [← HNU.out]; rintro e w3 ⟨rfl, hS⟩)
                    | (go_at_call 92; refine (call_lie4 FF.out (by assumption) (whDistance_any _ _ _ _ _ H2.out)).mono ?_; rw [HFZ.out]; rintro e w4 ⟨rfl, hS⟩))
                all_goals
                  go_wp2_with fail
                  go_ret
                  exact ⟨ret_bool HO.out.symm, HST.out.bel.trans (hS.2.2.2.2.mono HST.out.bel.size)⟩
        · have HC2 := Lib.hid (Bool.eq_false_iff.2 hc)
          have HO : Hid (orB an b ts = false) := Lib.hid (HNO.out (ok_code (by rw [HSS.out]; unfold askB; rw [HC2.out, Bool.and_false])))
          clear hc
          have FF := Lib.hid (show Lie4 wr ⟨w.heap.size, 0, none⟩ ⟨w.heap.size, 1, none⟩ ⟨w.heap.size, 0, none⟩ ⟨w.heap.size, 0, none⟩ (.int .i64 an) (.int .i64 b) (.int .i64 an) (.int .i64 an) from ⟨⟨l0, zw⟩, ⟨l1, zw⟩, ⟨l0, zw⟩, ⟨l0, zw⟩⟩)
          go_wp2_with fail
          refine wp_region_held_drew (S := (fun w' => w'.cell? ⟨w.heap.size, 0, none⟩ = some (.int .i64 an) ∧ w'.cell? ⟨w.heap.size, 1, none⟩ = some (.int .i64 b) ∧ w'.cell? ⟨w.heap.size, 0, none⟩ = some (.int .i64 an) ∧ w'.cell? ⟨w.heap.size, 0, none⟩ = some (.int .i64 an) ∧ Below wr.heap.size wr w')) (by kernel_rfl) ⟨l0, l1, l0, l0, bel_drew (Below.refl _ _)⟩ (fun hHeld => ?_)
          refine wpAnyH_take (i := 0) (v := ?_) rfl (by kernel_rfl) (by kernel_rfl) (by kernel_rfl) (fun _ _ _ h => h) (Or.inl ⟨by rfl, by intro w hSw; (try dsimp only at hSw); go_simp; try with_reducible rfl⟩) (by assumption) ?_
          try simp only [Act.put, List.getElem_toArray, List.getElem_cons_zero, List.setIfInBounds_toArray, List.set_cons_zero, List.set_cons_succ]
          refine wpAnyH_take (i := 1) (v := ?_) rfl (by kernel_rfl) (by kernel_rfl) (by kernel_rfl) (fun _ _ _ h => h) (Or.inl ⟨by rfl, by intro w hSw; (try dsimp only at hSw); go_simp; try with_reducible rfl⟩) (by assumption) ?_
          try simp only [Act.put, List.getElem_toArray, List.getElem_cons_zero, List.getElem_cons_succ, List.setIfInBounds_toArray, List.set_cons_zero, List.set_cons_succ]
          refine wpAnyH_ready (rs := [2]) (by kernel_rfl) (by simp) (AllReadyH.cons rfl (fun K hK => ?_) AllReadyH.nil)
          go_wp2_with (go_at_call 99; refine (call_lie4 FF.out (by assumption) (whCode_any _ _ _ _ HSK.out HG.out)).mono ?_; rw [HC2.out]; rintro e w2 ⟨rfl, hS⟩)
          refine hK.out _ _ hS (fun hHeld => ?_)
          clear hK K
          try simp only [Act.put, List.getElem_toArray, List.getElem_cons_zero, List.getElem_cons_succ, List.setIfInBounds_toArray, List.set_cons_zero, List.set_cons_succ]
          refine wpAnyH_take (i := 3) (v := ?_) rfl (by kernel_rfl) (by kernel_rfl) (by kernel_rfl) (fun _ _ _ h => h) (Or.inl ⟨by rfl, by intro w hSw; (try dsimp only at hSw); go_simp; try with_reducible rfl⟩) (by assumption) ?_
          try simp only [Act.put, List.getElem_toArray, List.getElem_cons_zero, List.getElem_cons_succ, List.setIfInBounds_toArray, List.set_cons_zero, List.set_cons_succ]
          refine wpAnyH_take (i := 4) (v := ?_) rfl (by kernel_rfl) (by kernel_rfl) (by kernel_rfl) (fun _ _ _ h => h) (Or.inl ⟨by rfl, by intro w hSw; (try dsimp only at hSw); go_simp; try with_reducible rfl⟩) (by assumption) ?_
          try simp only [Act.put, List.getElem_toArray, List.getElem_cons_zero, List.getElem_cons_succ, List.setIfInBounds_toArray, List.set_cons_zero, List.set_cons_succ]
          refine wpAnyH_take (i := 5) (v := undef) rfl (by kernel_rfl) (by kernel_rfl) (by kernel_rfl) (fun _ _ _ h => h) (Or.inr ⟨by rfl, rfl⟩) (by assumption) ?_
          try simp only [Act.put, List.getElem_toArray, List.getElem_cons_zero, List.getElem_cons_succ, List.setIfInBounds_toArray, List.set_cons_zero, List.set_cons_succ]
          refine wpAnyH_take (i := 6) (v := undef) rfl (by kernel_rfl) (by kernel_rfl) (by kernel_rfl) (fun _ _ _ h => h) (Or.inr ⟨by rfl, rfl⟩) (by assumption) ?_
          try simp only [Act.put, List.getElem_toArray, List.getElem_cons_zero, List.getElem_cons_succ, List.setIfInBounds_toArray, List.set_cons_zero, List.set_cons_succ]
          refine wpAnyH_take (i := 7) (v := undef) rfl (by kernel_rfl) (by kernel_rfl) (by kernel_rfl) (fun _ _ _ h => h) (Or.inr ⟨by rfl, rfl⟩) (by assumption) ?_
          try simp only [Act.put, List.getElem_toArray, List.getElem_cons_zero, List.getElem_cons_succ, List.setIfInBounds_toArray, List.set_cons_zero, List.set_cons_succ]
          refine wpAnyH_take (i := 8) (v := undef) rfl (by kernel_rfl) (by kernel_rfl) (by kernel_rfl) (fun _ _ _ h => h) (Or.inr ⟨by rfl, rfl⟩) (by assumption) ?_
          try simp only [Act.put, List.getElem_toArray, List.getElem_cons_zero, List.getElem_cons_succ, List.setIfInBounds_toArray, List.set_cons_zero, List.set_cons_succ]
          refine wpAnyH_take (i := 9) (v := undef) rfl (by kernel_rfl) (by kernel_rfl) (by kernel_rfl) (fun _ _ _ h => h) (Or.inr ⟨by rfl, rfl⟩) (by assumption) ?_
          try simp only [Act.put, List.getElem_toArray, List.getElem_cons_zero, List.getElem_cons_succ, List.setIfInBounds_toArray, List.set_cons_zero, List.set_cons_succ]
          refine wpAnyH_take (i := 10) (v := undef) rfl (by kernel_rfl) (by kernel_rfl) (by kernel_rfl) (fun _ _ _ h => h) (Or.inr ⟨by rfl, rfl⟩) (by assumption) ?_
          try simp only [Act.put, List.getElem_toArray, List.getElem_cons_zero, List.getElem_cons_succ, List.setIfInBounds_toArray, List.set_cons_zero, List.set_cons_succ]
          refine wpAnyH_take (i := 11) (v := ?_) rfl (by kernel_rfl) (by kernel_rfl) (by kernel_rfl) (fun _ _ _ h => h) (Or.inl ⟨by rfl, by intro w hSw; (try dsimp only at hSw); go_simp; try with_reducible rfl⟩) (by assumption) ?_
          try simp only [Act.put, List.getElem_toArray, List.getElem_cons_zero, List.getElem_cons_succ, List.setIfInBounds_toArray, List.set_cons_zero, List.set_cons_succ]
          refine wpAnyH_take (i := 12) (v := ?_) rfl (by kernel_rfl) (by kernel_rfl) (by kernel_rfl) (fun _ _ _ h => h) (Or.inl ⟨by rfl, by intro w hSw; (try dsimp only at hSw); go_simp; try with_reducible rfl⟩) (by assumption) ?_
          try simp only [Act.put, List.getElem_toArray, List.getElem_cons_zero, List.getElem_cons_succ, List.setIfInBounds_toArray, List.set_cons_zero, List.set_cons_succ]
          refine wpAnyH_take (i := 13) (v := undef) rfl (by kernel_rfl) (by kernel_rfl) (by kernel_rfl) (fun _ _ _ h => h) (Or.inr ⟨by rfl, rfl⟩) (by assumption) ?_
          try simp only [Act.put, List.getElem_toArray, List.getElem_cons_zero, List.getElem_cons_succ, List.setIfInBounds_toArray, List.set_cons_zero, List.set_cons_succ]
          refine wpAnyH_take (i := 14) (v := undef) rfl (by kernel_rfl) (by kernel_rfl) (by kernel_rfl) (fun _ _ _ h => h) (Or.inr ⟨by rfl, rfl⟩) (by assumption) ?_
          try simp only [Act.put, List.getElem_toArray, List.getElem_cons_zero, List.getElem_cons_succ, List.setIfInBounds_toArray, List.set_cons_zero, List.set_cons_succ]
          refine wpAnyH_take (i := 15) (v := undef) rfl (by kernel_rfl) (by kernel_rfl) (by kernel_rfl) (fun _ _ _ h => h) (Or.inr ⟨by rfl, rfl⟩) (by assumption) ?_
          try simp only [Act.put, List.getElem_toArray, List.getElem_cons_zero, List.getElem_cons_succ, List.setIfInBounds_toArray, List.set_cons_zero, List.set_cons_succ]
          refine wpAnyH_take (i := 16) (v := undef) rfl (by kernel_rfl) (by kernel_rfl) (by kernel_rfl) (fun _ _ _ h => h) (Or.inr ⟨by rfl, rfl⟩) (by assumption) ?_
          try simp only [Act.put, List.getElem_toArray, List.getElem_cons_zero, List.getElem_cons_succ, List.setIfInBounds_toArray, List.set_cons_zero, List.set_cons_succ]
          refine wpAnyH_take (i := 17) (v := undef) rfl (by kernel_rfl) (by kernel_rfl) (by kernel_rfl) (fun _ _ _ h => h) (Or.inr ⟨by rfl, rfl⟩) (by assumption) ?_
          try simp only [Act.put, List.getElem_toArray, List.getElem_cons_zero, List.getElem_cons_succ, List.setIfInBounds_toArray, List.set_cons_zero, List.set_cons_succ]
          refine wpAnyH_take (i := 18) (v := undef) rfl (by kernel_rfl) (by kernel_rfl) (by kernel_rfl) (fun _ _ _ h => h) (Or.inr ⟨by rfl, rfl⟩) (by assumption) ?_
          try simp only [Act.put, List.getElem_toArray, List.getElem_cons_zero, List.getElem_cons_succ, List.setIfInBounds_toArray, List.set_cons_zero, List.set_cons_succ]
          refine wpAnyH_take (i := 19) (v := undef) rfl (by kernel_rfl) (by kernel_rfl) (by kernel_rfl) (fun _ _ _ h => h) (Or.inr ⟨by rfl, rfl⟩) (by assumption) ?_
          try simp only [Act.put, List.getElem_toArray, List.getElem_cons_zero, List.getElem_cons_succ, List.setIfInBounds_toArray, List.set_cons_zero, List.set_cons_succ]
          refine wpAnyH_take (i := 20) (v := undef) rfl (by kernel_rfl) (by kernel_rfl) (by kernel_rfl) (fun _ _ _ h => h) (Or.inr ⟨by rfl, rfl⟩) (by assumption) ?_
          try simp only [Act.put, List.getElem_toArray, List.getElem_cons_zero, List.getElem_cons_succ, List.setIfInBounds_toArray, List.set_cons_zero, List.set_cons_succ]
          refine wpAnyH_take (i := 21) (v := undef) rfl (by kernel_rfl) (by kernel_rfl) (by kernel_rfl) (fun _ _ _ h => h) (Or.inr ⟨by rfl, rfl⟩) (by assumption) ?_
          try simp only [Act.put, List.getElem_toArray, List.getElem_cons_zero, List.getElem_cons_succ, List.setIfInBounds_toArray, List.set_cons_zero, List.set_cons_succ]
          refine wpAnyH_take (i := 22) (v := undef) rfl (by kernel_rfl) (by kernel_rfl) (by kernel_rfl) (fun _ _ _ h => h) (Or.inr ⟨by rfl, rfl⟩) (by assumption) ?_
          try simp only [Act.put, List.getElem_toArray, List.getElem_cons_zero, List.getElem_cons_succ, List.setIfInBounds_toArray, List.set_cons_zero, List.set_cons_succ]
          refine wpAnyH_take (i := 23) (v := undef) rfl (by kernel_rfl) (by kernel_rfl) (by kernel_rfl) (fun _ _ _ h => h) (Or.inr ⟨by rfl, rfl⟩) (by assumption) ?_
          try simp only [Act.put, List.getElem_toArray, List.getElem_cons_zero, List.getElem_cons_succ, List.setIfInBounds_toArray, List.set_cons_zero, List.set_cons_succ]
          refine wpAnyH_take (i := 24) (v := undef) rfl (by kernel_rfl) (by kernel_rfl) (by kernel_rfl) (fun _ _ _ h => h) (Or.inr ⟨by rfl, rfl⟩) (by assumption) ?_
          try simp only [Act.put, List.getElem_toArray, List.getElem_cons_zero, List.getElem_cons_succ, List.setIfInBounds_toArray, List.set_cons_zero, List.set_cons_succ]
          refine wpAnyH_take (i := 25) (v := undef) rfl (by kernel_rfl) (by kernel_rfl) (by kernel_rfl) (fun _ _ _ h => h) (Or.inr ⟨by rfl, rfl⟩) (by assumption) ?_
          try simp only [Act.put, List.getElem_toArray, List.getElem_cons_zero, List.getElem_cons_succ, List.setIfInBounds_toArray, List.set_cons_zero, List.set_cons_succ]
          refine wpAnyH_take (i := 26) (v := ?_) rfl (by kernel_rfl) (by kernel_rfl) (by kernel_rfl) (fun _ _ _ h => h) (Or.inl ⟨by rfl, by intro w hSw; (try dsimp only at hSw); go_simp; try with_reducible rfl⟩) (by assumption) ?_
          try simp only [Act.put, List.getElem_toArray, List.getElem_cons_zero, List.getElem_cons_succ, List.setIfInBounds_toArray, List.set_cons_zero, List.set_cons_succ]
          refine wpAnyH_done (by kernel_rfl) ?_ _
          all_goals
            go_wp2_with fail
            go_ret
            exact ⟨ret_bool HO.out.symm, HST.out.bel.trans (hS.2.2.2.2.mono HST.out.bel.size)⟩
      · obtain rfl : k = n := by omega
        have HO : Hid (orB an b ts = true) := Lib.hid (or_yes HG.out (by rw [HL.out]; exact h1) (by rw [HL.out]; exact HAL.out))
        go_wp2_with fail
        go_ret
        exact ⟨ret_bool HO.out.symm, HST.out.bel⟩
  · have HO : Hid (orB a b ts = false) := Lib.hid (by unfold orB; rw [HL.out, decide_eq_false h1]; simp)
    clear hA hg
    go_enter Try.func90, Try.ntmps90
    go_wp2_with fail
    go_ret
    refine ⟨ret_bool HO.out.symm, ?_⟩
    (repeat (first | assumption | exact Below.refl _ _ | (refine Below.alloc ?_ (by first | omega | (simp; done) | (simp; omega)) _) | (refine Below.setCell ?_ (by first | omega | (simp; done) | (simp; omega)) _) | refine bel_drewN ?_ _ | refine bel_drew ?_ | (refine bel_call ?_ (by assumption))))

end Go.Proofs.Ytpbnleohbegccaa
