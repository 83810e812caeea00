/- The clue of a kind that a code fits, as the program makes it, and whether a code fits a clue. For codes of locks of puzzles. -/
import Derived.Test.YtgopaflggbgplaaUf
namespace Go.Proofs.Ytgopaflggbgplaa
open Go.ChangeShapes Go.WideShapes Go.ChangeAt Go.RowKit Go.Joins

theorem clu_resG {fn : Func} {p : Tmp} (hf : fn.results = #[.cell p 37]) (tmps : Array Value) (w : World) (g : Nat) (k x y : Int) (hp : tmps.getD p undef = .pointer (some ⟨g, 0, none⟩)) (h0 : w.cell? ⟨g, 0, none⟩ = some (.int .i64 k)) (h1 : w.cell? ⟨g, 1, none⟩ = some (.int .i64 x)) (h2 : w.cell? ⟨g, 2, none⟩ = some (.int .i64 y)) :
    (results fn tmps).run Try.prog w = .ok (.agg #[.int .i64 k, .int .i64 x, .int .i64 y]) w := by
  have hp' : tmps[p]?.getD undef = .pointer (some ⟨g, 0, none⟩) := by simpa using hp
  have hl := loadVar_cells (P := Try.prog) (w := w) (g := g) (ty := 37) (vs := [.int .i64 k, .int .i64 x, .int .i64 y]) (fun j v hv => by
    match j, hv with
    | 0, hv => cases hv; exact h0
    | 1, hv => cases hv; exact h1
    | 2, hv => cases hv; exact h2) Try.underlying37 rfl (by kernel_rfl)
  simp [results, hf, hp', asAddr, hl]

/-- The sum of digits. -/
theorem totalD_any (g n c : Nat) (ds : List Int) (w : World) (hn : n ≤ 1000) (hd : ∀ j, j < n → 0 ≤ ds.getD j 0 ∧ ds.getD j 0 ≤ 10) (hC : Cells w g n (digF ds)) :
    Calls Try.prog 61 #[.slice (some ⟨g, 0, none⟩) n c] w fun e w' => e = .returned (.int .i64 (sumAt ds n)) ∧ w' = w := by
  have HC := Lib.hid hC
  have HD := Lib.hid hd
  clear hC hd
  go_enter Try.func61, Try.ntmps61
  go_wp2_with fail
  go_loop [3, 8] (fun r i => ∃ k : Nat, k ≤ n ∧ i = .int .i64 k ∧ r = .int .i64 (sumAt ds k)) (fun _ i => n - (intOf i).toNat)
  case atStart => exact ⟨0, by omega, rfl, rfl⟩
  case round =>
    obtain ⟨k, hk, rfl, rfl⟩ := hrel
    by_cases hlt : k < n
    · have o1 : w.cell? ⟨g, k, none⟩ = some (.int .i64 (ds.getD k 0)) := HC.out.cell hlt
      obtain ⟨d1, d2⟩ := HD.out k hlt
      obtain ⟨q1, q2⟩ := sumAt_bd HD.out k hk
      have HX : Hid (sumAt ds (k + 1) = sumAt ds k + ds.getD k 0) := Lib.hid rfl
      generalize ds.getD k 0 = x at o1 d1 d2 HX
      generalize sumAt ds k = t at q1 q2 HX
      go_wp2_with fail
      go_round
      case rel => exact ⟨k + 1, by omega, by go_num, congrArg (Value.int .i64) HX.out.symm⟩
      case measure => simp [intOf]; omega
    · obtain rfl : k = n := by omega
      go_wp2_with fail
      go_ret
      exact ⟨rfl, rfl⟩

/-- The three blocks that clueOf makes at first. -/
structure Three (w W : World) (a b k x y : Int) : Prop where
  lock : Cells W w.heap.size 2 (fun j => (#[.int .i64 a, .int .i64 b] : Array Value).toList.getD j undef)
  res : Cells W (w.heap.size + 1) 3 (fun j => (#[.int .i64 0, .int .i64 0, .int .i64 0] : Array Value).toList.getD j undef)
  clue : Cells W (w.heap.size + 1 + 1) 3 (c3F k x y)
  below : Below w.heap.size w W

theorem Three.call {w W W' : World} {a b k x y : Int} (h : Three w W a b k x y) (hb : Below W.heap.size W W') : Three w W' a b k x y :=
  ⟨h.lock.call hb, h.res.call hb, h.clue.call hb, bel_call h.below hb⟩

/-- The clue is copied into the result. -/
theorem Three.copied {w W : World} {a b k x y : Int} (h : Three w W a b k x y) : Cells (((W.setCell ⟨w.heap.size + 1, 0, none⟩ (.int .i64 k)).setCell ⟨w.heap.size + 1, 1, none⟩ (.int .i64 x)).setCell ⟨w.heap.size + 1, 2, none⟩ (.int .i64 y)) (w.heap.size + 1) 3 (c3F k x y) :=
  (((h.res.set_ (show 0 < 3 by omega) (.int .i64 k)).set_ (show 1 < 3 by omega) (.int .i64 x)).set_ (show 2 < 3 by omega) (.int .i64 y)).congr fun j hj => by
    have : j = 0 ∨ j = 1 ∨ j = 2 := by omega
    rcases this with rfl | rfl | rfl <;> rfl

theorem three_new (w : World) (a b k x : Int) : Three w (((w.alloc (.cells #[.int .i64 a, .int .i64 b] 30)).alloc (.cells #[.int .i64 0, .int .i64 0, .int .i64 0] 37)).alloc (.cells #[.int .i64 k, .int .i64 x, .int .i64 0] 37)) a b k x 0 :=
  ⟨((Cells.new (n := 2) rfl rfl).alloc _).alloc _, (Cells.new (n := 3) (by simp) rfl).alloc _, Cells.new (n := 3) (by simp) rfl, by (repeat (first | assumption | exact Below.refl _ _ | (refine Below.alloc ?_ (by first | omega | (simp; done) | (simp; omega)) _) | (refine Below.setCell ?_ (by first | omega | (simp; done) | (simp; omega)) _) | refine bel_drewN ?_ _ | refine bel_drew ?_ | (refine bel_call ?_ (by assumption))))⟩

theorem Three.set1 {w W : World} {a b k x y : Int} (h : Three w W a b k x y) (v : Int) : Three w (W.setCell ⟨w.heap.size + 1 + 1, 1, none⟩ (.int .i64 v)) a b k v y :=
  ⟨h.lock.far (by show w.heap.size + 1 + 1 ≠ w.heap.size; omega) _, h.res.far (by show w.heap.size + 1 + 1 ≠ w.heap.size + 1; omega) _, (h.clue.set_ (show 1 < 3 by omega) _).congr (fun j hj => by
    have : j = 0 ∨ j = 1 ∨ j = 2 := by omega
    rcases this with rfl | rfl | rfl <;> rfl), h.below.setCell (by show w.heap.size ≤ w.heap.size + 1 + 1; omega) _⟩

theorem Three.set2 {w W : World} {a b k x y : Int} (h : Three w W a b k x y) (v : Int) : Three w (W.setCell ⟨w.heap.size + 1 + 1, 2, none⟩ (.int .i64 v)) a b k x v :=
  ⟨h.lock.far (by show w.heap.size + 1 + 1 ≠ w.heap.size; omega) _, h.res.far (by show w.heap.size + 1 + 1 ≠ w.heap.size + 1; omega) _, (h.clue.set_ (show 2 < 3 by omega) _).congr (fun j hj => by
    have : j = 0 ∨ j = 1 ∨ j = 2 := by omega
    rcases this with rfl | rfl | rfl <;> rfl), h.below.setCell (by show w.heap.size ≤ w.heap.size + 1 + 1; omega) _⟩

theorem field_hint (s : ByteArray) (p o : Int) (W : World) : (Instr.field 91 (.agg #[.string s, .int .i64 p, .int .i64 o]) 1).run Try.prog W = .ok (.int .i64 p) W := by kernel_rfl

set_option maxRecDepth 100000 in
set_option maxHeartbeats 2000000 in
theorem clueOf_0 (a b : Int) (i : Nat) (s : ByteArray) (w : World) (hs : askB a b s = true) (hi : i < s.size) :
    Calls Try.prog 45 #[.agg #[.int .i64 a, .int .i64 b], .string s, .int .i64 0, .int .i64 (i : Int)] w fun e w' => e = .returned (.agg #[.int .i64 0, .int .i64 (i : Int), .int .i64 (pzV a b 0 i s)]) ∧ Below w.heap.size w w' := by
  have HA := Lib.hid (asked hs)
  have HS := Lib.hid hs
  have n6 : s.size ≤ 6 := HA.out.n6
  have HV : Hid (pzV a b 0 i s = (dg s).getD i 0) := Lib.hid (by unfold pzV; rw [if_pos rfl, Int.toNat_natCast])
  rw [HV.out]
  obtain ⟨v9, hv9⟩ : ∃ v, (dg s).getD i 0 = v := ⟨_, rfl⟩
  have HV9 := Lib.hid hv9
  rw [hv9]
  have HT := Lib.hid (three_new w a b 0 (i : Int))
  clear hs hv9
  go_enter Try.func45, Try.ntmps45
  go_wp2_with fail
  refine (digitsOf_any _ _ HA.out.digits (by omega)).mono ?_
  rintro e w1 ⟨g, c, rfl, hgg, hC, hb⟩
  have H8 := Lib.hid (HT.out.call hb)
  have d0 : w1.cell? ⟨g, i, none⟩ = some (.int .i64 v9) := by rw [← HV9.out]; exact hC.cell hi
  clear hC hb hgg
  have p0 : w1.cell? ⟨w.heap.size + 1 + 1, 0, none⟩ = some (.int .i64 0) := H8.out.clue.cell (show 0 < 3 by omega)
  have pf0 : w1.frozen? ⟨w.heap.size + 1 + 1, 0, none⟩ = false := H8.out.clue.frozen (show 0 < 3 by omega)
  have q0 : w1.cell? ⟨w.heap.size + 1, 0, none⟩ = some (.int .i64 0) := H8.out.res.cell (show 0 < 3 by omega)
  have qf0 : w1.frozen? ⟨w.heap.size + 1, 0, none⟩ = false := H8.out.res.frozen (show 0 < 3 by omega)
  have p1 : w1.cell? ⟨w.heap.size + 1 + 1, 1, none⟩ = some (.int .i64 (i : Int)) := H8.out.clue.cell (show 1 < 3 by omega)
  have pf1 : w1.frozen? ⟨w.heap.size + 1 + 1, 1, none⟩ = false := H8.out.clue.frozen (show 1 < 3 by omega)
  have q1 : w1.cell? ⟨w.heap.size + 1, 1, none⟩ = some (.int .i64 0) := H8.out.res.cell (show 1 < 3 by omega)
  have qf1 : w1.frozen? ⟨w.heap.size + 1, 1, none⟩ = false := H8.out.res.frozen (show 1 < 3 by omega)
  have p2 : w1.cell? ⟨w.heap.size + 1 + 1, 2, none⟩ = some (.int .i64 0) := H8.out.clue.cell (show 2 < 3 by omega)
  have pf2 : w1.frozen? ⟨w.heap.size + 1 + 1, 2, none⟩ = false := H8.out.clue.frozen (show 2 < 3 by omega)
  have q2 : w1.cell? ⟨w.heap.size + 1, 2, none⟩ = some (.int .i64 0) := H8.out.res.cell (show 2 < 3 by omega)
  have qf2 : w1.frozen? ⟨w.heap.size + 1, 2, none⟩ = false := H8.out.res.frozen (show 2 < 3 by omega)
  have l0 : w1.cell? ⟨w.heap.size, 0, none⟩ = some (.int .i64 a) := H8.out.lock.cell (show 0 < 2 by omega)
  have l1 : w1.cell? ⟨w.heap.size, 1, none⟩ = some (.int .i64 b) := H8.out.lock.cell (show 1 < 2 by omega)
  go_wp2_with fail
  have H9 := Lib.hid (H8.out.set2 (v9))
  have HF := Lib.hid H9.out.copied
  have HB := Lib.hid H9.out.below
  refine bodyPost_ret (clu_resG rfl _ _ _ _ _ _ rfl (HF.out.cell (show 0 < 3 by omega)) (HF.out.cell (show 1 < 3 by omega)) (HF.out.cell (show 2 < 3 by omega))) rfl ?_
  refine ⟨by first | rfl | rw [HV9.out], ?_⟩
  refine Below.setCell (Below.setCell (Below.setCell HB.out ?_ _) ?_ _) ?_ _ <;> simp

set_option maxRecDepth 100000 in
set_option maxHeartbeats 2000000 in
theorem clueOf_1 (a b : Int) (x : Int) (s : ByteArray) (w : World) (hs : askB a b s = true) :
    Calls Try.prog 45 #[.agg #[.int .i64 a, .int .i64 b], .string s, .int .i64 1, .int .i64 x] w fun e w' => e = .returned (.agg #[.int .i64 1, .int .i64 (sumAt (dg s) s.size), .int .i64 0]) ∧ Below w.heap.size w w' := by
  have HA := Lib.hid (asked hs)
  have HS := Lib.hid hs
  have n6 : s.size ≤ 6 := HA.out.n6
  have HT := Lib.hid (three_new w a b 1 x)
  clear hs
  go_enter Try.func45, Try.ntmps45
  go_wp2_with fail
  refine (digitsOf_any _ _ HA.out.digits (by omega)).mono ?_
  rintro e w1 ⟨g, c, rfl, hgg, hC, hb⟩
  have H8 := Lib.hid (HT.out.call hb)
  have HC := Lib.hid hC
  clear hC hb hgg
  have p0 : w1.cell? ⟨w.heap.size + 1 + 1, 0, none⟩ = some (.int .i64 1) := H8.out.clue.cell (show 0 < 3 by omega)
  have pf0 : w1.frozen? ⟨w.heap.size + 1 + 1, 0, none⟩ = false := H8.out.clue.frozen (show 0 < 3 by omega)
  have q0 : w1.cell? ⟨w.heap.size + 1, 0, none⟩ = some (.int .i64 0) := H8.out.res.cell (show 0 < 3 by omega)
  have qf0 : w1.frozen? ⟨w.heap.size + 1, 0, none⟩ = false := H8.out.res.frozen (show 0 < 3 by omega)
  have p1 : w1.cell? ⟨w.heap.size + 1 + 1, 1, none⟩ = some (.int .i64 x) := H8.out.clue.cell (show 1 < 3 by omega)
  have pf1 : w1.frozen? ⟨w.heap.size + 1 + 1, 1, none⟩ = false := H8.out.clue.frozen (show 1 < 3 by omega)
  have q1 : w1.cell? ⟨w.heap.size + 1, 1, none⟩ = some (.int .i64 0) := H8.out.res.cell (show 1 < 3 by omega)
  have qf1 : w1.frozen? ⟨w.heap.size + 1, 1, none⟩ = false := H8.out.res.frozen (show 1 < 3 by omega)
  have p2 : w1.cell? ⟨w.heap.size + 1 + 1, 2, none⟩ = some (.int .i64 0) := H8.out.clue.cell (show 2 < 3 by omega)
  have pf2 : w1.frozen? ⟨w.heap.size + 1 + 1, 2, none⟩ = false := H8.out.clue.frozen (show 2 < 3 by omega)
  have q2 : w1.cell? ⟨w.heap.size + 1, 2, none⟩ = some (.int .i64 0) := H8.out.res.cell (show 2 < 3 by omega)
  have qf2 : w1.frozen? ⟨w.heap.size + 1, 2, none⟩ = false := H8.out.res.frozen (show 2 < 3 by omega)
  have l0 : w1.cell? ⟨w.heap.size, 0, none⟩ = some (.int .i64 a) := H8.out.lock.cell (show 0 < 2 by omega)
  have l1 : w1.cell? ⟨w.heap.size, 1, none⟩ = some (.int .i64 b) := H8.out.lock.cell (show 1 < 2 by omega)
  go_wp2_with fail
  refine (totalD_any _ _ _ (dg s) _ (by omega) (fun j hj => by have := HA.out.low j hj; have := HA.out.b10; omega) HC.out).mono ?_
  rintro e wq ⟨rfl, hwq⟩
  replace hwq := hwq.symm
  subst hwq
  obtain ⟨v9, hv9⟩ : ∃ v, sumAt (dg s) s.size = v := ⟨_, rfl⟩
  rw [hv9]
  have HV9 := Lib.hid hv9
  clear hv9
  go_wp2_with fail
  have H9 := Lib.hid (H8.out.set1 (v9))
  have HF := Lib.hid H9.out.copied
  have HB := Lib.hid H9.out.below
  refine bodyPost_ret (clu_resG rfl _ _ _ _ _ _ rfl (HF.out.cell (show 0 < 3 by omega)) (HF.out.cell (show 1 < 3 by omega)) (HF.out.cell (show 2 < 3 by omega))) rfl ?_
  refine ⟨by first | rfl | rw [HV9.out], ?_⟩
  refine Below.setCell (Below.setCell (Below.setCell HB.out ?_ _) ?_ _) ?_ _ <;> simp

set_option maxRecDepth 100000 in
set_option maxHeartbeats 2000000 in
theorem clueOf_2 (a b : Int) (i : Nat) (s : ByteArray) (w : World) (hs : askB a b s = true) (hi : i < cnN a b) :
    Calls Try.prog 45 #[.agg #[.int .i64 a, .int .i64 b], .string s, .int .i64 2, .int .i64 (i : Int)] w fun e w' => e = .returned (.agg #[.int .i64 2, .int .i64 (i : Int), .int .i64 (hiP (cdN a b i) s)]) ∧ Below w.heap.size w w' := by
  have HA := Lib.hid (asked hs)
  have HS := Lib.hid hs
  have n6 : s.size ≤ 6 := HA.out.n6
  have HN := Lib.hid (ofZ_cd HA.out.good hi)
  have H2 := Lib.hid (two_cd (i := i) hs).2
  have HT := Lib.hid (three_new w a b 2 (i : Int))
  clear hs hi
  go_enter Try.func45, Try.ntmps45
  go_wp2_with fail
  refine (ofNumber_any _ _ _ _).mono ?_
  rw [HN.out.1, HN.out.2]
  rintro e w1 ⟨rfl, hb⟩
  have H7 := Lib.hid (HT.out.call hb)
  clear hb
  have p0 : w1.cell? ⟨w.heap.size + 1 + 1, 0, none⟩ = some (.int .i64 2) := H7.out.clue.cell (show 0 < 3 by omega)
  have pf0 : w1.frozen? ⟨w.heap.size + 1 + 1, 0, none⟩ = false := H7.out.clue.frozen (show 0 < 3 by omega)
  have q0 : w1.cell? ⟨w.heap.size + 1, 0, none⟩ = some (.int .i64 0) := H7.out.res.cell (show 0 < 3 by omega)
  have qf0 : w1.frozen? ⟨w.heap.size + 1, 0, none⟩ = false := H7.out.res.frozen (show 0 < 3 by omega)
  have p1 : w1.cell? ⟨w.heap.size + 1 + 1, 1, none⟩ = some (.int .i64 (i : Int)) := H7.out.clue.cell (show 1 < 3 by omega)
  have pf1 : w1.frozen? ⟨w.heap.size + 1 + 1, 1, none⟩ = false := H7.out.clue.frozen (show 1 < 3 by omega)
  have q1 : w1.cell? ⟨w.heap.size + 1, 1, none⟩ = some (.int .i64 0) := H7.out.res.cell (show 1 < 3 by omega)
  have qf1 : w1.frozen? ⟨w.heap.size + 1, 1, none⟩ = false := H7.out.res.frozen (show 1 < 3 by omega)
  have p2 : w1.cell? ⟨w.heap.size + 1 + 1, 2, none⟩ = some (.int .i64 0) := H7.out.clue.cell (show 2 < 3 by omega)
  have pf2 : w1.frozen? ⟨w.heap.size + 1 + 1, 2, none⟩ = false := H7.out.clue.frozen (show 2 < 3 by omega)
  have q2 : w1.cell? ⟨w.heap.size + 1, 2, none⟩ = some (.int .i64 0) := H7.out.res.cell (show 2 < 3 by omega)
  have qf2 : w1.frozen? ⟨w.heap.size + 1, 2, none⟩ = false := H7.out.res.frozen (show 2 < 3 by omega)
  have l0 : w1.cell? ⟨w.heap.size, 0, none⟩ = some (.int .i64 a) := H7.out.lock.cell (show 0 < 2 by omega)
  have l1 : w1.cell? ⟨w.heap.size, 1, none⟩ = some (.int .i64 b) := H7.out.lock.cell (show 1 < 2 by omega)
  go_wp2_with fail
  refine (hintOf_any _ _ _ H2.out).mono ?_
  rintro e w2 ⟨rfl, hb⟩
  have H8 := Lib.hid (H7.out.call hb)
  clear hb
  obtain ⟨v9, hv9⟩ : ∃ v, hiP (cdN a b i) s = v := ⟨_, rfl⟩
  rw [hv9]
  have HV9 := Lib.hid hv9
  clear hv9
  clear p0 p1 p2 pf0 pf1 pf2 q0 q1 q2 qf0 qf1 qf2 l0 l1
  have p0 : w2.cell? ⟨w.heap.size + 1 + 1, 0, none⟩ = some (.int .i64 2) := H8.out.clue.cell (show 0 < 3 by omega)
  have pf0 : w2.frozen? ⟨w.heap.size + 1 + 1, 0, none⟩ = false := H8.out.clue.frozen (show 0 < 3 by omega)
  have q0 : w2.cell? ⟨w.heap.size + 1, 0, none⟩ = some (.int .i64 0) := H8.out.res.cell (show 0 < 3 by omega)
  have qf0 : w2.frozen? ⟨w.heap.size + 1, 0, none⟩ = false := H8.out.res.frozen (show 0 < 3 by omega)
  have p1 : w2.cell? ⟨w.heap.size + 1 + 1, 1, none⟩ = some (.int .i64 (i : Int)) := H8.out.clue.cell (show 1 < 3 by omega)
  have pf1 : w2.frozen? ⟨w.heap.size + 1 + 1, 1, none⟩ = false := H8.out.clue.frozen (show 1 < 3 by omega)
  have q1 : w2.cell? ⟨w.heap.size + 1, 1, none⟩ = some (.int .i64 0) := H8.out.res.cell (show 1 < 3 by omega)
  have qf1 : w2.frozen? ⟨w.heap.size + 1, 1, none⟩ = false := H8.out.res.frozen (show 1 < 3 by omega)
  have p2 : w2.cell? ⟨w.heap.size + 1 + 1, 2, none⟩ = some (.int .i64 0) := H8.out.clue.cell (show 2 < 3 by omega)
  have pf2 : w2.frozen? ⟨w.heap.size + 1 + 1, 2, none⟩ = false := H8.out.clue.frozen (show 2 < 3 by omega)
  have q2 : w2.cell? ⟨w.heap.size + 1, 2, none⟩ = some (.int .i64 0) := H8.out.res.cell (show 2 < 3 by omega)
  have qf2 : w2.frozen? ⟨w.heap.size + 1, 2, none⟩ = false := H8.out.res.frozen (show 2 < 3 by omega)
  have l0 : w2.cell? ⟨w.heap.size, 0, none⟩ = some (.int .i64 a) := H8.out.lock.cell (show 0 < 2 by omega)
  have l1 : w2.cell? ⟨w.heap.size, 1, none⟩ = some (.int .i64 b) := H8.out.lock.cell (show 1 < 2 by omega)
  have hfd := field_hint
  go_wp2_with fail
  have H9 := Lib.hid (H8.out.set2 (v9))
  have HF := Lib.hid H9.out.copied
  have HB := Lib.hid H9.out.below
  refine bodyPost_ret (clu_resG rfl _ _ _ _ _ _ rfl (HF.out.cell (show 0 < 3 by omega)) (HF.out.cell (show 1 < 3 by omega)) (HF.out.cell (show 2 < 3 by omega))) rfl ?_
  refine ⟨by first | rfl | rw [HV9.out], ?_⟩
  refine Below.setCell (Below.setCell (Below.setCell HB.out ?_ _) ?_ _) ?_ _ <;> simp

set_option maxRecDepth 100000 in
set_option maxHeartbeats 2000000 in
theorem clueOf_3 (a b : Int) (i : Nat) (s : ByteArray) (w : World) (hs : askB a b s = true) (hi : i < cnN a b) :
    Calls Try.prog 45 #[.agg #[.int .i64 a, .int .i64 b], .string s, .int .i64 3, .int .i64 (i : Int)] w fun e w' => e = .returned (.agg #[.int .i64 3, .int .i64 (i : Int), .int .i64 (fewZ a b (cdN a b i) s)]) ∧ Below w.heap.size w w' := by
  have HA := Lib.hid (asked hs)
  have HS := Lib.hid hs
  have n6 : s.size ≤ 6 := HA.out.n6
  have HN := Lib.hid (ofZ_cd HA.out.good hi)
  have H2 := Lib.hid (two_cd (i := i) hs).1
  have HC1 : Hid ((cdN a b i).size ≤ maxLen) := Lib.hid (by have := (asked (cd_ask (i := i) HA.out.good)).n6; unfold maxLen; omega)
  have HC2 : Hid (s.size ≤ maxLen) := Lib.hid (by unfold maxLen; omega)
  have HT := Lib.hid (three_new w a b 3 (i : Int))
  clear hs hi
  go_enter Try.func45, Try.ntmps45
  go_wp2_with fail
  refine (ofNumber_any _ _ _ _).mono ?_
  rw [HN.out.1, HN.out.2]
  rintro e w1 ⟨rfl, hb⟩
  have H7 := Lib.hid (HT.out.call hb)
  clear hb
  have p0 : w1.cell? ⟨w.heap.size + 1 + 1, 0, none⟩ = some (.int .i64 3) := H7.out.clue.cell (show 0 < 3 by omega)
  have pf0 : w1.frozen? ⟨w.heap.size + 1 + 1, 0, none⟩ = false := H7.out.clue.frozen (show 0 < 3 by omega)
  have q0 : w1.cell? ⟨w.heap.size + 1, 0, none⟩ = some (.int .i64 0) := H7.out.res.cell (show 0 < 3 by omega)
  have qf0 : w1.frozen? ⟨w.heap.size + 1, 0, none⟩ = false := H7.out.res.frozen (show 0 < 3 by omega)
  have p1 : w1.cell? ⟨w.heap.size + 1 + 1, 1, none⟩ = some (.int .i64 (i : Int)) := H7.out.clue.cell (show 1 < 3 by omega)
  have pf1 : w1.frozen? ⟨w.heap.size + 1 + 1, 1, none⟩ = false := H7.out.clue.frozen (show 1 < 3 by omega)
  have q1 : w1.cell? ⟨w.heap.size + 1, 1, none⟩ = some (.int .i64 0) := H7.out.res.cell (show 1 < 3 by omega)
  have qf1 : w1.frozen? ⟨w.heap.size + 1, 1, none⟩ = false := H7.out.res.frozen (show 1 < 3 by omega)
  have p2 : w1.cell? ⟨w.heap.size + 1 + 1, 2, none⟩ = some (.int .i64 0) := H7.out.clue.cell (show 2 < 3 by omega)
  have pf2 : w1.frozen? ⟨w.heap.size + 1 + 1, 2, none⟩ = false := H7.out.clue.frozen (show 2 < 3 by omega)
  have q2 : w1.cell? ⟨w.heap.size + 1, 2, none⟩ = some (.int .i64 0) := H7.out.res.cell (show 2 < 3 by omega)
  have qf2 : w1.frozen? ⟨w.heap.size + 1, 2, none⟩ = false := H7.out.res.frozen (show 2 < 3 by omega)
  have l0 : w1.cell? ⟨w.heap.size, 0, none⟩ = some (.int .i64 a) := H7.out.lock.cell (show 0 < 2 by omega)
  have l1 : w1.cell? ⟨w.heap.size, 1, none⟩ = some (.int .i64 b) := H7.out.lock.cell (show 1 < 2 by omega)
  go_wp2_with fail
  refine (fewest_any _ _ _ _ _ HC1.out HC2.out).mono ?_
  rw [H2.out]
  rintro e w2 ⟨rfl, hb⟩
  have H8 := Lib.hid (H7.out.call hb)
  clear hb
  obtain ⟨v9, hv9⟩ : ∃ v, fewZ a b (cdN a b i) s = v := ⟨_, rfl⟩
  rw [hv9]
  have HV9 := Lib.hid hv9
  clear hv9
  clear p0 p1 p2 pf0 pf1 pf2 q0 q1 q2 qf0 qf1 qf2 l0 l1
  have p0 : w2.cell? ⟨w.heap.size + 1 + 1, 0, none⟩ = some (.int .i64 3) := H8.out.clue.cell (show 0 < 3 by omega)
  have pf0 : w2.frozen? ⟨w.heap.size + 1 + 1, 0, none⟩ = false := H8.out.clue.frozen (show 0 < 3 by omega)
  have q0 : w2.cell? ⟨w.heap.size + 1, 0, none⟩ = some (.int .i64 0) := H8.out.res.cell (show 0 < 3 by omega)
  have qf0 : w2.frozen? ⟨w.heap.size + 1, 0, none⟩ = false := H8.out.res.frozen (show 0 < 3 by omega)
  have p1 : w2.cell? ⟨w.heap.size + 1 + 1, 1, none⟩ = some (.int .i64 (i : Int)) := H8.out.clue.cell (show 1 < 3 by omega)
  have pf1 : w2.frozen? ⟨w.heap.size + 1 + 1, 1, none⟩ = false := H8.out.clue.frozen (show 1 < 3 by omega)
  have q1 : w2.cell? ⟨w.heap.size + 1, 1, none⟩ = some (.int .i64 0) := H8.out.res.cell (show 1 < 3 by omega)
  have qf1 : w2.frozen? ⟨w.heap.size + 1, 1, none⟩ = false := H8.out.res.frozen (show 1 < 3 by omega)
  have p2 : w2.cell? ⟨w.heap.size + 1 + 1, 2, none⟩ = some (.int .i64 0) := H8.out.clue.cell (show 2 < 3 by omega)
  have pf2 : w2.frozen? ⟨w.heap.size + 1 + 1, 2, none⟩ = false := H8.out.clue.frozen (show 2 < 3 by omega)
  have q2 : w2.cell? ⟨w.heap.size + 1, 2, none⟩ = some (.int .i64 0) := H8.out.res.cell (show 2 < 3 by omega)
  have qf2 : w2.frozen? ⟨w.heap.size + 1, 2, none⟩ = false := H8.out.res.frozen (show 2 < 3 by omega)
  have l0 : w2.cell? ⟨w.heap.size, 0, none⟩ = some (.int .i64 a) := H8.out.lock.cell (show 0 < 2 by omega)
  have l1 : w2.cell? ⟨w.heap.size, 1, none⟩ = some (.int .i64 b) := H8.out.lock.cell (show 1 < 2 by omega)
  go_wp2_with fail
  have H9 := Lib.hid (H8.out.set2 (v9))
  have HF := Lib.hid H9.out.copied
  have HB := Lib.hid H9.out.below
  refine bodyPost_ret (clu_resG rfl _ _ _ _ _ _ rfl (HF.out.cell (show 0 < 3 by omega)) (HF.out.cell (show 1 < 3 by omega)) (HF.out.cell (show 2 < 3 by omega))) rfl ?_
  refine ⟨by first | rfl | rw [HV9.out], ?_⟩
  refine Below.setCell (Below.setCell (Below.setCell HB.out ?_ _) ?_ _) ?_ _ <;> simp

set_option maxRecDepth 100000 in
set_option maxHeartbeats 2000000 in
theorem clueOf_4 (a b : Int) (x : Int) (s : ByteArray) (w : World) (hs : askB a b s = true) (h2 : 2 ≤ x) (h9 : x ≤ 9) :
    Calls Try.prog 45 #[.agg #[.int .i64 a, .int .i64 b], .string s, .int .i64 4, .int .i64 x] w fun e w' => e = .returned (.agg #[.int .i64 4, .int .i64 x, .int .i64 (numZ a b s % x)]) ∧ Below w.heap.size w w' := by
  have HA := Lib.hid (asked hs)
  have HS := Lib.hid hs
  have n6 : s.size ≤ 6 := HA.out.n6
  have hz := (numZ_bd hs).1
  have hp := (pw_bd6 HA.out.b2 HA.out.b10 (k := a.toNat) (by have := HA.out.size; omega)).2
  have hz2 : numZ a b s ≤ 1000000 := by have := (numZ_bd hs).2; omega
  have HC2 : Hid (s.size ≤ maxLen) := Lib.hid (by unfold maxLen; omega)
  generalize hq : numZ a b s = q at hz hz2
  have HQ := Lib.hid hq
  have HT := Lib.hid (three_new w a b 4 x)
  clear hs hq hp
  go_enter Try.func45, Try.ntmps45
  go_wp2_with fail
  refine (number_any _ _ _ _ HC2.out).mono ?_
  rw [HQ.out, HS.out]
  rintro e w1 ⟨rfl, hb⟩
  have H8 := Lib.hid (HT.out.call hb)
  clear hb
  have p0 : w1.cell? ⟨w.heap.size + 1 + 1, 0, none⟩ = some (.int .i64 4) := H8.out.clue.cell (show 0 < 3 by omega)
  have pf0 : w1.frozen? ⟨w.heap.size + 1 + 1, 0, none⟩ = false := H8.out.clue.frozen (show 0 < 3 by omega)
  have q0 : w1.cell? ⟨w.heap.size + 1, 0, none⟩ = some (.int .i64 0) := H8.out.res.cell (show 0 < 3 by omega)
  have qf0 : w1.frozen? ⟨w.heap.size + 1, 0, none⟩ = false := H8.out.res.frozen (show 0 < 3 by omega)
  have p1 : w1.cell? ⟨w.heap.size + 1 + 1, 1, none⟩ = some (.int .i64 x) := H8.out.clue.cell (show 1 < 3 by omega)
  have pf1 : w1.frozen? ⟨w.heap.size + 1 + 1, 1, none⟩ = false := H8.out.clue.frozen (show 1 < 3 by omega)
  have q1 : w1.cell? ⟨w.heap.size + 1, 1, none⟩ = some (.int .i64 0) := H8.out.res.cell (show 1 < 3 by omega)
  have qf1 : w1.frozen? ⟨w.heap.size + 1, 1, none⟩ = false := H8.out.res.frozen (show 1 < 3 by omega)
  have p2 : w1.cell? ⟨w.heap.size + 1 + 1, 2, none⟩ = some (.int .i64 0) := H8.out.clue.cell (show 2 < 3 by omega)
  have pf2 : w1.frozen? ⟨w.heap.size + 1 + 1, 2, none⟩ = false := H8.out.clue.frozen (show 2 < 3 by omega)
  have q2 : w1.cell? ⟨w.heap.size + 1, 2, none⟩ = some (.int .i64 0) := H8.out.res.cell (show 2 < 3 by omega)
  have qf2 : w1.frozen? ⟨w.heap.size + 1, 2, none⟩ = false := H8.out.res.frozen (show 2 < 3 by omega)
  have l0 : w1.cell? ⟨w.heap.size, 0, none⟩ = some (.int .i64 a) := H8.out.lock.cell (show 0 < 2 by omega)
  have l1 : w1.cell? ⟨w.heap.size, 1, none⟩ = some (.int .i64 b) := H8.out.lock.cell (show 1 < 2 by omega)
  go_wp2_with fail
  have H9 := Lib.hid (H8.out.set2 (q % x))
  have HF := Lib.hid H9.out.copied
  have HB := Lib.hid H9.out.below
  refine bodyPost_ret (clu_resG rfl _ _ _ _ _ _ rfl (HF.out.cell (show 0 < 3 by omega)) (HF.out.cell (show 1 < 3 by omega)) (HF.out.cell (show 2 < 3 by omega))) rfl ?_
  refine ⟨by first | rfl | rw [HV9.out], ?_⟩
  refine Below.setCell (Below.setCell (Below.setCell HB.out ?_ _) ?_ _) ?_ _ <;> simp

end Go.Proofs.Ytgopaflggbgplaa
