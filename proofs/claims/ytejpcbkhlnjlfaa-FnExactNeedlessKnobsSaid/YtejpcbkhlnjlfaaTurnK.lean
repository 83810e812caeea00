/- Lists of turns: made, compared, marked and looked at again. For at most 1048576 turns. -/
import Derived.Test.YtejpcbkhlnjlfaaPair
import Derived.Deep.RegionHeld3
import Derived.Laws.MakeOwn
namespace Go.Proofs.Ytejpcbkhlnjlfaa
open Go.ChangeShapes Go.WideShapes Go.ChangeAt Go.RowKit Go.Joins

theorem forth_any (x : Int) (w : World) :
    Calls Try.prog 111 #[.int .i64 x] w fun e w' => e = .returned (.agg #[.int .i64 x, .int .i64 1]) ∧ Below w.heap.size w w' := by
  go_enter Try.func111, Try.ntmps111
  go_wp2
  refine bodyPost_ret (v := .agg #[.int .i64 x, .int .i64 1]) (by simp [results, Try.results111, go_sem]) rfl ⟨rfl, ?_⟩
  (repeat (first | assumption | exact Below.refl _ _ | (refine Below.alloc ?_ (by first | omega | (simp; done) | (simp; omega)) _) | (refine Below.setCell ?_ (by first | omega | (simp; done) | (simp; omega)) _) | refine bel_drewN ?_ _ | refine bel_drew ?_ | (refine bel_call ?_ (by assumption))))

theorem back_any (x : Int) (w : World) :
    Calls Try.prog 112 #[.int .i64 x] w fun e w' => e = .returned (.agg #[.int .i64 x, .int .i64 (-1)]) ∧ Below w.heap.size w w' := by
  go_enter Try.func112, Try.ntmps112
  go_wp2
  refine bodyPost_ret (v := .agg #[.int .i64 x, .int .i64 (-1)]) (by simp [results, Try.results112, go_sem]) rfl ⟨rfl, ?_⟩
  (repeat (first | assumption | exact Below.refl _ _ | (refine Below.alloc ?_ (by first | omega | (simp; done) | (simp; omega)) _) | (refine Below.setCell ?_ (by first | omega | (simp; done) | (simp; omega)) _) | refine bel_drewN ?_ _ | refine bel_drew ?_ | (refine bel_call ?_ (by assumption))))

/-- Turns, as cells: two for each. -/
def turnF (ts : List (Int × Int)) (j : Nat) : Value := if j % 2 = 0 then .int .i64 (ts.getD (j / 2) (0, 0)).1 else .int .i64 (ts.getD (j / 2) (0, 0)).2

theorem turnF_0 (ts : List (Int × Int)) (k : Nat) : turnF ts (k * 2) = .int .i64 (ts.getD k (0, 0)).1 := by
  unfold turnF
  rw [if_pos (by omega), show k * 2 / 2 = k by omega]

theorem turnF_1 (ts : List (Int × Int)) (k : Nat) : turnF ts (k * 2 + 1) = .int .i64 (ts.getD k (0, 0)).2 := by
  unfold turnF
  rw [if_neg (by omega), show (k * 2 + 1) / 2 = k by omega]

theorem own_below {w w' : World} {base : Nat} {e : TypeId} {size : Nat} {v : Value} {n : Nat} {xs : List Value} (h : w.ownsRow base e size v n xs) (hb : Below w.heap.size w w') : w'.ownsRow base e size v n xs :=
  h.kept (row := none) ⟨hb.os, hb.tape, hb.output, hb.size, fun i hi _ => hb.block i hi⟩ (Classical.em _)

def tv (ts : List (Int × Int)) : List Value := ts.flatMap fun t => [.int .i64 t.1, .int .i64 t.2]

theorem tv_length (ts : List (Int × Int)) : (tv ts).length = ts.length * 2 := by
  unfold tv
  induction ts with
  | nil => rfl
  | cons t ts ih => rw [List.flatMap_cons, List.length_append, ih]; simp; omega

theorem tv_at (ts : List (Int × Int)) : ∀ j, j < ts.length * 2 → (tv ts)[j]? = some (turnF ts j) := by
  induction ts with
  | nil => intro j hj; simp at hj
  | cons t ts ih =>
    intro j hj
    have e : tv (t :: ts) = .int .i64 t.1 :: .int .i64 t.2 :: tv ts := rfl
    rw [e]
    match j, hj with
    | 0, _ => rfl
    | 1, _ => rfl
    | j + 2, hj =>
      simp only [List.length_cons] at hj
      have h := ih j (by omega)
      have f : turnF (t :: ts) (j + 2) = turnF ts j := by
        unfold turnF
        rw [show (j + 2) % 2 = j % 2 by omega, show (j + 2) / 2 = j / 2 + 1 by omega]
        rfl
      rw [f]
      exact h

theorem tv_snoc {ts : List (Int × Int)} {k : Nat} (h : k < ts.length) : tv (ts.take (k + 1)) = tv (ts.take k) ++ [.int .i64 (ts.getD k (0, 0)).1, .int .i64 (ts.getD k (0, 0)).2] := by
  unfold tv
  rw [List.take_succ_eq_append_getElem h, List.flatMap_append]
  simp [List.getD, List.getElem?_eq_getElem h]

theorem own_turns {w : World} {base : Nat} {t : TypeId} {v : Value} {ts : List (Int × Int)} {n : Nat} (h : w.ownsRow base t 2 v n (tv ts)) (hn : 0 < n) :
    ∃ g c, v = .slice (some ⟨g, 0, none⟩) n c ∧ base ≤ g ∧ Cells w g (n * 2) (turnF ts) := by
  obtain ⟨g, c, rfl, hb, hlt⟩ := h.form hn
  have hl : ts.length = n := by have := h.1; rw [tv_length] at this; omega
  refine ⟨g, c, rfl, hb, hlt, fun j hj => ⟨?_, h.frozenAt j⟩⟩
  rw [h.cellAt j hj, tv_at ts j (by omega)]

theorem news_at {W : World} {B : Nat} {cs : Array Value} {t : TypeId} (hB : B = W.heap.size) : ∀ j u, cs.toList[j]? = some u → (W.alloc (.cells cs t)).cell? ((⟨B, 0, none⟩ : Addr).add j) = some u := by
  subst hB
  exact World.news_of_block (heap_alloc_new W _)

theorem run_make_rowN {P : Program} (t e : TypeId) (i : TypeInfo) (z : Value) (ht : P.underlying t = some (.slice e)) (hi : P.info? e = some i) (hz : i.zero = some z)
    (kl kc : IntKind) (n c : Nat) (hnc : n ≤ c) (hbytes : i.bytes * c ≤ 281474976710656) (h63 : c ≤ 9223372036854775807) (w : World) :
    (Instr.makeSlice t (.int kl (n : Int)) (.int kc (c : Int))).run P w = .ok (.slice (some ⟨w.heap.size, 0, none⟩) n c) (w.alloc (.cells (madeCells z.cells (c * i.size)) e)) := by
  have hb : (i.bytes : Int) * (c : Int) ≤ 281474976710656 := by
    have h : ((i.bytes * c : Nat) : Int) ≤ 281474976710656 := by omega
    rwa [Int.natCast_mul] at h
  have hr := run_make (P := P) w t e i z ht hi hz kl kc n c (by omega) (by omega) hb (by omega)
  simp only [Int.toNat_natCast] at hr
  exact hr

theorem info_turn : (Try.prog.info? 91).map (fun i => (i.zero, i.size, i.bytes)) = some (some (.agg #[.int .i64 0, .int .i64 0]), 2, 16) := by kernel_rfl

theorem make_turns (n : Nat) (hn : n ≤ 1048576) (W : World) : (Instr.makeSlice 51 (.int .i64 (n : Int)) (.int .i64 (n : Int))).run Try.prog W = .ok (.slice (some ⟨W.heap.size, 0, none⟩) n n) (W.alloc (.cells (madeCells #[.int .i64 0, .int .i64 0] (n * 2)) 91)) := by
  obtain ⟨i0, hi, hz0, hz1, hz2⟩ := info_parts info_turn
  have := run_make_rowN (P := Try.prog) 51 91 i0 _ Try.underlying51 hi hz0 .i64 .i64 n n (Nat.le_refl _) (by rw [hz2]; omega) (by omega) W
  rw [hz1] at this
  exact this

theorem made_turns (w : World) (n : Nat) : Cells (w.alloc (.cells (madeCells #[.int .i64 0, .int .i64 0] (n * 2)) 91)) w.heap.size (n * 2) (fun _ => .int .i64 0) :=
  ⟨by simp, fun j hj => by
    rw [World.cell?_alloc_new, World.frozen?_alloc_new]
    refine ⟨?_, rfl⟩
    have h1 : j < (madeCells #[Value.int .i64 0, .int .i64 0] (n * 2)).size := by rw [size_madeCells]; exact hj
    rw [Array.getElem?_eq_getElem h1]
    have h2 : j % 2 = 0 ∨ j % 2 = 1 := by omega
    rcases h2 with h2 | h2 <;> simp [madeCells, h2]⟩

/-- A list of turns handed back: empty, or cells of a block that is known. -/
def OwnT (w : World) (B : Nat) (A : Option Addr) (n : Nat) (ts : List (Int × Int)) : Prop :=
  ts.length = n ∧ n ≤ 1000 ∧ (n = 0 ∨ ∃ g, A = some ⟨g, 0, none⟩ ∧ B ≤ g ∧ Cells w g (n * 2) (turnF ts))

theorem OwnT.keep {w w' : World} {B : Nat} {A : Option Addr} {n : Nat} {ts : List (Int × Int)} (h : OwnT w B A n ts) (hb : Below w.heap.size w w') : OwnT w' B A n ts :=
  ⟨h.1, h.2.1, h.2.2.imp id fun ⟨g, e, hg, hC⟩ => ⟨g, e, hg, hC.call hb⟩⟩

/-- Marks: 1, 2, .. -/
def markF (j : Nat) : Value := .int .i64 ((j : Int) + 1)

theorem tv_app (xs ys : List (Int × Int)) : tv (xs ++ ys) = tv xs ++ tv ys := by unfold tv; rw [List.flatMap_append]

theorem tv_one (ts : List (Int × Int)) : ∀ u ∈ tv ts, u.oneCell' = true := by
  intro u hu
  unfold tv at hu
  obtain ⟨t, _, h⟩ := List.mem_flatMap.1 hu
  simp at h
  rcases h with rfl | rfl <;> rfl

theorem tv_news {w : World} {g k : Nat} {ts : List (Int × Int)} (hk : ts.length = k) (hC : Cells w g (k * 2) (turnF ts)) : ∀ j u, (tv ts)[j]? = some u → w.cell? ((⟨g, 0, none⟩ : Addr).add j) = some u := by
  intro j u hu
  have hj : j < k * 2 := by
    have := (List.getElem?_eq_some_iff.1 hu).1
    rw [tv_length, hk] at this; exact this
  rw [tv_at ts j (by omega)] at hu
  injection hu with hu
  subst hu
  have ha : (⟨g, 0, none⟩ : Addr).add j = ⟨g, j, none⟩ := by unfold Addr.add; split <;> simp_all
  rw [ha, hC.cell hj]

theorem cells_two {w : World} {x y : Int} {t : TypeId} {g : Nat} (hg : g = w.heap.size) : Cells (w.alloc (.cells #[.int .i64 x, .int .i64 y] t)) g 2 (turnF [(x, y)]) := by
  subst hg
  refine ⟨by simp, fun j hj => ?_⟩
  rw [World.cell?_alloc_new, World.frozen?_alloc_new]
  have : j = 0 ∨ j = 1 := by omega
  rcases this with rfl | rfl <;> exact ⟨rfl, rfl⟩

/-- A list of turns handed back, and whether it has been found. -/
def TurnsOut (w : World) (ts : List (Int × Int)) (ok : Bool) (e : Ending) (w' : World) : Prop :=
  ∃ A c, e = .returned (.tuple #[.slice A ts.length c, .bool ok]) ∧ OwnT w' w.heap.size A ts.length ts ∧ Below w.heap.size w w'

theorem turns_none {w w' : World} (hb : Below w.heap.size w w') : TurnsOut w [] false (.returned (.tuple #[.slice none 0 0, .bool false])) w' :=
  ⟨none, 0, rfl, ⟨rfl, by decide, .inl rfl⟩, hb⟩

theorem turns_some {w w' : World} {ts : List (Int × Int)} {t : TypeId} {v : Value} {base : Nat} (hs : ts.length ≤ 1000) (hbs : w.heap.size ≤ base) (ho : w'.ownsRow base t 2 v ts.length (tv ts)) (hb : Below w.heap.size w w') : TurnsOut w ts true (.returned (.tuple #[v, .bool true])) w' := by
  rcases Nat.eq_zero_or_pos ts.length with h0 | h0
  · have hv : ∃ A c, v = .slice A 0 c := by
      rcases ho.2 with ⟨rfl, _⟩ | ⟨g, cap, cur, rfl, _⟩
      · exact ⟨none, 0, rfl⟩
      · exact ⟨_, cap, by rw [h0]⟩
    obtain ⟨A, c, rfl⟩ := hv
    exact ⟨A, c, by rw [h0], ⟨rfl, hs, .inl h0⟩, hb⟩
  · obtain ⟨g, c, rfl, hgg, hC⟩ := own_turns ho h0
    exact ⟨some ⟨g, 0, none⟩, c, rfl, ⟨rfl, hs, .inr ⟨g, rfl, by omega, hC⟩⟩, hb⟩

theorem eqTurn_same (x y : Int) (w : World) :
    Calls Try.prog 85 #[.agg #[.int .i64 x, .int .i64 y], .agg #[.int .i64 x, .int .i64 y]] w fun e w' => e = .returned (.bool true) ∧ Below w.heap.size w w' := by
  go_enter Try.func85, Try.ntmps85
  go_wp2_with fail
  go_ret
  refine ⟨rfl, ?_⟩
  (repeat (first | assumption | exact Below.refl _ _ | (refine Below.alloc ?_ (by first | omega | (simp; done) | (simp; omega)) _) | (refine Below.setCell ?_ (by first | omega | (simp; done) | (simp; omega)) _) | refine bel_drewN ?_ _ | refine bel_drew ?_ | (refine bel_call ?_ (by assumption))))

set_option maxHeartbeats 1000000 in
theorem eqTurnS_same (g1 g2 n c1 c2 : Nat) (ts : List (Int × Int)) (w : World) (hm : n ≤ 1048576) (hC1 : Cells w g1 (n * 2) (turnF ts)) (hC2 : Cells w g2 (n * 2) (turnF ts)) :
    Calls Try.prog 38 #[.slice (some ⟨g1, 0, none⟩) n c1, .slice (some ⟨g2, 0, none⟩) n c2] w fun e w' => e = .returned (.bool true) ∧ Below w.heap.size w w' := by
  have H1 := Lib.hid hC1
  have H2 := Lib.hid hC2
  clear hC1 hC2
  go_enter Try.func38, Try.ntmps38
  go_wp2_with fail
  go_loopw [5] (fun i wr => ∃ k : Nat, k ≤ n ∧ i = .int .i64 k ∧ Below w.heap.size w wr) (fun i _ => n - (intOf i).toNat)
  case atStart => exact ⟨0, by omega, rfl, Below.refl _ _⟩
  case round =>
    obtain ⟨k, hk, rfl, hB⟩ := hrel
    by_cases hlt : k < n
    · have o0 : wr.cell? ⟨g1, k * 2, none⟩ = some (.int .i64 (ts.getD k (0, 0)).1) := by rw [← turnF_0]; exact (H1.out.below hB H1.out.lt).cell (by omega)
      have o1 : wr.cell? ⟨g1, k * 2 + 1, none⟩ = some (.int .i64 (ts.getD k (0, 0)).2) := by rw [← turnF_1]; exact (H1.out.below hB H1.out.lt).cell (by omega)
      have p0 : wr.cell? ⟨g2, k * 2, none⟩ = some (.int .i64 (ts.getD k (0, 0)).1) := by rw [← turnF_0]; exact (H2.out.below hB H2.out.lt).cell (by omega)
      have p1 : wr.cell? ⟨g2, k * 2 + 1, none⟩ = some (.int .i64 (ts.getD k (0, 0)).2) := by rw [← turnF_1]; exact (H2.out.below hB H2.out.lt).cell (by omega)
      generalize (ts.getD k (0, 0)).1 = x at o0 p0
      generalize (ts.getD k (0, 0)).2 = y at o1 p1
      go_wp2_with fail
      go_region_with (go_at_call 85; refine (eqTurn_same _ _ _).mono ?_; rintro e w3 ⟨rfl, hb3⟩)
      all_goals
        have HW := Lib.hid (below_undrew hb3)
        clear hb3
        go_wp2_with fail
        go_roundw
        case rel => exact ⟨k + 1, by omega, by go_num, bel_call hB HW.out⟩
        case measure => simp [intOf]; omega
    · go_wp2_with fail
      go_ret
      exact ⟨rfl, hB⟩

theorem eqTurnS_gen (A1 A2 : Option Addr) (n c1 c2 B1 B2 : Nat) (ts : List (Int × Int)) (w : World) (h1 : OwnT w B1 A1 n ts) (h2 : OwnT w B2 A2 n ts) :
    Calls Try.prog 38 #[.slice A1 n c1, .slice A2 n c2] w fun e w' => e = .returned (.bool true) ∧ Below w.heap.size w w' := by
  have hm := h1.2.1
  rcases h1.2.2 with h0 | ⟨g1, rfl, _, hC1⟩
  · subst h0
    clear h1 h2 hm
    go_enter Try.func38, Try.ntmps38
    go_wp2_with fail
    go_loop [5] (fun i => i = .int .i64 0) (fun _ => 0)
    case atStart => rfl
    case round =>
      obtain rfl := hrel
      go_wp2_with fail
      go_ret
      exact ⟨rfl, Below.refl _ _⟩
  · rcases h2.2.2 with h0 | ⟨g2, rfl, _, hC2⟩
    · subst h0
      clear h1 h2 hm hC1
      go_enter Try.func38, Try.ntmps38
      go_wp2_with fail
      go_loop [5] (fun i => i = .int .i64 0) (fun _ => 0)
      case atStart => rfl
      case round =>
        obtain rfl := hrel
        go_wp2_with fail
        go_ret
        exact ⟨rfl, Below.refl _ _⟩
    · exact eqTurnS_same g1 g2 n c1 c2 ts w (by omega) hC1 hC2

theorem markTurnS_any (g n c : Nat) (f : Nat → Value) (w : World) (hn : n ≤ 1000) (hC : Cells w g (n * 2) f) :
    Calls Try.prog 39 #[.slice (some ⟨g, 0, none⟩) n c, .int .i64 1] w fun e w' => e = .returned (.int .i64 (1 + 2 * (n : Int))) ∧ Cells w' g (n * 2) markF ∧ w.heap.size ≤ w'.heap.size ∧ ∀ B, B ≤ g → Below B w w' := by
  have HC := Lib.hid hC
  clear hC
  go_enter Try.func39, Try.ntmps39
  go_wp2_with fail
  go_loopw [1, 5] (fun m i wr => ∃ k : Nat, k ≤ n ∧ i = .int .i64 k ∧ m = .int .i64 (1 + 2 * (k : Int)) ∧ Cells wr g (n * 2) (fun j => if j < k * 2 then markF j else f j) ∧ w.heap.size ≤ wr.heap.size ∧ ∀ B, B ≤ g → Below B w wr) (fun _ i _ => n - (intOf i).toNat)
  case atStart => exact ⟨0, by omega, rfl, rfl, HC.out.congr (fun j _ => by simp), Nat.le_refl _, fun B _ => Below.refl _ _⟩
  case round =>
    obtain ⟨k, hk, rfl, rfl, hCr, hz, hB⟩ := hrel
    have HR := Lib.hid hCr
    have HB := Lib.hid hB
    clear hCr hB
    by_cases hlt : k < n
    · have p1 := HR.out.cell (show k * 2 < n * 2 by omega)
      have p2 := HR.out.frozen (show k * 2 < n * 2 by omega)
      have H3 := Lib.hid (HR.out.set_ (show k * 2 < n * 2 by omega) (.int .i64 (1 + 2 * (k : Int))))
      have p3 := H3.out.cell (show k * 2 + 1 < n * 2 by omega)
      have p4 := HR.out.frozen (show k * 2 + 1 < n * 2 by omega)
      have HW : Hid (Cells ((wr.setCell ⟨g, k * 2, none⟩ (.int .i64 (1 + 2 * (k : Int)))).setCell ⟨g, k * 2 + 1, none⟩ (.int .i64 (1 + 2 * (k : Int) + 1))) g (n * 2) (fun j => if j < (k + 1) * 2 then markF j else f j)) := Lib.hid (by
        refine (H3.out.set_ (show k * 2 + 1 < n * 2 by omega) (.int .i64 (1 + 2 * (k : Int) + 1))).congr (fun j hj => ?_)
        by_cases e1 : j = k * 2 + 1
        · subst e1; rw [if_pos rfl, if_pos (by omega)]; exact congrArg (Value.int .i64) (by omega)
        · rw [if_neg e1]
          by_cases e0 : j = k * 2
          · subst e0; rw [if_pos rfl, if_pos (by omega)]; exact congrArg (Value.int .i64) (by omega)
          · rw [if_neg e0]
            by_cases e2 : j < k * 2
            · rw [if_pos e2, if_pos (by omega)]
            · rw [if_neg e2, if_neg (by omega)])
      simp at p1 p3
      go_wp2_with fail
      go_roundw
      case rel => exact ⟨k + 1, by omega, by go_num, congrArg (Value.int .i64) (by omega), HW.out, by rw [size_setCell, size_setCell]; exact hz, fun B h => ((HB.out B h).setCell h _).setCell h _⟩
      case measure => simp [intOf]; omega
    · go_wp2_with fail
      go_ret
      exact ⟨ret_int (by omega), HR.out.congr (fun j hj => by rw [if_pos (by omega)]), hz, HB.out⟩

theorem heldTurnS_any (g n c : Nat) (w : World) (hn : n ≤ 1000) (hC : Cells w g (n * 2) markF) :
    Calls Try.prog 40 #[.slice (some ⟨g, 0, none⟩) n c, .int .i64 1] w fun e w' => e = .returned (.int .i64 (1 + 2 * (n : Int))) ∧ w = w' := by
  have HC := Lib.hid hC
  clear hC
  go_enter Try.func40, Try.ntmps40
  go_wp2_with fail
  go_loop [1, 5] (fun m i => ∃ k : Nat, k ≤ n ∧ i = .int .i64 k ∧ m = .int .i64 (1 + 2 * (k : Int))) (fun _ i => n - (intOf i).toNat)
  case atStart => exact ⟨0, by omega, rfl, rfl⟩
  case round =>
    obtain ⟨k, hk, rfl, rfl⟩ := hrel
    by_cases hlt : k < n
    · have p1 : w.cell? ⟨g, k * 2, none⟩ = some (.int .i64 (1 + 2 * (k : Int))) := by rw [HC.out.cell (show k * 2 < n * 2 by omega)]; exact congrArg (fun x => some (Value.int .i64 x)) (by omega)
      have p2 : w.cell? ⟨g, k * 2 + 1, none⟩ = some (.int .i64 (1 + 2 * (k : Int) + 1)) := by rw [HC.out.cell (show k * 2 + 1 < n * 2 by omega)]; exact congrArg (fun x => some (Value.int .i64 x)) (by omega)
      go_wp2_with fail
      go_round
      case rel => exact ⟨k + 1, by omega, by go_num, congrArg (Value.int .i64) (by omega)⟩
      case measure => simp [intOf]; omega
    · go_wp2_with fail
      go_ret
      exact ⟨ret_int (by omega), rfl⟩

end Go.Proofs.Ytejpcbkhlnjlfaa
