/- Lists of turns: made, compared, marked and looked at again. For at most 1048576 turns. -/
import Derived.Test.YtkmgmlgjflnbeaaPair
import Derived.Deep.RegionHeld3
import Derived.Laws.MakeOwn
namespace Go.Proofs.Ytkmgmlgjflnbeaa
open Go.ChangeShapes Go.WideShapes Go.ChangeAt Go.RowKit Go.Joins

theorem forth_any (x : Int) (w : World) :
    Calls Try.prog 54 #[.int .i64 x] w fun e w' => e = .returned (.agg #[.int .i64 x, .int .i64 1]) ∧ Below w.heap.size w w' := by
  go_enter Try.func54, Try.ntmps54
  go_wp2
  refine bodyPost_ret (v := .agg #[.int .i64 x, .int .i64 1]) (by simp [results, Try.results54, go_sem]) rfl ⟨rfl, ?_⟩
  (repeat (first | assumption | exact Below.refl _ _ | (refine Below.alloc ?_ (by first | omega | (simp; done) | (simp; omega)) _) | (refine Below.setCell ?_ (by first | omega | (simp; done) | (simp; omega)) _) | refine bel_drewN ?_ _ | refine bel_drew ?_ | (refine bel_call ?_ (by assumption))))

theorem back_any (x : Int) (w : World) :
    Calls Try.prog 55 #[.int .i64 x] w fun e w' => e = .returned (.agg #[.int .i64 x, .int .i64 (-1)]) ∧ Below w.heap.size w w' := by
  go_enter Try.func55, Try.ntmps55
  go_wp2
  refine bodyPost_ret (v := .agg #[.int .i64 x, .int .i64 (-1)]) (by simp [results, Try.results55, go_sem]) rfl ⟨rfl, ?_⟩
  (repeat (first | assumption | exact Below.refl _ _ | (refine Below.alloc ?_ (by first | omega | (simp; done) | (simp; omega)) _) | (refine Below.setCell ?_ (by first | omega | (simp; done) | (simp; omega)) _) | refine bel_drewN ?_ _ | refine bel_drew ?_ | (refine bel_call ?_ (by assumption))))

/-- Turns, as cells: two for each. -/
def turnF (ts : List (Int × Int)) (j : Nat) : Value := if j % 2 = 0 then .int .i64 (ts.getD (j / 2) (0, 0)).1 else .int .i64 (ts.getD (j / 2) (0, 0)).2

theorem turnF_0 (ts : List (Int × Int)) (k : Nat) : turnF ts (k * 2) = .int .i64 (ts.getD k (0, 0)).1 := by
  unfold turnF
  rw [if_pos (by omega), show k * 2 / 2 = k by omega]

theorem turnF_1 (ts : List (Int × Int)) (k : Nat) : turnF ts (k * 2 + 1) = .int .i64 (ts.getD k (0, 0)).2 := by
  unfold turnF
  rw [if_neg (by omega), show (k * 2 + 1) / 2 = k by omega]

theorem own_below {w w' : World} {base : Nat} {e : TypeId} {size : Nat} {v : Value} {n : Nat} {xs : List Value} (h : w.ownsRow base e size v n xs) (hb : Below w.heap.size w w') : w'.ownsRow base e size v n xs :=
  h.kept (row := none) ⟨hb.os, hb.tape, hb.output, hb.size, fun i hi _ => hb.block i hi⟩ (Classical.em _)

def tv (ts : List (Int × Int)) : List Value := ts.flatMap fun t => [.int .i64 t.1, .int .i64 t.2]

theorem tv_length (ts : List (Int × Int)) : (tv ts).length = ts.length * 2 := by
  unfold tv
  induction ts with
  | nil => rfl
  | cons t ts ih => rw [List.flatMap_cons, List.length_append, ih]; simp; omega

theorem tv_at (ts : List (Int × Int)) : ∀ j, j < ts.length * 2 → (tv ts)[j]? = some (turnF ts j) := by
  induction ts with
  | nil => intro j hj; simp at hj
  | cons t ts ih =>
    intro j hj
    have e : tv (t :: ts) = .int .i64 t.1 :: .int .i64 t.2 :: tv ts := rfl
    rw [e]
    match j, hj with
    | 0, _ => rfl
    | 1, _ => rfl
    | j + 2, hj =>
      simp only [List.length_cons] at hj
      have h := ih j (by omega)
      have f : turnF (t :: ts) (j + 2) = turnF ts j := by
        unfold turnF
        rw [show (j + 2) % 2 = j % 2 by omega, show (j + 2) / 2 = j / 2 + 1 by omega]
        rfl
      rw [f]
      exact h

theorem tv_snoc {ts : List (Int × Int)} {k : Nat} (h : k < ts.length) : tv (ts.take (k + 1)) = tv (ts.take k) ++ [.int .i64 (ts.getD k (0, 0)).1, .int .i64 (ts.getD k (0, 0)).2] := by
  unfold tv
  rw [List.take_succ_eq_append_getElem h, List.flatMap_append]
  simp [List.getD, List.getElem?_eq_getElem h]

theorem own_turns {w : World} {base : Nat} {t : TypeId} {v : Value} {ts : List (Int × Int)} {n : Nat} (h : w.ownsRow base t 2 v n (tv ts)) (hn : 0 < n) :
    ∃ g c, v = .slice (some ⟨g, 0, none⟩) n c ∧ base ≤ g ∧ Cells w g (n * 2) (turnF ts) := by
  obtain ⟨g, c, rfl, hb, hlt⟩ := h.form hn
  have hl : ts.length = n := by have := h.1; rw [tv_length] at this; omega
  refine ⟨g, c, rfl, hb, hlt, fun j hj => ⟨?_, h.frozenAt j⟩⟩
  rw [h.cellAt j hj, tv_at ts j (by omega)]

theorem news_at {W : World} {B : Nat} {cs : Array Value} {t : TypeId} (hB : B = W.heap.size) : ∀ j u, cs.toList[j]? = some u → (W.alloc (.cells cs t)).cell? ((⟨B, 0, none⟩ : Addr).add j) = some u := by
  subst hB
  exact World.news_of_block (heap_alloc_new W _)

theorem run_make_rowN {P : Program} (t e : TypeId) (i : TypeInfo) (z : Value) (ht : P.underlying t = some (.slice e)) (hi : P.info? e = some i) (hz : i.zero = some z)
    (kl kc : IntKind) (n c : Nat) (hnc : n ≤ c) (hbytes : i.bytes * c ≤ 281474976710656) (h63 : c ≤ 9223372036854775807) (w : World) :
    (Instr.makeSlice t (.int kl (n : Int)) (.int kc (c : Int))).run P w = .ok (.slice (some ⟨w.heap.size, 0, none⟩) n c) (w.alloc (.cells (madeCells z.cells (c * i.size)) e)) := by
  have hb : (i.bytes : Int) * (c : Int) ≤ 281474976710656 := by
    have h : ((i.bytes * c : Nat) : Int) ≤ 281474976710656 := by omega
    rwa [Int.natCast_mul] at h
  have hr := run_make (P := P) w t e i z ht hi hz kl kc n c (by omega) (by omega) hb (by omega)
  simp only [Int.toNat_natCast] at hr
  exact hr

theorem info_turn : (Try.prog.info? 51).map (fun i => (i.zero, i.size, i.bytes)) = some (some (.agg #[.int .i64 0, .int .i64 0]), 2, 16) := by kernel_rfl

theorem make_turns (n : Nat) (hn : n ≤ 1048576) (W : World) : (Instr.makeSlice 45 (.int .i64 (n : Int)) (.int .i64 (n : Int))).run Try.prog W = .ok (.slice (some ⟨W.heap.size, 0, none⟩) n n) (W.alloc (.cells (madeCells #[.int .i64 0, .int .i64 0] (n * 2)) 51)) := by
  obtain ⟨i0, hi, hz0, hz1, hz2⟩ := info_parts info_turn
  have := run_make_rowN (P := Try.prog) 45 51 i0 _ Try.underlying45 hi hz0 .i64 .i64 n n (Nat.le_refl _) (by rw [hz2]; omega) (by omega) W
  rw [hz1] at this
  exact this

theorem made_turns (w : World) (n : Nat) : Cells (w.alloc (.cells (madeCells #[.int .i64 0, .int .i64 0] (n * 2)) 51)) w.heap.size (n * 2) (fun _ => .int .i64 0) :=
  ⟨by simp, fun j hj => by
    rw [World.cell?_alloc_new, World.frozen?_alloc_new]
    refine ⟨?_, rfl⟩
    have h1 : j < (madeCells #[Value.int .i64 0, .int .i64 0] (n * 2)).size := by rw [size_madeCells]; exact hj
    rw [Array.getElem?_eq_getElem h1]
    have h2 : j % 2 = 0 ∨ j % 2 = 1 := by omega
    rcases h2 with h2 | h2 <;> simp [madeCells, h2]⟩

/-- A list of turns handed back: empty, or cells of a block that is known. -/
def OwnT (w : World) (B : Nat) (A : Option Addr) (n : Nat) (ts : List (Int × Int)) : Prop :=
  ts.length = n ∧ n ≤ 1000 ∧ (n = 0 ∨ ∃ g, A = some ⟨g, 0, none⟩ ∧ B ≤ g ∧ Cells w g (n * 2) (turnF ts))

theorem OwnT.keep {w w' : World} {B : Nat} {A : Option Addr} {n : Nat} {ts : List (Int × Int)} (h : OwnT w B A n ts) (hb : Below w.heap.size w w') : OwnT w' B A n ts :=
  ⟨h.1, h.2.1, h.2.2.imp id fun ⟨g, e, hg, hC⟩ => ⟨g, e, hg, hC.call hb⟩⟩

/-- Marks: 1, 2, .. -/
def markF (j : Nat) : Value := .int .i64 ((j : Int) + 1)

theorem tv_app (xs ys : List (Int × Int)) : tv (xs ++ ys) = tv xs ++ tv ys := by unfold tv; rw [List.flatMap_append]

theorem tv_one (ts : List (Int × Int)) : ∀ u ∈ tv ts, u.oneCell' = true := by
  intro u hu
  unfold tv at hu
  obtain ⟨t, _, h⟩ := List.mem_flatMap.1 hu
  simp at h
  rcases h with rfl | rfl <;> rfl

theorem tv_news {w : World} {g k : Nat} {ts : List (Int × Int)} (hk : ts.length = k) (hC : Cells w g (k * 2) (turnF ts)) : ∀ j u, (tv ts)[j]? = some u → w.cell? ((⟨g, 0, none⟩ : Addr).add j) = some u := by
  intro j u hu
  have hj : j < k * 2 := by
    have := (List.getElem?_eq_some_iff.1 hu).1
    rw [tv_length, hk] at this; exact this
  rw [tv_at ts j (by omega)] at hu
  injection hu with hu
  subst hu
  have ha : (⟨g, 0, none⟩ : Addr).add j = ⟨g, j, none⟩ := by unfold Addr.add; split <;> simp_all
  rw [ha, hC.cell hj]

theorem cells_two {w : World} {x y : Int} {t : TypeId} {g : Nat} (hg : g = w.heap.size) : Cells (w.alloc (.cells #[.int .i64 x, .int .i64 y] t)) g 2 (turnF [(x, y)]) := by
  subst hg
  refine ⟨by simp, fun j hj => ?_⟩
  rw [World.cell?_alloc_new, World.frozen?_alloc_new]
  have : j = 0 ∨ j = 1 := by omega
  rcases this with rfl | rfl <;> exact ⟨rfl, rfl⟩

/-- A list of turns handed back, and whether it has been found. -/
def TurnsOut (w : World) (ts : List (Int × Int)) (ok : Bool) (e : Ending) (w' : World) : Prop :=
  ∃ A c, e = .returned (.tuple #[.slice A ts.length c, .bool ok]) ∧ OwnT w' w.heap.size A ts.length ts ∧ Below w.heap.size w w'

theorem turns_none {w w' : World} (hb : Below w.heap.size w w') : TurnsOut w [] false (.returned (.tuple #[.slice none 0 0, .bool false])) w' :=
  ⟨none, 0, rfl, ⟨rfl, by decide, .inl rfl⟩, hb⟩

theorem turns_some {w w' : World} {ts : List (Int × Int)} {t : TypeId} {v : Value} {base : Nat} (hs : ts.length ≤ 1000) (hbs : w.heap.size ≤ base) (ho : w'.ownsRow base t 2 v ts.length (tv ts)) (hb : Below w.heap.size w w') : TurnsOut w ts true (.returned (.tuple #[v, .bool true])) w' := by
  rcases Nat.eq_zero_or_pos ts.length with h0 | h0
  · have hv : ∃ A c, v = .slice A 0 c := by
      rcases ho.2 with ⟨rfl, _⟩ | ⟨g, cap, cur, rfl, _⟩
      · exact ⟨none, 0, rfl⟩
      · exact ⟨_, cap, by rw [h0]⟩
    obtain ⟨A, c, rfl⟩ := hv
    exact ⟨A, c, by rw [h0], ⟨rfl, hs, .inl h0⟩, hb⟩
  · obtain ⟨g, c, rfl, hgg, hC⟩ := own_turns ho h0
    exact ⟨some ⟨g, 0, none⟩, c, rfl, ⟨rfl, hs, .inr ⟨g, rfl, by omega, hC⟩⟩, hb⟩

end Go.Proofs.Ytkmgmlgjflnbeaa
