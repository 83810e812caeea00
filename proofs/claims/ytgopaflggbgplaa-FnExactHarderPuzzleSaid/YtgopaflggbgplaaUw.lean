/- Harder puzzles: what is kept, and the mathematics of it. -/
import Derived.Test.YtgopaflggbgplaaUq
namespace Go.Proofs.Ytgopaflggbgplaa
set_option maxRecDepth 100000
open Go.ChangeShapes Go.WideShapes Go.ChangeAt Go.RowKit Go.Joins

/-- A puzzle handed back with yes or no. -/
def PzOut (w : World) (a b : Int) (cs : List Clu) (ok : Bool) (e : Ending) (w' : World) : Prop :=
  ∃ A c, e = .returned (.tuple #[.agg #[.int .i64 a, .int .i64 b, .slice A cs.length c], .bool ok]) ∧ KC w' w.heap.size w'.heap.size A cs.length (cluF cs) ∧ Below w.heap.size w w'

theorem pz_none {w w' : World} (hb : Below w.heap.size w w') : PzOut w 0 0 [] false (.returned (.tuple #[.agg #[.int .i64 0, .int .i64 0, .slice none 0 0], .bool false])) w' := ⟨none, 0, rfl, .inl rfl, hb⟩

theorem eqKC_any (a b : Int) (A1 A2 : Option Addr) (c1 c2 lo1 hi1 lo2 hi2 : Nat) (cs : List Clu) (w : World) (hm : cs.length ≤ 1048576) (h1 : KC w lo1 hi1 A1 cs.length (cluF cs)) (h2 : KC w lo2 hi2 A2 cs.length (cluF cs)) :
    Calls Try.prog 11 #[.agg #[.int .i64 a, .int .i64 b, .slice A1 cs.length c1], .agg #[.int .i64 a, .int .i64 b, .slice A2 cs.length c2]] w fun e w' => e = .returned (.bool true) ∧ Below w.heap.size w w' :=
  eqPuzzle_any a b A1 A2 cs.length c1 c2 cs w hm h1.argC h2.argC

theorem KC.argN {w : World} {lo hi : Nat} {A : Option Addr} {n : Nat} {cs : List Clu} (h : KC w lo hi A n (cluF cs)) (hl : cs.length = n) : ArgC w A n cs := by
  subst hl
  exact h.argC

/-- What is kept of the first clues. -/
def hdN (a b : Int) (cs : List Clu) : Nat → List Clu
  | 0 => []
  | j + 1 => if oneB a b (hdN a b cs j ++ cs.drop (j + 1)) then hdN a b cs j else hdN a b cs j ++ [cs.getD j cu0]

theorem hdN_yes {a b : Int} {cs : List Clu} {j : Nat} (h : oneB a b (hdN a b cs j ++ cs.drop (j + 1)) = true) : hdN a b cs (j + 1) = hdN a b cs j := by rw [hdN, if_pos h]

theorem hdN_no {a b : Int} {cs : List Clu} {j : Nat} (h : oneB a b (hdN a b cs j ++ cs.drop (j + 1)) = false) : hdN a b cs (j + 1) = hdN a b cs j ++ [cs.getD j cu0] := by rw [hdN, if_neg (by rw [h]; decide)]

theorem hdN_length (a b : Int) (cs : List Clu) (j : Nat) : (hdN a b cs j).length ≤ j := by
  induction j with
  | zero => simp [hdN]
  | succ j ih =>
    rw [hdN]
    split
    · omega
    · rw [List.length_append, List.length_singleton]; omega

theorem hdN_mem (a b : Int) (cs : List Clu) (j : Nat) (hj : j ≤ cs.length) : ∀ c ∈ hdN a b cs j, c ∈ cs := by
  induction j with
  | zero => intro c hc; simp [hdN] at hc
  | succ j ih =>
    intro c hc
    rw [hdN] at hc
    split at hc
    · exact ih (by omega) c hc
    · rcases List.mem_append.1 hc with h | h
      · exact ih (by omega) c h
      · rw [List.mem_singleton] at h
        subst h
        have hj' : j < cs.length := by omega
        simp only [List.getD, List.getElem?_eq_getElem hj', Option.getD_some]
        exact List.getElem_mem _

theorem hd_sub (a b : Int) (cs : List Clu) (j k : Nat) (hj : j ≤ cs.length) : ∀ c ∈ hdN a b cs j ++ cs.drop k, c ∈ cs := by
  intro c hc
  rcases List.mem_append.1 hc with h | h
  · exact hdN_mem a b cs j hj c h
  · exact List.mem_of_mem_drop h

theorem sub_all {cs ds : List Clu} {p : Clu → Bool} (hs : ∀ c ∈ ds, c ∈ cs) (h : cs.all p = true) : ds.all p = true := by
  rw [List.all_eq_true] at h ⊢
  exact fun c hc => h c (hs c hc)

theorem solL_sub (a b : Int) {cs ds : List Clu} (hs : ∀ c ∈ ds, c ∈ cs) : (solL a b cs).length ≤ (solL a b ds).length := by
  unfold solL solN
  rw [← List.countP_eq_length_filter, ← List.countP_eq_length_filter]
  exact List.countP_mono_left fun s _ h => sub_all hs h

/-- Fewer clues of a solved puzzle: not solved is more than one solution. -/
theorem more_one {a b : Int} {cs ds : List Clu} (h1 : oneB a b cs = true) (hs : ∀ c ∈ ds, c ∈ cs) : oneB a b ds = !decide (1 < (solL a b ds).length) := by
  have h2 : (solL a b cs).length = 1 := by have := of_decide_eq_true h1; omega
  have h3 := solL_sub a b hs
  unfold oneB
  by_cases h : 1 < (solL a b ds).length
  · rw [decide_eq_true h, decide_eq_false (by omega)]; rfl
  · rw [decide_eq_false h, decide_eq_true (by omega)]; rfl

theorem drop_step {cs : List Clu} {j : Nat} (h : j < cs.length) : cs.drop j = cs.getD j cu0 :: cs.drop (j + 1) := by
  rw [List.drop_eq_getElem_cons h]
  simp only [List.getD, List.getElem?_eq_getElem h, Option.getD_some]

theorem woC_mid (K X : List Clu) (c : Clu) : woC (K ++ c :: X) K.length = K ++ X := by
  unfold woC
  rw [List.take_left, ← List.drop_drop, List.drop_left]
  rfl

theorem hd_without {a b : Int} {cs : List Clu} {j : Nat} (h : j < cs.length) : woC (hdN a b cs j ++ cs.drop j) (hdN a b cs j).length = hdN a b cs j ++ cs.drop (j + 1) := by
  rw [drop_step h, woC_mid]

theorem hd_keep {a b : Int} {cs : List Clu} {j : Nat} (h : j < cs.length) (hn : oneB a b (hdN a b cs j ++ cs.drop (j + 1)) = false) : hdN a b cs (j + 1) ++ cs.drop (j + 1) = hdN a b cs j ++ cs.drop j := by
  rw [hdN_no hn, drop_step h, List.append_assoc]
  rfl

/-- Whether a puzzle is solved, and the harder one. -/
def hpB (a b : Int) (cs : List Clu) : Bool := pzB a b cs && oneB a b cs
def hpA (a b : Int) (cs : List Clu) (x : Int) : Int := if hpB a b cs then x else 0
def hpZ (a b : Int) (cs : List Clu) : List Clu := if hpB a b cs then hdN a b cs cs.length else []

theorem hpZ_size (a b : Int) (cs : List Clu) : (hpZ a b cs).length ≤ 6 := by
  unfold hpZ
  split
  · rename_i h
    unfold hpB at h
    rw [Bool.and_eq_true] at h
    exact Nat.le_trans (hdN_length ..) (pzB_yes h.1).2.1
  · simp

/-- A row of clues of the call's own, with its room. -/
theorem own_kcc {w : World} {B : Nat} {v : Value} {cs : List Clu} {n : Nat} (h : w.ownsRow B 37 3 v n (cv cs)) (hl : cs.length = n) : ∃ A c, v = .slice A n c ∧ n ≤ c ∧ KC w B w.heap.size A n (cluF cs) := by
  obtain ⟨A, c, rfl, hK⟩ := own_kc h hl
  refine ⟨A, c, rfl, ?_, hK⟩
  rcases h.2 with ⟨e, h0⟩ | ⟨g, cap, cur, e, _, _, hc, _⟩
  · omega
  · injection e with _ _ e3
    omega

/-- What lies behind an index of a row with room. -/
theorem part_tailR {w : World} {b off n k c : Nat} {cs : List Clu} (h : ArgC w (some ⟨b, off, none⟩) n cs) (hb : b < w.heap.size) (hk : k ≤ n) (hc : n ≤ c) :
    ∃ a1 : Addr, (if c = k then some (⟨b, off, none⟩ : Addr) else some ⟨b, off + k * 3, none⟩) = some a1 ∧ PartC w a1 (n - k) (cv (cs.drop k)) := by
  by_cases he : c = k
  · obtain ⟨a1, h1, h2⟩ := part_tail h hb hk
    exact ⟨a1, by rw [if_pos he]; rw [if_pos (by omega)] at h1; exact h1, h2⟩
  · exact ⟨_, if_neg he, part_of (argC_tail h hk) hb⟩

set_option maxHeartbeats 4000000 in
/-- A row without one of its clues, whatever room it has. -/
theorem pzWithoutR_any (g n c k : Nat) (cs : List Clu) (w : World) (hn : n ≤ 6) (hk : k < n) (hnc : n ≤ c) (hA : ArgC w (some ⟨g, 0, none⟩) n cs) :
    Calls Try.prog 31 #[.slice (some ⟨g, 0, none⟩) n c, .int .i64 (k : Int)] w fun e w' => ∃ v, e = .returned v ∧ w'.ownsRow w.heap.size 37 3 v (n - 1) (cv (woC cs k)) ∧ Below w.heap.size w w' := by
  have hg : g < w.heap.size := by
    obtain ⟨b', off', e, hb, _⟩ := hA.at_.resolve_left (by omega)
    cases e
    exact hb
  obtain ⟨a1, ha1, hp1⟩ := part_tailR (k := k + 1) (c := c) hA hg (by omega) hnc
  have P0 := Lib.hid (part_of (argC_head (k := k) hA (by omega)) hg)
  have P1 := Lib.hid hp1
  obtain ⟨i0, hi, hy0, hy1, hy2⟩ := info_parts info_clue
  have hs0 := slice_headC g 0 n c k (by omega)
  have hs1 := slice_tailC (bk := g) (off := 0) (n := n) (c := c) (k := k + 1) (a1 := a1) (by omega) ha1
  rw [show ((k + 1 : Nat) : Int) = (k : Int) + 1 by omega] at hs1
  have hwk : IntKind.i64.wrap ((k : Int) + 1) = (k : Int) + 1 := by rw [IntKind.wrap_i64]; omega
  have HN5 : Hid (k + (n - (k + 1)) = n - 1) := Lib.hid (by omega)
  have HO0 := Lib.hid (own_keeps (World.ownsRow_made (base := w.heap.size) (e := 37) (size := 3) w #[] 0 (Nat.le_refl _) (by unfold maxLen; omega) rfl) (bel_drew (Below.refl _ _)))
  have HB0 := Lib.hid (bel_drew ((Below.refl w.heap.size w).alloc (Nat.le_refl _) (.cells #[] 37)))
  clear hA hp1 ha1
  go_enter Try.func31, Try.ntmps31
  go_wp2_with fail
  go_region_law (first
    | (refine step_appC rfl (.tmp 5) (.tmp 8) 31 rfl w.heap.size 37 i0 (.agg #[.int .i64 0, .int .i64 0, .int .i64 0]) 3 24 Try.underlying31 hi hy0 hy1 hy2 rfl (by decide) _ 0 [] rfl HO0.out ⟨g, 0, none⟩ k c (cv (cs.take k)) rfl P0.out.len (P0.out.below HB0.out (Nat.le_refl _)).at_ P0.out.one (by unfold maxLen; omega) (by omega) (by simp) ?_; intro v4 w4 hown4 hgrow4
       have HO4 := Lib.hid hown4
       have HB4 : Hid (Below w.heap.size w w4) := Lib.hid (HB0.out.grown hgrow4 HB0.out.size (fun j hj => (HO0.out.lt j hj).1))
       clear hown4 hgrow4)
    | (refine step_appC rfl (.tmp 9) (.tmp 13) 31 rfl w.heap.size 37 i0 (.agg #[.int .i64 0, .int .i64 0, .int .i64 0]) 3 24 Try.underlying31 hi hy0 hy1 hy2 rfl (by decide) v4 (0 + k) ([] ++ cv (cs.take k)) rfl HO4.out a1 (n - (k + 1)) (c - (k + 1)) (cv (cs.drop (k + 1))) rfl P1.out.len (P1.out.below HB4.out (Nat.le_refl _)).at_ P1.out.one (by unfold maxLen; omega) (by omega) HB4.out.size ?_; intro v5 w5 hown5 hgrow5
       have HO5 := Lib.hid hown5
       have HB5 : Hid (Below w.heap.size w w5) := Lib.hid (HB4.out.grown hgrow5 HB4.out.size (fun j hj => (HO4.out.lt j hj).1))
       clear hown5 hgrow5))
  all_goals
    go_wp2_with fail
    go_ret
    refine ⟨_, rfl, ?_, HB5.out⟩
    have := HO5.out
    rw [List.nil_append, ← cv_app, Nat.zero_add, HN5.out] at this
    exact this

/-- A puzzle in a box and an empty answer in the next block. -/
structure PRB (w : World) (a b : Int) (v : Value) (W : World) : Prop where
  p : Cells W w.heap.size 3 (g3F a b v)
  r : Cells W (w.heap.size + 1) 3 (g3F 0 0 (.slice none 0 0))
  bel : Below w.heap.size w W
  size : w.heap.size + 2 ≤ W.heap.size

theorem PRB.call {w W W' : World} {a b : Int} {v : Value} (h : PRB w a b v W) (hb : Below W.heap.size W W') : PRB w a b v W' :=
  ⟨h.p.call hb, h.r.call hb, bel_call h.bel hb, Nat.le_trans h.size hb.size⟩

theorem PRB.belowB {w W W' : World} {a b : Int} {v : Value} {B : Nat} (h : PRB w a b v W) (hb : Below B W W') (hB : w.heap.size + 2 ≤ B) : PRB w a b v W' :=
  ⟨h.p.below hb (by omega), h.r.below hb (by omega), h.bel.trans (hb.mono (by omega)), Nat.le_trans h.size hb.size⟩

theorem PRB.set {w W : World} {a b : Int} {v : Value} (h : PRB w a b v W) {p : Addr} (hp : w.heap.size + 2 ≤ p.block) (u : Value) : PRB w a b v (W.setCell p u) :=
  ⟨h.p.far (by omega) u, h.r.far (by omega) u, h.bel.setCell (by omega) u, by rw [size_setCell]; exact h.size⟩

theorem PRB.facts {w W : World} {a b : Int} {v : Value} (h : PRB w a b v W) :
    W.cell? ⟨w.heap.size, 0, none⟩ = some (.int .i64 a) ∧ W.cell? ⟨w.heap.size, 1, none⟩ = some (.int .i64 b) ∧ W.cell? ⟨w.heap.size, 2, none⟩ = some v :=
  ⟨h.p.cell (show 0 < 3 by omega), h.p.cell (show 1 < 3 by omega), h.p.cell (show 2 < 3 by omega)⟩

theorem PRB.last {w W : World} {a b : Int} {v : Value} (h : PRB w a b v W) :
    W.cell? ⟨w.heap.size + 1, 0, none⟩ = some (.int .i64 0) ∧ W.cell? ⟨w.heap.size + 1, 1, none⟩ = some (.int .i64 0) ∧ W.cell? ⟨w.heap.size + 1, 2, none⟩ = some (.slice none 0 0) ∧
    W.frozen? ⟨w.heap.size + 1, 0, none⟩ = false ∧ W.frozen? ⟨w.heap.size + 1, 1, none⟩ = false ∧ W.frozen? ⟨w.heap.size + 1, 2, none⟩ = false :=
  ⟨h.r.cell (show 0 < 3 by omega), h.r.cell (show 1 < 3 by omega), h.r.cell (show 2 < 3 by omega), h.r.frozen (show 0 < 3 by omega), h.r.frozen (show 1 < 3 by omega), h.r.frozen (show 2 < 3 by omega)⟩

theorem prb_new (w : World) (a b : Int) (v : Value) (t1 t2 : TypeId) :
    PRB w a b v ((w.alloc (.cells #[.int .i64 a, .int .i64 b, v] t1)).alloc (.cells #[.int .i64 0, .int .i64 0, .slice none 0 0] t2)) :=
  ⟨(Cells.new (W := w) (n := 3) rfl rfl).alloc _, Cells.new (n := 3) (by simp) rfl, ((Below.refl _ _).alloc (Nat.le_refl _) _).alloc (by simp) _, by simp⟩

theorem PRB.ended {w W : World} {a b a' b' : Int} {v : Value} {cs : List Clu} {lo c : Nat} {A : Option Addr} {ok : Bool} (h : PRB w a b v W) (hK : KC W lo W.heap.size A cs.length (cluF cs)) (hlo : w.heap.size + 2 ≤ lo) :
    PzOut w a' b' cs ok (.returned (.tuple #[.agg #[.int .i64 a', .int .i64 b', .slice A cs.length c], .bool ok])) (((W.setCell ⟨w.heap.size + 1, 0, none⟩ (.int .i64 a')).setCell ⟨w.heap.size + 1, 1, none⟩ (.int .i64 b')).setCell ⟨w.heap.size + 1, 2, none⟩ (.slice A cs.length c)) := by
  refine ⟨A, c, rfl, ?_, ((h.bel.setCell (p := ⟨w.heap.size + 1, 0, none⟩) (by show w.heap.size ≤ w.heap.size + 1; omega) _).setCell (p := ⟨w.heap.size + 1, 1, none⟩) (by show w.heap.size ≤ w.heap.size + 1; omega) _).setCell (p := ⟨w.heap.size + 1, 2, none⟩) (by show w.heap.size ≤ w.heap.size + 1; omega) _⟩
  rw [size_setCell, size_setCell, size_setCell]
  exact (((hK.far (p := ⟨w.heap.size + 1, 0, none⟩) (by show w.heap.size + 1 < _; omega) _).far (p := ⟨w.heap.size + 1, 1, none⟩) (by show w.heap.size + 1 < _; omega) _).far (p := ⟨w.heap.size + 1, 2, none⟩) (by show w.heap.size + 1 < _; omega) _).wide (by omega) (Nat.le_refl _)

theorem PRB.none_ {w W : World} {a b : Int} {v : Value} (h : PRB w a b v W) :
    PzOut w 0 0 [] false (.returned (.tuple #[.agg #[.int .i64 0, .int .i64 0, .slice none 0 0], .bool false])) (((W.setCell ⟨w.heap.size + 1, 0, none⟩ (.int .i64 0)).setCell ⟨w.heap.size + 1, 1, none⟩ (.int .i64 0)).setCell ⟨w.heap.size + 1, 2, none⟩ (.slice none 0 0)) :=
  h.ended (cs := []) (lo := W.heap.size) (.inl rfl) h.size

/-- How long a row is. -/
def lenV : Value → Nat
  | .slice _ n _ => n
  | _ => 0

theorem hp_no {a b : Int} {cs : List Clu} (h : pzB a b cs = false ∨ oneB a b cs = false) : hpB a b cs = false := by
  unfold hpB
  rcases h with h | h <;> rw [h] <;> simp

/-- A clue's cells. -/
def g3C (k x y : Int) (j : Nat) : Value := (#[.int .i64 k, .int .i64 x, .int .i64 y] : Array Value).toList.getD j undef

theorem at_of {w : World} {b off n : Nat} {cs : List Clu} (h : ArgC w (some ⟨b, off, none⟩) n cs) : ∀ j u, (cv cs)[j]? = some u → w.cell? ((⟨b, off, none⟩ : Addr).add j) = some u := by
  rcases Nat.eq_zero_or_pos n with h0 | h0
  · intro j u hj
    rw [List.eq_nil_of_length_eq_zero (h.len.trans h0)] at hj
    simp [cv] at hj
  · obtain ⟨b', off', e, hb, _⟩ := h.at_.resolve_left (by omega)
    cases e
    exact (part_of h hb).at_

theorem news_c {W : World} {g : Nat} {k x y : Int} (h : Cells W g 3 (g3C k x y)) : ∀ j u, ([.int .i64 k, .int .i64 x, .int .i64 y] : List Value)[j]? = some u → W.cell? ((⟨g, 0, none⟩ : Addr).add j) = some u := by
  intro j u hj
  rw [show (⟨g, 0, none⟩ : Addr).add j = ⟨g, j, none⟩ by unfold Addr.add; split <;> simp_all]
  rcases j with _ | _ | _ | j
  · cases hj; exact h.cell (show 0 < 3 by omega)
  · cases hj; exact h.cell (show 1 < 3 by omega)
  · cases hj; exact h.cell (show 2 < 3 by omega)
  · simp at hj

theorem one_c (k x y : Int) : ∀ u ∈ ([.int .i64 k, .int .i64 x, .int .i64 y] : List Value), u.oneCell' = true := by
  intro u hu
  simp only [List.mem_cons, List.mem_nil_iff, or_false] at hu
  rcases hu with rfl | rfl | rfl <;> rfl

theorem cv_snoc (cs : List Clu) (c : Clu) : cv cs ++ [.int .i64 c.1, .int .i64 c.2.1, .int .i64 c.2.2] = cv (cs ++ [c]) := by rw [cv_app]; rfl

theorem Cells.keptC {w w' : World} {g n : Nat} {f : Nat → Value} {row : Option Nat} (h : Cells w g n f) (hg : w.grownBy w' row) (hne : row ≠ some g) : Cells w' g n f := by
  have e1 := hg.block g h.lt (fun e => hne e.symm)
  exact ⟨Nat.lt_of_lt_of_le h.lt hg.size, fun j hj => by
    have := h.at_ j hj
    rw [World.cell?_of_block (a := ⟨g, j, none⟩) e1, World.frozen?_of_block (a := ⟨g, j, none⟩) e1]; exact this⟩

theorem ArgC.at3 {w : World} {g n j : Nat} {cs : List Clu} (h : ArgC w (some ⟨g, 0, none⟩) n cs) (hj : j < n) :
    w.cell? ⟨g, j * 3, none⟩ = some (.int .i64 (cs.getD j cu0).1) ∧ w.cell? ⟨g, j * 3 + 1, none⟩ = some (.int .i64 (cs.getD j cu0).2.1) ∧ w.cell? ⟨g, j * 3 + 2, none⟩ = some (.int .i64 (cs.getD j cu0).2.2) := by
  obtain ⟨b', off', e, hb, hc⟩ := h.at_.resolve_left (by omega)
  cases e
  have := hc j hj
  rwa [Nat.zero_add] at this

set_option maxHeartbeats 4000000 in
theorem specHarderPuzzle_any (a b : Int) (g n : Nat) (cs : List Clu) (w : World) (hn : n ≤ maxLen) (hA : ArgC w (some ⟨g, 0, none⟩) n cs) :
    Calls Try.prog 14 #[.agg #[.int .i64 a, .int .i64 b, .slice (some ⟨g, 0, none⟩) n n]] w (PzOut w (hpA a b cs a) (hpA a b cs b) (hpZ a b cs) (hpB a b cs)) := by
  obtain ⟨W0, hW0⟩ : ∃ W0, (w.alloc (.cells #[.int .i64 a, .int .i64 b, .slice (some ⟨g, 0, none⟩) n n] 33)).alloc (.cells #[.int .i64 0, .int .i64 0, .slice none 0 0] 33) = W0 := ⟨_, rfl⟩
  have H0 : Hid (PRB w a b (.slice (some ⟨g, 0, none⟩) n n) W0) := Lib.hid (by rw [← hW0]; exact prb_new ..)
  have HN := Lib.hid hn
  have HA := Lib.hid hA
  have HL := Lib.hid hA.len
  clear hn hA
  obtain ⟨p0, p1, p2⟩ := H0.out.facts
  obtain ⟨p, hp⟩ : ∃ p, pzB a b cs = p := ⟨_, rfl⟩
  have HP := Lib.hid hp
  clear hp
  rcases p with _ | _
  · have HD : Hid (hpB a b cs = false) := Lib.hid (hp_no (.inl HP.out))
    go_enter Try.func14, Try.ntmps14
    go_wp2_with (go_at_call 20; refine (pzGood_any _ _ _ _ _ cs _ HN.out (HA.out.below H0.out.bel)).mono ?_; rw [HP.out]; rintro e w1 ⟨rfl, hb1⟩
                 have H1 := Lib.hid (H0.out.call hb1)
                 obtain ⟨q0, q1, q2⟩ := H1.out.facts
                 obtain ⟨s0, s1, s2, f0, f1, f2⟩ := H1.out.last
                 clear hb1)
    refine bodyPost_ret (v := .tuple #[.agg #[.int .i64 0, .int .i64 0, .slice none 0 0], .bool false]) (by simp [results, Try.results14, go_sem, s0, s1, s2]) rfl ?_
    unfold hpA hpZ
    rw [HD.out]
    exact H1.out.none_
  obtain ⟨hp1, hp2, hp3⟩ := pzB_yes HP.out
  have HP1 := Lib.hid hp1
  have HP3 := Lib.hid hp3
  have h6 : n ≤ 6 := by rw [← HL.out]; exact hp2
  clear hp1 hp2 hp3
  obtain ⟨r, hr⟩ : ∃ r, oneB a b cs = r := ⟨_, rfl⟩
  have HR := Lib.hid hr
  clear hr
  rcases r with _ | _
  · have HD : Hid (hpB a b cs = false) := Lib.hid (hp_no (.inr HR.out))
    go_enter Try.func14, Try.ntmps14
    go_wp2_with (first
      | (go_at_call 20; refine (pzGood_any _ _ _ _ _ cs _ HN.out (HA.out.below H0.out.bel)).mono ?_; rw [HP.out]; rintro e w1 ⟨rfl, hb1⟩
         have H1 := Lib.hid (H0.out.call hb1)
         obtain ⟨q0, q1, q2⟩ := H1.out.facts
         clear hb1)
      | (go_at_call 30; refine (pzSolved_any _ _ _ _ _ cs _ h6 (HA.out.below H1.out.bel) HP1.out HP3.out).mono ?_; rw [HR.out]; rintro e w2 ⟨rfl, hb2⟩
         have H2 := Lib.hid (H1.out.call hb2)
         obtain ⟨r0, r1, r2⟩ := H2.out.facts
         obtain ⟨s0, s1, s2, f0, f1, f2⟩ := H2.out.last
         clear hb2))
    refine bodyPost_ret (v := .tuple #[.agg #[.int .i64 0, .int .i64 0, .slice none 0 0], .bool false]) (by simp [results, Try.results14, go_sem, s0, s1, s2]) rfl ?_
    unfold hpA hpZ
    rw [HD.out]
    exact H2.out.none_
  have HD : Hid (hpB a b cs = true) := Lib.hid (by unfold hpB; rw [HP.out, HR.out]; rfl)
  have HZ : Hid (hpZ a b cs = hdN a b cs n) := Lib.hid (by unfold hpZ; rw [HD.out, HL.out]; rfl)
  obtain ⟨i0, hi, hy0, hy1, hy2⟩ := info_parts info_clue
  have HLV : Hid ((cv cs).length = n * 3) := Lib.hid (by rw [cv_length, HL.out])
  have hgw : g < w.heap.size ∨ n = 0 := by
    rcases Nat.eq_zero_or_pos n with h0 | h0
    · exact .inr h0
    · obtain ⟨b', off', e, hb, _⟩ := HA.out.at_.resolve_left (by omega)
      cases e
      exact .inl hb
  have HG := Lib.hid hgw
  clear hgw
  go_enter Try.func14, Try.ntmps14
  go_wp2_with (first
    | (go_at_call 20; refine (pzGood_any _ _ _ _ _ cs _ HN.out (HA.out.below H0.out.bel)).mono ?_; rw [HP.out]; rintro e w1 ⟨rfl, hb1⟩
       have H1 := Lib.hid (H0.out.call hb1)
       obtain ⟨q0, q1, q2⟩ := H1.out.facts
       clear hb1)
    | (go_at_call 30; refine (pzSolved_any _ _ _ _ _ cs _ h6 (HA.out.below H1.out.bel) HP1.out HP3.out).mono ?_; rw [HR.out]; rintro e w2 ⟨rfl, hb2⟩
       have H2 := Lib.hid (H1.out.call hb2)
       obtain ⟨r0, r1, r2⟩ := H2.out.facts
       have HO2 := Lib.hid (World.ownsRow_made (base := w.heap.size + 2) (e := 37) (size := 3) w2 #[] 0 H2.out.size (by unfold maxLen; omega) rfl)
       have HA2 := Lib.hid ((Below.refl w2.heap.size w2).alloc (Nat.le_refl _) (.cells #[] 37))
       have HS2 := Lib.hid (H2.out.call HA2.out)
       obtain ⟨t0, t1, t2⟩ := HS2.out.facts
       have z2 := H2.out.size
       clear hb2)
    | (at_builtin; refine wpList_append_own _ rfl _ _ 31 rfl (w.heap.size + 2) 37 i0 (.agg #[.int .i64 0, .int .i64 0, .int .i64 0]) 3 24 Try.underlying31 hi hy0 hy1 hy2 rfl (by decide) _ 0 [] rfl HO2.out ⟨g, 0, none⟩ n n (cv cs) rfl HLV.out (at_of (HA.out.below HS2.out.bel)) (cv_one cs) (by unfold maxLen; omega) (by omega) (by simp; omega) ?_; intro v3 w3 hown3 hgrow3 hiff3; clear hiff3))
  have HB3 : Hid (Below (w.heap.size + 2) w2 w3) := Lib.hid (((Below.refl _ w2).alloc z2 _).grown hgrow3 (by simp; omega) (fun j hj => (HO2.out.lt j hj).1))
  have H3 := Lib.hid (H2.out.belowB HB3.out (Nat.le_refl _))
  rw [Nat.zero_add, List.nil_append] at hown3
  obtain ⟨A3, c3, rfl, hc3, hK3⟩ := own_kcc hown3 HL.out
  have K3 := Lib.hid hK3
  clear hown3 hgrow3 hK3 t0 t1 t2 r0 r1 r2 q0 q1 q2
  go_loopw [4, 5] (fun v i wr => ∃ (j : Nat) (A : Option Addr) (c : Nat), j ≤ n ∧ i = .int .i64 ((hdN a b cs j).length : Nat) ∧ v = .slice A ((hdN a b cs j).length + (n - j)) c ∧ (hdN a b cs j).length + (n - j) ≤ c ∧ KC wr (w.heap.size + 2) wr.heap.size A ((hdN a b cs j).length + (n - j)) (cluF (hdN a b cs j ++ cs.drop j)) ∧ PRB w a b (.slice (some ⟨g, 0, none⟩) n n) wr) (fun v i _ => lenV v - (intOf i).toNat)
  case atStart => exact ⟨0, A3, c3, by omega, rfl, by simp [hdN], by simpa [hdN] using hc3, by simpa [hdN] using K3.out, H3.out⟩
  case round =>
    obtain ⟨j, A, c, hj, rfl, rfl, hcc, hK, hS⟩ := hrel
    have HS := Lib.hid hS
    have HK := Lib.hid hK
    have hlen := hdN_length a b cs j
    obtain ⟨p0, p1, p2⟩ := HS.out.facts
    obtain ⟨s0, s1, s2, f0, f1, f2⟩ := HS.out.last
    clear hK hS
    by_cases hlt : j < n
    · have HWO := Lib.hid (hd_without (a := a) (b := b) (cs := cs) (j := j) (by rw [HL.out]; exact hlt))
      have HALL := Lib.hid (sub_all (hd_sub a b cs j (j + 1) (by rw [HL.out]; exact hj)) HP3.out)
      have HLJ : Hid ((hdN a b cs j ++ cs.drop j).length = (hdN a b cs j).length + (n - j)) := Lib.hid (by rw [List.length_append, List.length_drop, HL.out])
      have HLN : Hid ((hdN a b cs j ++ cs.drop (j + 1)).length = (hdN a b cs j).length + (n - j) - 1) := Lib.hid (by rw [List.length_append, List.length_drop, HL.out]; omega)
      have HY := Lib.hid (@hdN_yes a b cs j)
      have HX := Lib.hid (@hdN_no a b cs j)
      have HKP := Lib.hid (@hd_keep a b cs j (by rw [HL.out]; exact hlt))
      obtain ⟨K, hKe⟩ : ∃ K, hdN a b cs j = K := ⟨_, rfl⟩
      rw [hKe] at HWO HALL HLJ HLN HY HX HKP HK hcc hlen ⊢
      obtain ⟨q, hq⟩ : ∃ q, K.length = q := ⟨_, rfl⟩
      have HQ := Lib.hid hq
      rw [hq] at HWO HLJ HLN HK hcc hlen ⊢
      obtain ⟨m, hm⟩ : ∃ m, q + (n - j) = m := ⟨_, rfl⟩
      rw [hm] at HLJ HLN HK hcc ⊢
      have hqm : q < m := by omega
      have hqi : (q : Int) < (m : Int) := by omega
      have hm6 : m ≤ 6 := by omega
      obtain ⟨f, hf⟩ : ∃ f, oneB a b (K ++ cs.drop (j + 1)) = f := ⟨_, rfl⟩
      have HF := Lib.hid hf
      have HKe := Lib.hid hKe
      have HM := Lib.hid hm
      obtain ⟨g2, rfl, _, _, _⟩ := HK.out.resolve_left (by omega)
      have hw1 : IntKind.i64.wrap ((q : Int) + 1) = (q : Int) + 1 := by rw [IntKind.wrap_i64]; omega
      clear hf hKe hq hm
      rcases f with _ | _
      · go_wp2_with (first
          | (go_at_call 31; refine (pzWithoutR_any g2 m c q (K ++ cs.drop j) _ hm6 hqm hcc (HK.out.argN HLJ.out)).mono ?_; rw [HWO.out]; rintro e w4 ⟨v4, rfl, hO4, hb4⟩
             obtain ⟨A4, c4, rfl, hc4, hK4⟩ := own_kcc hO4 HLN.out
             have K4 := Lib.hid hK4
             have HS4 := Lib.hid (HS.out.call hb4)
             have HK4 := Lib.hid (HK.out.call hb4)
             have hz4 := hb4.size
             obtain ⟨p0, p1, p2⟩ := HS4.out.facts
             clear hO4 hb4 hK4)
          | (go_at_call 30; refine (pzSolved_any _ _ _ _ _ (K ++ cs.drop (j + 1)) _ (by omega) (K4.out.argN HLN.out) HP1.out HALL.out).mono ?_; rw [HF.out]; rintro e w5 ⟨rfl, hb5⟩
             have HS5 := Lib.hid (HS4.out.call hb5)
             have HK5 := Lib.hid (HK4.out.call hb5)
             have hz5 := hb5.size
             clear hb5))
        have HN1 : Hid (hdN a b cs (j + 1) = K ++ [cs.getD j cu0]) := Lib.hid (HX.out HF.out)
        have HL1 : Hid ((hdN a b cs (j + 1)).length = q + 1) := Lib.hid (by rw [HN1.out, List.length_append, HQ.out]; rfl)
        have HE1 : Hid (hdN a b cs (j + 1) ++ cs.drop (j + 1) = K ++ cs.drop j) := Lib.hid (HKP.out HF.out)
        have hm1 : q + 1 + (n - (j + 1)) = m := by have := HM.out; omega
        go_roundw
        case rel => exact ⟨j + 1, some ⟨g2, 0, none⟩, c, by omega, by rw [HL1.out]; go_num, by rw [HL1.out, hm1], by rw [HL1.out, hm1]; exact hcc, by rw [HL1.out, hm1, HE1.out]; exact HK5.out.wide (Nat.le_refl _) (by omega), HS5.out⟩
        case measure => simp [intOf, lenV]; omega
      · go_wp2_with (first
          | (go_at_call 31; refine (pzWithoutR_any g2 m c q (K ++ cs.drop j) _ hm6 hqm hcc (HK.out.argN HLJ.out)).mono ?_; rw [HWO.out]; rintro e w4 ⟨v4, rfl, hO4, hb4⟩
             obtain ⟨A4, c4, rfl, hc4, hK4⟩ := own_kcc hO4 HLN.out
             have K4 := Lib.hid hK4
             have HS4 := Lib.hid (HS.out.call hb4)
             obtain ⟨p0, p1, p2⟩ := HS4.out.facts
             have hz4 := HS.out.size
             clear hO4 hb4 hK4)
          | (go_at_call 30; refine (pzSolved_any _ _ _ _ _ (K ++ cs.drop (j + 1)) _ (by omega) (K4.out.argN HLN.out) HP1.out HALL.out).mono ?_; rw [HF.out]; rintro e w5 ⟨rfl, hb5⟩
             have HS5 := Lib.hid (HS4.out.call hb5)
             have HK5 := Lib.hid (K4.out.call hb5)
             have hz5 := hb5.size
             clear hb5))
        have HN1 : Hid (hdN a b cs (j + 1) = K) := Lib.hid (HY.out HF.out)
        have hm1 : q + (n - (j + 1)) = m - 1 := by have := HM.out; omega
        go_roundw
        case rel => exact ⟨j + 1, A4, c4, by omega, by rw [HN1.out, HQ.out], by rw [HN1.out, HQ.out, hm1], by rw [HN1.out, HQ.out, hm1]; exact hc4, by rw [HN1.out, HQ.out, hm1]; exact HK5.out.wide hz4 (by omega), HS5.out⟩
        case measure => simp [intOf, lenV]; omega
    · obtain rfl : j = n := by omega
      have HK9 : Hid (KC wr (w.heap.size + 2) wr.heap.size A (hdN a b cs j).length (cluF (hdN a b cs j))) := Lib.hid (by
        have := HK.out
        rw [Nat.sub_self, Nat.add_zero, ← HL.out, List.drop_length, List.append_nil] at this
        rw [HL.out] at this
        exact this)
      rw [Nat.sub_self, Nat.add_zero]
      have hki : ¬ (((hdN a b cs j).length : Int) < ((hdN a b cs j).length : Int)) := by omega
      go_wp2_with fail
      refine bodyPost_ret (v := .tuple #[.agg #[.int .i64 a, .int .i64 b, .slice A (hdN a b cs j).length c], .bool true]) (by simp [results, Try.results14, go_sem, s0, s1, s2]) rfl ?_
      unfold hpA
      rw [HD.out, HZ.out]
      exact HS.out.ended HK9.out (Nat.le_refl _)

theorem own_part {w : World} {B g n c : Nat} {K : List Clu} (h : w.ownsRow B 37 3 (.slice (some ⟨g, 0, none⟩) n c) n (cv K)) : PartC w ⟨g, 0, none⟩ n (cv K) :=
  ⟨h.1, (h.lt g rfl).2, h.cells rfl, cv_one K⟩

set_option maxHeartbeats 4000000 in
/-- Clues put together, the first list being nil. -/
theorem concatC0_any (g : Nat) (a1 : Addr) (n1 c1 cp : Nat) (v1 : List Value) (w : World) (hn : n1 ≤ 1000) (hC : Cells w g 2 (twoFC (.slice none 0 0) (.slice (some a1) n1 c1))) (hp1 : PartC w a1 n1 v1) :
    Calls Try.prog 33 #[.slice (some ⟨g, 0, none⟩) 2 cp] w fun e w' => ∃ v, e = .returned v ∧ w'.ownsRow w.heap.size 37 3 v n1 v1 ∧ Below w.heap.size w w' := by
  obtain ⟨i0, hi, hy0, hy1, hy2⟩ := info_parts info_clue
  have HC := Lib.hid hC
  have P1 := Lib.hid hp1
  have x0 : w.cell? ⟨g, 0, none⟩ = some (.slice none 0 0) := hC.cell (show 0 < 2 by omega)
  have x1 : w.cell? ⟨g, 1, none⟩ = some (.slice (some a1) n1 c1) := hC.cell (show 1 < 2 by omega)
  clear hC hp1
  go_enter Try.func33, Try.ntmps33
  go_wp2_with fail
  go_loop [3, 11] (fun s i => (i = .int .i64 0 ∧ s = .int .i64 0) ∨ (i = .int .i64 1 ∧ s = .int .i64 0) ∨ (i = .int .i64 2 ∧ s = .int .i64 n1)) (fun _ i => 2 - (intOf i).toNat)
  case atStart => exact .inl ⟨rfl, rfl⟩
  case round =>
    rcases hrel with ⟨rfl, rfl⟩ | ⟨rfl, rfl⟩ | ⟨rfl, rfl⟩
    · go_wp2_with fail
      go_round
      case rel => exact .inr (.inl ⟨rfl, rfl⟩)
      case measure => decide
    · go_wp2_with fail
      go_round
      case rel => exact .inr (.inr ⟨rfl, by go_num⟩)
      case measure => decide
    · clear x0 x1
      go_wp2_with (go_at_call 50; refine (growC_any n1 hn _).mono ?_; rintro e w1 ⟨v, rfl, hO, hb⟩)
      have HCW := Lib.hid (HC.out.call hb)
      have Q1 := Lib.hid (P1.out.below hb (Nat.le_refl _))
      have hs1 := hb.size
      go_loopw [6, 27] (fun v i wr => ((i = .int .i64 0 ∧ wr.ownsRow w.heap.size 37 3 v 0 []) ∨ (i = .int .i64 1 ∧ wr.ownsRow w.heap.size 37 3 v 0 []) ∨ (i = .int .i64 2 ∧ wr.ownsRow w.heap.size 37 3 v n1 v1)) ∧ Below w.heap.size w wr) (fun _ i _ => 2 - (intOf i).toNat)
      case atStart => exact ⟨.inl ⟨rfl, hO⟩, hb⟩
      case round =>
        clear hO hb hs1 HCW Q1
        obtain ⟨hrel, hB⟩ := hrel
        have Q1 := Lib.hid (P1.out.below hB (Nat.le_refl _))
        have HCR := Lib.hid (HC.out.call hB)
        have hsz := hB.size
        have x0 : wr.cell? ⟨g, 0, none⟩ = some (.slice none 0 0) := HCR.out.cell (show 0 < 2 by omega)
        have x1 : wr.cell? ⟨g, 1, none⟩ = some (.slice (some a1) n1 c1) := HCR.out.cell (show 1 < 2 by omega)
        rcases hrel with ⟨rfl, hO⟩ | ⟨rfl, hO⟩ | ⟨rfl, hO⟩
        · obtain ⟨Av, cV, rfl, _⟩ := own_kc (cs := []) hO rfl
          have HO := Lib.hid hO
          have hap := run_append_owned_none (P := Try.prog) (w := wr) w.heap.size 31 31 37 i0 3 Try.underlying31 hi (.slice Av 0 cV) 0 [] hO
          clear hO
          go_wp2_with (at_builtin; refine Lib.wpList_append_run _ rfl _ _ 31 31 rfl (.slice Av 0 cV) (.slice none 0 0) rfl rfl (.slice Av 0 cV) wr hap ?_)
          go_roundw
          case rel => exact ⟨.inr (.inl ⟨rfl, HO.out⟩), hB⟩
          case measure => decide
        · have HO := Lib.hid hO
          clear hO
          go_wp2_with (at_builtin; refine wpList_append_own _ rfl _ _ 31 rfl w.heap.size 37 i0 (.agg #[.int .i64 0, .int .i64 0, .int .i64 0]) 3 24 Try.underlying31 hi hy0 hy1 hy2 rfl (by decide) _ _ _ rfl HO.out a1 n1 c1 v1 rfl (by rw [Q1.out.len]) Q1.out.at_ Q1.out.one (by unfold maxLen; omega) (by omega) hsz ?_; intro v' w2 hown' hgrow hiff; clear hiff)
          have HB2 := Lib.hid (hB.grown hgrow hsz (fun j hj => (HO.out.lt j hj).1))
          rw [Nat.zero_add, List.nil_append] at hown'
          have HO2 := Lib.hid hown'
          clear hown' hgrow
          go_roundw
          case rel => exact ⟨.inr (.inr ⟨rfl, HO2.out⟩), HB2.out⟩
          case measure => decide
        · go_wp2_with fail
          go_ret
          exact ⟨_, rfl, hO, hB⟩

/-- Clues put together, the first list a row of the call's own. -/
theorem catK_any (g B : Nat) (v : Value) (q : Nat) (K : List Clu) (a1 : Addr) (n1 c1 cp : Nat) (v1 : List Value) (w : World) (hO : w.ownsRow B 37 3 v q (cv K)) (hn : q + n1 ≤ 1000) (hC : Cells w g 2 (twoFC v (.slice (some a1) n1 c1))) (hp1 : PartC w a1 n1 v1) :
    Calls Try.prog 33 #[.slice (some ⟨g, 0, none⟩) 2 cp] w fun e w' => ∃ v, e = .returned v ∧ w'.ownsRow w.heap.size 37 3 v (q + n1) (cv K ++ v1) ∧ Below w.heap.size w w' := by
  have hl := hO.1
  rcases hO.2 with ⟨rfl, rfl⟩ | ⟨g', cap, cur, rfl, _⟩
  · rw [List.eq_nil_of_length_eq_zero (by omega : (cv K).length = 0), Nat.zero_add, List.nil_append]
    exact concatC0_any g a1 n1 c1 cp v1 w (by omega) hC hp1
  · exact concatC_any g _ a1 q cap n1 c1 cp (cv K) v1 w hn hC (own_part hO) hp1

theorem hpB_is (a b : Int) (cs : List Clu) : isB a b cs = hpB a b cs := by
  unfold isB csN hpB oneB
  by_cases h : pzB a b cs = true
  · rw [slL_yes h, h]; simp
  · have h2 := Bool.eq_false_iff.2 h
    rw [slL_no h2, h2]; rfl

set_option maxHeartbeats 6000000 in
theorem harderPuzzle_any (a b : Int) (g n : Nat) (cs : List Clu) (w : World) (hn : n ≤ maxLen) (hA : ArgC w (some ⟨g, 0, none⟩) n cs) :
    Calls Try.prog 15 #[.agg #[.int .i64 a, .int .i64 b, .slice (some ⟨g, 0, none⟩) n n]] w (PzOut w (hpA a b cs a) (hpA a b cs b) (hpZ a b cs) (hpB a b cs)) := by
  obtain ⟨W0, hW0⟩ : ∃ W0, (w.alloc (.cells #[.int .i64 a, .int .i64 b, .slice (some ⟨g, 0, none⟩) n n] 33)).alloc (.cells #[.int .i64 0, .int .i64 0, .slice none 0 0] 33) = W0 := ⟨_, rfl⟩
  have H0 : Hid (PRB w a b (.slice (some ⟨g, 0, none⟩) n n) W0) := Lib.hid (by rw [← hW0]; exact prb_new ..)
  have HN := Lib.hid hn
  have HA := Lib.hid hA
  have HL := Lib.hid hA.len
  clear hn hA
  obtain ⟨p0, p1, p2⟩ := H0.out.facts
  obtain ⟨r, hr⟩ : ∃ r, hpB a b cs = r := ⟨_, rfl⟩
  have HD := Lib.hid hr
  have HI : Hid (isB a b cs = r) := Lib.hid (by rw [hpB_is, hr])
  clear hr
  rcases r with _ | _
  · go_enter Try.func15, Try.ntmps15
    go_wp2_with (go_at_call 32; refine (isSolved_any _ _ _ _ _ cs _ HN.out (HA.out.below H0.out.bel)).mono ?_; rw [HI.out]; rintro e w1 ⟨rfl, hb1⟩
                 have H1 := Lib.hid (H0.out.call hb1)
                 obtain ⟨q0, q1, q2⟩ := H1.out.facts
                 obtain ⟨s0, s1, s2, f0, f1, f2⟩ := H1.out.last
                 clear hb1)
    refine bodyPost_ret (v := .tuple #[.agg #[.int .i64 0, .int .i64 0, .slice none 0 0], .bool false]) (by simp [results, Try.results15, go_sem, s0, s1, s2]) rfl ?_
    unfold hpA hpZ
    rw [HD.out]
    exact H1.out.none_
  have hh : pzB a b cs = true ∧ oneB a b cs = true := by have := HD.out; unfold hpB at this; rwa [Bool.and_eq_true] at this
  have HP := Lib.hid hh.1
  have HR := Lib.hid hh.2
  clear hh
  obtain ⟨hp1, hp2, hp3⟩ := pzB_yes HP.out
  have HP1 := Lib.hid hp1
  have HP3 := Lib.hid hp3
  have h6 : n ≤ 6 := by rw [← HL.out]; exact hp2
  clear hp1 hp2 hp3
  have HZ : Hid (hpZ a b cs = hdN a b cs n) := Lib.hid (by unfold hpZ; rw [HD.out, HL.out]; rfl)
  obtain ⟨i0, hi, hy0, hy1, hy2⟩ := info_parts info_clue
  go_enter Try.func15, Try.ntmps15
  go_wp2_with (go_at_call 32; refine (isSolved_any _ _ _ _ _ cs _ HN.out (HA.out.below H0.out.bel)).mono ?_; rw [HI.out]; rintro e w1 ⟨rfl, hb1⟩
               have H1 := Lib.hid (H0.out.call hb1)
               obtain ⟨q0, q1, q2⟩ := H1.out.facts
               have HA1 := Lib.hid ((Below.refl w1.heap.size w1).alloc (Nat.le_refl _) (.cells #[.int .i64 a, .int .i64 b, .slice none 0 0] 33))
               obtain ⟨u0, u1, u2⟩ := (H1.out.call HA1.out).facts
               clear hb1)
  have HS2 := Lib.hid (H1.out.call HA1.out)
  have HC2 : Hid (Cells (w1.alloc (.cells #[.int .i64 a, .int .i64 b, .slice none 0 0] 33)) w1.heap.size 3 (g3F a b (.slice none 0 0))) := Lib.hid (Cells.new (n := 3) rfl rfl)
  have z1 := H1.out.size
  obtain ⟨U, hU⟩ : ∃ U, w1.heap.size = U := ⟨_, rfl⟩
  rw [hU] at HC2 z1 ⊢
  have HU := Lib.hid hU
  clear hU
  go_loopw [24] (fun i wr => ∃ (j : Nat) (v : Value), j ≤ n ∧ i = .int .i64 (j : Nat) ∧ Cells wr U 3 (g3F a b v) ∧ wr.ownsRow (U + 1) 37 3 v (hdN a b cs j).length (cv (hdN a b cs j)) ∧ PRB w a b (.slice (some ⟨g, 0, none⟩) n n) wr) (fun i _ => n - (intOf i).toNat)
  case atStart => exact ⟨0, _, by omega, rfl, HC2.out, World.ownsRow_nil _ _ _ _, HS2.out⟩
  case round =>
    clear q0 q1 q2 u0 u1 u2
    obtain ⟨j, v, hj, rfl, hC, hO, hS⟩ := hrel
    obtain ⟨Av, cV, rfl, _⟩ := own_kc hO rfl
    have HS := Lib.hid hS
    have HC := Lib.hid hC
    have HO := Lib.hid hO
    have hUr := hC.lt
    have hlen := hdN_length a b cs j
    obtain ⟨p0, p1, p2⟩ := HS.out.facts
    obtain ⟨s0, s1, s2, f0, f1, f2⟩ := HS.out.last
    have c0 : wr.cell? ⟨U, 0, none⟩ = some (.int .i64 a) := hC.cell (show 0 < 3 by omega)
    have c1 : wr.cell? ⟨U, 1, none⟩ = some (.int .i64 b) := hC.cell (show 1 < 3 by omega)
    have c2 : wr.cell? ⟨U, 2, none⟩ = some (.slice Av (hdN a b cs j).length cV) := hC.cell (show 2 < 3 by omega)
    clear hC hO hS
    by_cases hlt : j < n
    · have hji : (j : Int) < (n : Int) := by omega
      have hgw : g < w.heap.size := by
        obtain ⟨b', off', e, hb, _⟩ := HA.out.at_.resolve_left (by omega)
        cases e
        exact hb
      have HGW := Lib.hid hgw
      have HSUB := Lib.hid (hd_sub a b cs j (j + 1) (by rw [HL.out]; exact hj))
      have HALL := Lib.hid (sub_all HSUB.out HP3.out)
      have HMO := Lib.hid (more_one HR.out HSUB.out)
      have HY := Lib.hid (@hdN_yes a b cs j)
      have HX := Lib.hid (@hdN_no a b cs j)
      obtain ⟨a1, ha1, hp1⟩ := part_tail (k := j + 1) HA.out hgw (by omega)
      have P1 := Lib.hid hp1
      have hs1 := slice_tailC (bk := g) (off := 0) (n := n) (c := n) (k := j + 1) (a1 := a1) (by omega) ha1
      rw [show ((j + 1 : Nat) : Int) = (j : Int) + 1 by omega] at hs1
      have hwk : IntKind.i64.wrap ((j : Int) + 1) = (j : Int) + 1 := by rw [IntKind.wrap_i64]; omega
      obtain ⟨x0, x1, x2⟩ := (HA.out.below HS.out.bel).at3 hlt
      obtain ⟨K, hKe⟩ : ∃ K, hdN a b cs j = K := ⟨_, rfl⟩
      rw [hKe] at HALL HMO HY HX HO HC hlen c2
      obtain ⟨q, hq⟩ : ∃ q, K.length = q := ⟨_, rfl⟩
      have HQ := Lib.hid hq
      rw [hq] at HO HC hlen c2
      obtain ⟨x, hx⟩ : ∃ x, cs.getD j cu0 = x := ⟨_, rfl⟩
      rw [hx] at x0 x1 x2 HX
      obtain ⟨xk, xa, xb⟩ := x
      dsimp only at x0 x1 x2
      have HLN : Hid ((K ++ cs.drop (j + 1)).length = q + (n - (j + 1))) := Lib.hid (by rw [List.length_append, List.length_drop, HL.out, hq])
      have HKe := Lib.hid hKe
      clear hKe hq hx ha1 hp1
      obtain ⟨W1, hW1⟩ : ∃ W, wr.alloc (.cells #[.int .i64 xk, .int .i64 xa, .int .i64 xb] 37) = W := ⟨_, rfl⟩
      have hB1 : Below wr.heap.size wr W1 := by rw [← hW1]; exact (Below.refl _ _).alloc (Nat.le_refl _) _
      have D1 := Lib.hid (show Cells W1 wr.heap.size 3 (g3C xk xa xb) from by rw [← hW1]; exact Cells.new (n := 3) rfl rfl)
      have HS1 := Lib.hid (HS.out.call hB1)
      have HC1 := Lib.hid (HC.out.call hB1)
      have HO1 := Lib.hid (own_keeps HO.out hB1)
      have P1' := Lib.hid (P1.out.below (HS1.out.bel) (Nat.le_refl _))
      obtain ⟨r0, r1, r2⟩ := HS1.out.facts
      have d0 : W1.cell? ⟨U, 0, none⟩ = some (.int .i64 a) := HC1.out.cell (show 0 < 3 by omega)
      have d1 : W1.cell? ⟨U, 1, none⟩ = some (.int .i64 b) := HC1.out.cell (show 1 < 3 by omega)
      have d2 : W1.cell? ⟨U, 2, none⟩ = some (.slice Av q cV) := HC1.out.cell (show 2 < 3 by omega)
      have hz1 := D1.out.lt
      clear hB1
      obtain ⟨f, hf⟩ : ∃ f, (solL a b (K ++ cs.drop (j + 1))).length = f := ⟨_, rfl⟩
      have HF := Lib.hid hf
      rw [hf] at HMO
      clear hf
      by_cases hfm : 1 < f
      · have hfi : (1 : Int) < (f : Int) := by omega
        have HN1 : Hid (hdN a b cs (j + 1) = K ++ [(xk, xa, xb)]) := Lib.hid (HX.out (by rw [HMO.out, decide_eq_true hfm]; rfl))
        clear hfm
        go_wp2_with fail
        go_region_law (first
          | (go_simp; go_at_call 33; refine (catK_any _ _ (.slice Av q cV) q K a1 (n - (j + 1)) (n - (j + 1)) _ (cv (cs.drop (j + 1))) _ (own_keeps HO1.out ((bel_drew (Below.refl _ _)).alloc (Nat.le_refl _) _)) (by omega) (Cells.new (by simp) rfl) (P1'.out.below ((bel_drew (Below.refl _ _)).alloc (Nat.le_refl _) _) (Nat.le_refl _))).mono ?_; rintro e w5 ⟨v5, rfl, hO5, hb5⟩
             have HB5 := Lib.hid (show Below W1.heap.size W1 w5 from bel_call ((bel_drew (Below.refl _ _)).alloc (Nat.le_refl _) _) hb5)
             rw [← cv_app] at hO5
             obtain ⟨A5, c5, rfl, hK5⟩ := own_kc hO5 HLN.out
             have K5 := Lib.hid (hK5.argN HLN.out)
             have HS5 := Lib.hid (HS1.out.call HB5.out)
             have HC5 := Lib.hid (HC1.out.call HB5.out)
             have HO5 := Lib.hid (own_keeps HO1.out HB5.out)
             have D5 := Lib.hid (D1.out.call HB5.out)
             obtain ⟨t0, t1, t2⟩ := HS5.out.facts
             have hz5 := HB5.out.size
             clear hO5 hb5 hK5))
        all_goals
          go_wp2_with (first
            | (go_at_call 34; refine (codesWith_any _ _ _ _ _ (K ++ cs.drop (j + 1)) _ (by omega) K5.out HP1.out HALL.out).mono ?_; rintro e w6 ⟨A6, c6, rfl, _, hb6⟩; rw [HF.out]
               have HS6 := Lib.hid (HS5.out.call hb6)
               have HC6 := Lib.hid (HC5.out.call hb6)
               have HO6 := Lib.hid (own_keeps HO5.out hb6)
               have D6 := Lib.hid (D5.out.call hb6)
               have e2 : w6.cell? ⟨U, 2, none⟩ = some (.slice Av q cV) := HC6.out.cell (show 2 < 3 by omega)
               have k0 : w6.cell? ⟨wr.heap.size, 0, none⟩ = some (.int .i64 xk) := D6.out.cell (show 0 < 3 by omega)
               have k1 : w6.cell? ⟨wr.heap.size, 1, none⟩ = some (.int .i64 xa) := D6.out.cell (show 1 < 3 by omega)
               have k2 : w6.cell? ⟨wr.heap.size, 2, none⟩ = some (.int .i64 xb) := D6.out.cell (show 2 < 3 by omega)
               have hz6 : U + 1 ≤ w6.heap.size := HC6.out.lt
               clear hb6)
            | (at_builtin; refine wpList_append_own _ rfl _ _ 31 rfl (U + 1) 37 i0 (.agg #[.int .i64 0, .int .i64 0, .int .i64 0]) 3 24 Try.underlying31 hi hy0 hy1 hy2 rfl (by decide) (.slice Av q cV) q (cv K) rfl (HO6.out.alloc _) ⟨w6.heap.size, 0, none⟩ 1 1 [.int .i64 xk, .int .i64 xa, .int .i64 xb] rfl rfl (news_c (Cells.new (n := 3) rfl rfl)) (one_c xk xa xb) (by unfold maxLen; omega) (by omega) (by simp; omega) ?_; intro v9 w9 hown9 hgrow9 hiff9; clear hiff9
               have hO9 : w9.ownsRow (U + 1) 37 3 v9 (q + 1) (cv (K ++ [(xk, xa, xb)])) := by rw [← cv_snoc]; exact hown9
               obtain ⟨A9, c9, rfl, _⟩ := own_kc hO9 (by rw [List.length_append, HQ.out]; rfl)
               have HO9 := Lib.hid hO9
               have HC9 := Lib.hid ((HC6.out.alloc _).keptC hgrow9 (fun e => by have := (HO6.out.lt U e).1; omega))
               have HB9 : Hid (Below (U + 1) w6 w9) := Lib.hid (((Below.refl (U + 1) w6).alloc hz6 _).grown hgrow9 (by simp; omega) (fun k hk => (HO6.out.lt k hk).1))
               have y2 : w9.cell? ⟨U, 2, none⟩ = some (.slice Av q cV) := HC9.out.cell (show 2 < 3 by omega)
               have yf2 := HC9.out.frozen (show 2 < 3 by omega)
               clear hown9 hgrow9 hO9))
          have HS9 := Lib.hid (HS6.out.belowB HB9.out (by omega))
          go_roundw
          case rel =>
            refine ⟨j + 1, .slice A9 (q + 1) c9, by omega, by go_num, (HC9.out.set_ (show 2 < 3 by omega) (.slice A9 (q + 1) c9)).congr (fun i hi3 => ?_), ?_, HS9.out.set (by show _ ≤ U; omega) _⟩
            · have : i = 0 ∨ i = 1 ∨ i = 2 := by omega
              rcases this with rfl | rfl | rfl <;> rfl
            · rw [HN1.out, List.length_append, HQ.out]
              exact ownsRow_setCell_below HO9.out (by show U < U + 1; omega) _
          case measure => simp [intOf]; omega
      · have hfi : ¬ (1 : Int) < (f : Int) := by omega
        have HN1 : Hid (hdN a b cs (j + 1) = K) := Lib.hid (HY.out (by rw [HMO.out, decide_eq_false hfm]; rfl))
        clear hfm
        go_wp2_with fail
        go_region_law (first
          | (go_simp; go_at_call 33; refine (catK_any _ _ (.slice Av q cV) q K a1 (n - (j + 1)) (n - (j + 1)) _ (cv (cs.drop (j + 1))) _ (own_keeps HO1.out ((bel_drew (Below.refl _ _)).alloc (Nat.le_refl _) _)) (by omega) (Cells.new (by simp) rfl) (P1'.out.below ((bel_drew (Below.refl _ _)).alloc (Nat.le_refl _) _) (Nat.le_refl _))).mono ?_; rintro e w5 ⟨v5, rfl, hO5, hb5⟩
             have HB5 := Lib.hid (show Below W1.heap.size W1 w5 from bel_call ((bel_drew (Below.refl _ _)).alloc (Nat.le_refl _) _) hb5)
             rw [← cv_app] at hO5
             obtain ⟨A5, c5, rfl, hK5⟩ := own_kc hO5 HLN.out
             have K5 := Lib.hid (hK5.argN HLN.out)
             have HS5 := Lib.hid (HS1.out.call HB5.out)
             have HC5 := Lib.hid (HC1.out.call HB5.out)
             have HO5 := Lib.hid (own_keeps HO1.out HB5.out)
             obtain ⟨t0, t1, t2⟩ := HS5.out.facts
             clear hO5 hb5 hK5))
        all_goals
          go_wp2_with (go_at_call 34; refine (codesWith_any _ _ _ _ _ (K ++ cs.drop (j + 1)) _ (by omega) K5.out HP1.out HALL.out).mono ?_; rintro e w6 ⟨A6, c6, rfl, _, hb6⟩; rw [HF.out]
                       have HS6 := Lib.hid (HS5.out.call hb6)
                       have HC6 := Lib.hid (HC5.out.call hb6)
                       have HO6 := Lib.hid (own_keeps HO5.out hb6)
                       clear hb6)
          go_roundw
          case rel => exact ⟨j + 1, .slice Av q cV, by omega, by go_num, HC6.out, by rw [HN1.out, HQ.out]; exact HO6.out, HS6.out⟩
          case measure => simp [intOf]; omega
    · obtain rfl : j = n := by omega
      have hki : ¬ ((j : Int) < (j : Int)) := by omega
      obtain ⟨A9, c9, e9, hK9⟩ := own_kc HO.out rfl
      cases e9
      have K9 := Lib.hid hK9
      clear hK9
      go_wp2_with fail
      refine bodyPost_ret (v := .tuple #[.agg #[.int .i64 a, .int .i64 b, .slice Av (hdN a b cs j).length cV], .bool true]) (by simp [results, Try.results15, go_sem, s0, s1, s2]) rfl ?_
      unfold hpA
      rw [HD.out, HZ.out]
      exact HS.out.ended (K9.out) (by omega)

end Go.Proofs.Ytgopaflggbgplaa
