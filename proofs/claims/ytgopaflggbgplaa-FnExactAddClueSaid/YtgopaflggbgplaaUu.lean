/- A puzzle with a clue more, as both programs answer. For puzzles in blocks of the law's own. -/
import Derived.Test.YtgopaflggbgplaaUq
import Derived.ArgAppend
namespace Go.Proofs.Ytgopaflggbgplaa
open Go.ChangeShapes Go.WideShapes Go.ChangeAt Go.RowKit Go.Joins

/-- A puzzle handed back with yes or no. -/
def PzOut (w : World) (a b : Int) (cs : List Clu) (ok : Bool) (e : Ending) (w' : World) : Prop :=
  ∃ A c, e = .returned (.tuple #[.agg #[.int .i64 a, .int .i64 b, .slice A cs.length c], .bool ok]) ∧ KC w' w.heap.size w'.heap.size A cs.length (cluF cs) ∧ Below w.heap.size w w'

theorem pz_none {w w' : World} (hb : Below w.heap.size w w') : PzOut w 0 0 [] false (.returned (.tuple #[.agg #[.int .i64 0, .int .i64 0, .slice none 0 0], .bool false])) w' := ⟨none, 0, rfl, .inl rfl, hb⟩

theorem eqKC_any (a b : Int) (A1 A2 : Option Addr) (c1 c2 lo1 hi1 lo2 hi2 : Nat) (cs : List Clu) (w : World) (hm : cs.length ≤ 1048576) (h1 : KC w lo1 hi1 A1 cs.length (cluF cs)) (h2 : KC w lo2 hi2 A2 cs.length (cluF cs)) :
    Calls Try.prog 11 #[.agg #[.int .i64 a, .int .i64 b, .slice A1 cs.length c1], .agg #[.int .i64 a, .int .i64 b, .slice A2 cs.length c2]] w fun e w' => e = .returned (.bool true) ∧ Below w.heap.size w w' :=
  eqPuzzle_any a b A1 A2 cs.length c1 c2 cs w hm h1.argC h2.argC

def acB (a b : Int) (cs : List Clu) (c : Clu) : Bool := pzB a b cs && cluB a b c && !decide (cs.length = 6)
def acA (a b : Int) (cs : List Clu) (c : Clu) (v : Int) : Int := if acB a b cs c then v else 0
def acZ (a b : Int) (cs : List Clu) (c : Clu) : List Clu := if acB a b cs c then cs ++ [c] else []

theorem acZ_size (a b : Int) (cs : List Clu) (c : Clu) : (acZ a b cs c).length ≤ 7 := by
  unfold acZ
  by_cases h : acB a b cs c = true
  · rw [if_pos h]
    unfold acB at h
    rw [Bool.and_eq_true, Bool.and_eq_true] at h
    have h3 := (pzB_yes h.1.1).2.1
    rw [List.length_append, List.length_singleton]
    omega
  · rw [if_neg h]; simp

/-- A clue's three cells. -/
def g3C (k x y : Int) (j : Nat) : Value := (#[.int .i64 k, .int .i64 x, .int .i64 y] : Array Value).toList.getD j undef

/-- A puzzle, a clue and an empty answer in blocks of the call's own. -/
structure PCA (w : World) (a b : Int) (v : Value) (k x y : Int) (W : World) : Prop where
  p : Cells W w.heap.size 3 (g3F a b v)
  c : Cells W (w.heap.size + 1) 3 (g3C k x y)
  r : Cells W (w.heap.size + 1 + 1) 3 (g3F 0 0 (.slice none 0 0))
  bel : Below w.heap.size w W
  size : w.heap.size + 3 ≤ W.heap.size

theorem PCA.call {w W W' : World} {a b k x y : Int} {v : Value} (h : PCA w a b v k x y W) (hb : Below W.heap.size W W') : PCA w a b v k x y W' :=
  ⟨h.p.call hb, h.c.call hb, h.r.call hb, bel_call h.bel hb, Nat.le_trans h.size hb.size⟩

theorem PCA.alloc {w W : World} {a b k x y : Int} {v : Value} (h : PCA w a b v k x y W) (o : Obj) : PCA w a b v k x y (W.alloc o) := h.call ((Below.refl _ _).alloc (Nat.le_refl _) _)

theorem PCA.facts {w W : World} {a b k x y : Int} {v : Value} (h : PCA w a b v k x y W) :
    W.cell? ⟨w.heap.size, 0, none⟩ = some (.int .i64 a) ∧ W.cell? ⟨w.heap.size, 1, none⟩ = some (.int .i64 b) ∧ W.cell? ⟨w.heap.size, 2, none⟩ = some v ∧
    W.cell? ⟨w.heap.size + 1, 0, none⟩ = some (.int .i64 k) ∧ W.cell? ⟨w.heap.size + 1, 1, none⟩ = some (.int .i64 x) ∧ W.cell? ⟨w.heap.size + 1, 2, none⟩ = some (.int .i64 y) :=
  ⟨h.p.cell (show 0 < 3 by omega), h.p.cell (show 1 < 3 by omega), h.p.cell (show 2 < 3 by omega), h.c.cell (show 0 < 3 by omega), h.c.cell (show 1 < 3 by omega), h.c.cell (show 2 < 3 by omega)⟩

theorem PCA.last {w W : World} {a b k x y : Int} {v : Value} (h : PCA w a b v k x y W) :
    W.cell? ⟨w.heap.size + 1 + 1, 0, none⟩ = some (.int .i64 0) ∧ W.cell? ⟨w.heap.size + 1 + 1, 1, none⟩ = some (.int .i64 0) ∧ W.cell? ⟨w.heap.size + 1 + 1, 2, none⟩ = some (.slice none 0 0) ∧
    W.frozen? ⟨w.heap.size + 1 + 1, 0, none⟩ = false ∧ W.frozen? ⟨w.heap.size + 1 + 1, 1, none⟩ = false ∧ W.frozen? ⟨w.heap.size + 1 + 1, 2, none⟩ = false :=
  ⟨h.r.cell (show 0 < 3 by omega), h.r.cell (show 1 < 3 by omega), h.r.cell (show 2 < 3 by omega), h.r.frozen (show 0 < 3 by omega), h.r.frozen (show 1 < 3 by omega), h.r.frozen (show 2 < 3 by omega)⟩

/-- The cells that the last step reads. -/
abbrev P6 (w : World) (a b : Int) (v : Value) (k x y : Int) (W : World) : Prop :=
  W.cell? ⟨w.heap.size, 0, none⟩ = some (.int .i64 a) ∧ W.cell? ⟨w.heap.size, 1, none⟩ = some (.int .i64 b) ∧ W.cell? ⟨w.heap.size, 2, none⟩ = some v ∧
    W.cell? ⟨w.heap.size + 1, 0, none⟩ = some (.int .i64 k) ∧ W.cell? ⟨w.heap.size + 1, 1, none⟩ = some (.int .i64 x) ∧ W.cell? ⟨w.heap.size + 1, 2, none⟩ = some (.int .i64 y) ∧ w.heap.size + 3 ≤ W.heap.size

theorem PCA.p6 {w W : World} {a b k x y : Int} {v : Value} (h : PCA w a b v k x y W) : P6 w a b v k x y W :=
  ⟨h.p.cell (show 0 < 3 by omega), h.p.cell (show 1 < 3 by omega), h.p.cell (show 2 < 3 by omega), h.c.cell (show 0 < 3 by omega), h.c.cell (show 1 < 3 by omega), h.c.cell (show 2 < 3 by omega), h.size⟩

theorem P6.set {w W : World} {a b k x y : Int} {v : Value} (h : P6 w a b v k x y W) (j : Nat) (u : Value) : P6 w a b v k x y (W.setCell ⟨w.heap.size + 1 + 1, j, none⟩ u) := by
  obtain ⟨h0, h1, h2, h3, h4, h5, h6⟩ := h
  have n1 : ∀ i, (⟨w.heap.size, i, none⟩ : Addr) ≠ ⟨w.heap.size + 1 + 1, j, none⟩ := fun i e => by injection e with e1; omega
  have n2 : ∀ i, (⟨w.heap.size + 1, i, none⟩ : Addr) ≠ ⟨w.heap.size + 1 + 1, j, none⟩ := fun i e => by injection e with e1; omega
  exact ⟨by rw [World.cell?_setCell_other W _ _ _ (n1 0).symm, h0], by rw [World.cell?_setCell_other W _ _ _ (n1 1).symm, h1], by rw [World.cell?_setCell_other W _ _ _ (n1 2).symm, h2], by rw [World.cell?_setCell_other W _ _ _ (n2 0).symm, h3], by rw [World.cell?_setCell_other W _ _ _ (n2 1).symm, h4], by rw [World.cell?_setCell_other W _ _ _ (n2 2).symm, h5], by rw [size_setCell]; exact h6⟩

theorem pca_new (w : World) (a b k x y : Int) (v : Value) (t1 t2 t3 : TypeId) :
    PCA w a b v k x y (((w.alloc (.cells #[.int .i64 a, .int .i64 b, v] t1)).alloc (.cells #[.int .i64 k, .int .i64 x, .int .i64 y] t2)).alloc (.cells #[.int .i64 0, .int .i64 0, .slice none 0 0] t3)) :=
  ⟨((Cells.new (W := w) (n := 3) rfl rfl).alloc _).alloc _, (Cells.new (n := 3) (by simp) rfl).alloc _, Cells.new (n := 3) (by simp) rfl, (((Below.refl _ _).alloc (Nat.le_refl _) _).alloc (by simp) _).alloc (by simp; omega) _, by simp⟩

theorem at_of {w : World} {b off n : Nat} {cs : List Clu} (h : ArgC w (some ⟨b, off, none⟩) n cs) : ∀ j u, (cv cs)[j]? = some u → w.cell? ((⟨b, off, none⟩ : Addr).add j) = some u := by
  rcases Nat.eq_zero_or_pos n with h0 | h0
  · intro j u hj
    rw [List.eq_nil_of_length_eq_zero (h.len.trans h0)] at hj
    simp [cv] at hj
  · obtain ⟨b', off', e, hb, _⟩ := h.at_.resolve_left (by omega)
    cases e
    exact (part_of h hb).at_

theorem news_c {W : World} {g : Nat} {k x y : Int} (h : Cells W g 3 (g3C k x y)) : ∀ j u, ([.int .i64 k, .int .i64 x, .int .i64 y] : List Value)[j]? = some u → W.cell? ((⟨g, 0, none⟩ : Addr).add j) = some u := by
  intro j u hj
  rw [show (⟨g, 0, none⟩ : Addr).add j = ⟨g, j, none⟩ by unfold Addr.add; split <;> simp_all]
  rcases j with _ | _ | _ | j
  · cases hj; exact h.cell (show 0 < 3 by omega)
  · cases hj; exact h.cell (show 1 < 3 by omega)
  · cases hj; exact h.cell (show 2 < 3 by omega)
  · simp at hj

theorem one_c (k x y : Int) : ∀ u ∈ ([.int .i64 k, .int .i64 x, .int .i64 y] : List Value), u.oneCell' = true := by
  intro u hu
  simp only [List.mem_cons, List.mem_nil_iff, or_false] at hu
  rcases hu with rfl | rfl | rfl <;> rfl

theorem cv_snoc (cs : List Clu) (c : Clu) : cv cs ++ [.int .i64 c.1, .int .i64 c.2.1, .int .i64 c.2.2] = cv (cs ++ [c]) := by rw [cv_app]; rfl

theorem step_growC {P : Program} {ops : Array Oper} {o : Oper} {a : Act} {w : World} {K : Act → World → Prop} {Q : Exit → Act → World → Prop} {E : Prop}
    (hg : o.guard = none) (s x : Operand) (t : TypeId) (hop : o.op = Op.call { callee := Callee.builtin Builtin.append, args := #[s, x], argTypes := #[t, t] })
    (e : TypeId) (i : TypeInfo) (z : Value) (size bytes : Nat) (h1 : P.underlying t = some (.slice e)) (h2 : P.info? e = some i) (h3 : i.zero = some z) (h4 : i.size = size) (h5 : i.bytes = bytes) (h6 : z.cells.size = size) (h7 : 0 < size)
    (b : Addr) (n cap : Nat) (olds : List Value) (hs : a.eval s = .slice (some b) n cap) (hlo : olds.length = n * size) (holds : ∀ j u, olds[j]? = some u → w.cell? (b.add j) = some u)
    (ad : Addr) (m c : Nat) (news : List Value) (hx : a.eval x = .slice (some ad) m c) (hn : news.length = m * size) (hc : ∀ j u, news[j]? = some u → w.cell? (ad.add j) = some u)
    (hgr : cap < n + m) (b1 : n + m ≤ maxLen) (b2 : (n + m) * bytes ≤ 140737488355328)
    (hK : ∀ v' w', w'.ownsRow w.heap.size e size v' (n + m) (olds ++ news) → w.grownBy w' none → K (a.put o.dst v') w') :
    if Region.wanted o (yielded ops a.tmps) = true then Oper.wp P o a w K Q else E := by
  have hw : Region.wanted o (yielded ops a.tmps) = true := by simp [Region.wanted, hg]
  rw [if_pos hw]
  obtain ⟨v', w', hrun, r1, r2⟩ := run_append_arg_grows (P := P) (w := w) t o.type e i z size bytes h1 h2 h3 h4 h5 h6 h7 b n cap olds hlo holds ad m c news hn hc hgr b1 b2
  unfold Oper.wp
  simp [execOp, hop, resolve, invoke, builtin, hs, hx, hrun, Result.andThen]
  exact hK v' w' r1 r2

theorem Cells.keptC {w w' : World} {g n : Nat} {f : Nat → Value} {row : Option Nat} (h : Cells w g n f) (hg : w.grownBy w' row) (hne : row ≠ some g) : Cells w' g n f := by
  have e1 := hg.block g h.lt (fun e => hne e.symm)
  exact ⟨Nat.lt_of_lt_of_le h.lt hg.size, fun j hj => by
    have := h.at_ j hj
    rw [World.cell?_of_block (a := ⟨g, j, none⟩) e1, World.frozen?_of_block (a := ⟨g, j, none⟩) e1]; exact this⟩

theorem cut_firstC (b off n c m : Nat) (w : World) (hc : n ≤ c) (hcm : c ≤ 9223372036854775807) (hk : m ≤ n) :
    Calls Try.prog 25 #[.slice (some ⟨b, off, none⟩) n c, .int .i64 0, .int .i64 (m : Int)] w fun e w' => e = .returned (.slice (some ⟨b, off, none⟩) m m) ∧ w' = w := by
  by_cases h0 : m = 0
  · subst h0
    go_enter Try.func25, Try.ntmps25
    go_wp2_with fail
    go_ret
    exact ⟨rfl, rfl⟩
  · go_enter Try.func25, Try.ntmps25
    go_wp2_with fail
    go_ret
    exact ⟨rfl, rfl⟩

set_option maxRecDepth 100000 in
set_option maxHeartbeats 8000000 in
theorem specAddClue_any (a b : Int) (g n : Nat) (cs : List Clu) (k x y : Int) (w : World) (hn : n ≤ maxLen) (hA : ArgC w (some ⟨g, 0, none⟩) n cs) :
    Calls Try.prog 7 #[.agg #[.int .i64 a, .int .i64 b, .slice (some ⟨g, 0, none⟩) n n], .agg #[.int .i64 k, .int .i64 x, .int .i64 y]] w (PzOut w (acA a b cs (k, x, y) a) (acA a b cs (k, x, y) b) (acZ a b cs (k, x, y)) (acB a b cs (k, x, y))) := by
  obtain ⟨W0, hW0⟩ : ∃ W0, ((w.alloc (.cells #[.int .i64 a, .int .i64 b, .slice (some ⟨g, 0, none⟩) n n] 33)).alloc (.cells #[.int .i64 k, .int .i64 x, .int .i64 y] 37)).alloc (.cells #[.int .i64 0, .int .i64 0, .slice none 0 0] 33) = W0 := ⟨_, rfl⟩
  have H0 : Hid (PCA w a b (.slice (some ⟨g, 0, none⟩) n n) k x y W0) := Lib.hid (hW0 ▸ pca_new ..)
  obtain ⟨l0, l1, l2, l3, l4, l5⟩ := H0.out.facts
  have HN := Lib.hid hn
  have HA := Lib.hid hA
  have HL := Lib.hid hA.len
  clear hn hA
  obtain ⟨p, hp⟩ : ∃ p, pzB a b cs = p := ⟨_, rfl⟩
  have HP := Lib.hid hp
  clear hp
  rcases p with _ | _
  · have HD : Hid (acB a b cs (k, x, y) = false) := Lib.hid (by unfold acB; rw [HP.out]; rfl)
    go_enter Try.func7, Try.ntmps7
    go_wp2_with (first
      | (go_at_call 20; refine (pzGood_any _ _ _ _ _ cs _ HN.out (HA.out.below H0.out.bel)).mono ?_; rw [HP.out]; rintro e w1 ⟨rfl, hb1⟩
         have H1 := Lib.hid (H0.out.call hb1)
         have HE := H1
         obtain ⟨m0, m1, m2, m3, m4, m5⟩ := H1.out.facts
         obtain ⟨s0, s1, s2, f0, f1, f2⟩ := H1.out.last
         clear hb1)
      | (go_at_call 21; refine (pzClue_any _ _ _ _ _ _ HP1.out).mono ?_; rw [HR.out]; rintro e w2 ⟨rfl, hb2⟩
         have H2 := Lib.hid (H1.out.call hb2)
         have HE := H2
         obtain ⟨q0, q1, q2, q3, q4, q5⟩ := H2.out.facts
         obtain ⟨s0, s1, s2, f0, f1, f2⟩ := H2.out.last
         clear hb2))
    refine bodyPost_ret (v := .tuple #[.agg #[.int .i64 0, .int .i64 0, .slice none 0 0], .bool false]) (by simp [results, Try.results7, go_sem, s0, s1, s2]) rfl ?_
    unfold acA acZ
    rw [HD.out]
    exact pz_none (((HE.out.bel.setCell (p := ⟨w.heap.size + 1 + 1, 0, none⟩) (by show w.heap.size ≤ w.heap.size + 1 + 1; omega) _).setCell (p := ⟨w.heap.size + 1 + 1, 1, none⟩) (by show w.heap.size ≤ w.heap.size + 1 + 1; omega) _).setCell (p := ⟨w.heap.size + 1 + 1, 2, none⟩) (by show w.heap.size ≤ w.heap.size + 1 + 1; omega) _)
  have HP1 := Lib.hid (pzB_yes HP.out).1
  obtain ⟨r, hr⟩ : ∃ r, cluB a b (k, x, y) = r := ⟨_, rfl⟩
  have HR := Lib.hid hr
  clear hr
  rcases r with _ | _
  · have HD : Hid (acB a b cs (k, x, y) = false) := Lib.hid (by unfold acB; rw [HR.out]; simp)
    go_enter Try.func7, Try.ntmps7
    go_wp2_with (first
      | (go_at_call 20; refine (pzGood_any _ _ _ _ _ cs _ HN.out (HA.out.below H0.out.bel)).mono ?_; rw [HP.out]; rintro e w1 ⟨rfl, hb1⟩
         have H1 := Lib.hid (H0.out.call hb1)
         have HE := H1
         obtain ⟨m0, m1, m2, m3, m4, m5⟩ := H1.out.facts
         obtain ⟨s0, s1, s2, f0, f1, f2⟩ := H1.out.last
         clear hb1)
      | (go_at_call 21; refine (pzClue_any _ _ _ _ _ _ HP1.out).mono ?_; rw [HR.out]; rintro e w2 ⟨rfl, hb2⟩
         have H2 := Lib.hid (H1.out.call hb2)
         have HE := H2
         obtain ⟨q0, q1, q2, q3, q4, q5⟩ := H2.out.facts
         obtain ⟨s0, s1, s2, f0, f1, f2⟩ := H2.out.last
         clear hb2))
    refine bodyPost_ret (v := .tuple #[.agg #[.int .i64 0, .int .i64 0, .slice none 0 0], .bool false]) (by simp [results, Try.results7, go_sem, s0, s1, s2]) rfl ?_
    unfold acA acZ
    rw [HD.out]
    exact pz_none (((HE.out.bel.setCell (p := ⟨w.heap.size + 1 + 1, 0, none⟩) (by show w.heap.size ≤ w.heap.size + 1 + 1; omega) _).setCell (p := ⟨w.heap.size + 1 + 1, 1, none⟩) (by show w.heap.size ≤ w.heap.size + 1 + 1; omega) _).setCell (p := ⟨w.heap.size + 1 + 1, 2, none⟩) (by show w.heap.size ≤ w.heap.size + 1 + 1; omega) _)
  by_cases h6 : n = 6
  · have h6e : ((n : Int) == 6) = true := by rw [h6]; rfl
    have HD : Hid (acB a b cs (k, x, y) = false) := Lib.hid (by unfold acB; rw [HL.out, decide_eq_true h6]; simp)
    clear h6
    go_enter Try.func7, Try.ntmps7
    go_wp2_with (first
      | (go_at_call 20; refine (pzGood_any _ _ _ _ _ cs _ HN.out (HA.out.below H0.out.bel)).mono ?_; rw [HP.out]; rintro e w1 ⟨rfl, hb1⟩
         have H1 := Lib.hid (H0.out.call hb1)
         have HE := H1
         obtain ⟨m0, m1, m2, m3, m4, m5⟩ := H1.out.facts
         obtain ⟨s0, s1, s2, f0, f1, f2⟩ := H1.out.last
         clear hb1)
      | (go_at_call 21; refine (pzClue_any _ _ _ _ _ _ HP1.out).mono ?_; rw [HR.out]; rintro e w2 ⟨rfl, hb2⟩
         have H2 := Lib.hid (H1.out.call hb2)
         have HE := H2
         obtain ⟨q0, q1, q2, q3, q4, q5⟩ := H2.out.facts
         obtain ⟨s0, s1, s2, f0, f1, f2⟩ := H2.out.last
         clear hb2))
    refine bodyPost_ret (v := .tuple #[.agg #[.int .i64 0, .int .i64 0, .slice none 0 0], .bool false]) (by simp [results, Try.results7, go_sem, s0, s1, s2]) rfl ?_
    unfold acA acZ
    rw [HD.out]
    exact pz_none (((HE.out.bel.setCell (p := ⟨w.heap.size + 1 + 1, 0, none⟩) (by show w.heap.size ≤ w.heap.size + 1 + 1; omega) _).setCell (p := ⟨w.heap.size + 1 + 1, 1, none⟩) (by show w.heap.size ≤ w.heap.size + 1 + 1; omega) _).setCell (p := ⟨w.heap.size + 1 + 1, 2, none⟩) (by show w.heap.size ≤ w.heap.size + 1 + 1; omega) _)
  · have h6e : ((n : Int) == 6) = false := by rw [beq_eq_false_iff_ne]; omega
    have hn5 : n ≤ 5 := by have := (pzB_yes HP.out).2.1; rw [HL.out] at this; omega
    have HD : Hid (acB a b cs (k, x, y) = true) := Lib.hid (by unfold acB; rw [HP.out, HR.out, HL.out, decide_eq_false h6]; rfl)
    have HZ : Hid (acZ a b cs (k, x, y) = cs ++ [(k, x, y)]) := Lib.hid (by unfold acZ; rw [HD.out]; rfl)
    have HZL : Hid ((cs ++ [(k, x, y)]).length = n + 1) := Lib.hid (by rw [List.length_append, HL.out]; rfl)
    have HLV : Hid ((cv cs).length = n * 3) := Lib.hid (by rw [cv_length, HL.out])
    obtain ⟨i0, hi, hy0, hy1, hy2⟩ := info_parts info_clue
    clear h6
    go_enter Try.func7, Try.ntmps7
    go_wp2_with (first
      | (go_at_call 20; refine (pzGood_any _ _ _ _ _ cs _ HN.out (HA.out.below H0.out.bel)).mono ?_; rw [HP.out]; rintro e w1 ⟨rfl, hb1⟩
         have H1 := Lib.hid (H0.out.call hb1)
         have HE := H1
         obtain ⟨m0, m1, m2, m3, m4, m5⟩ := H1.out.facts
         obtain ⟨s0, s1, s2, f0, f1, f2⟩ := H1.out.last
         clear hb1)
      | (go_at_call 21; refine (pzClue_any _ _ _ _ _ _ HP1.out).mono ?_; rw [HR.out]; rintro e w2 ⟨rfl, hb2⟩
         have H2 := Lib.hid (H1.out.call hb2)
         have HE := H2
         obtain ⟨q0, q1, q2, q3, q4, q5⟩ := H2.out.facts
         obtain ⟨s0, s1, s2, f0, f1, f2⟩ := H2.out.last
         clear hb2))
    have HOa := Lib.hid (own_keeps (World.ownsRow_made (base := w2.heap.size) (e := 37) (size := 3) w2 #[] 0 (Nat.le_refl _) (by unfold maxLen; omega) rfl) (bel_drew (Below.refl _ _)))
    have HBa := Lib.hid (bel_drew ((Below.refl w2.heap.size w2).alloc (Nat.le_refl _) (.cells #[] 37)))
    have HOb := Lib.hid (own_keeps ((World.ownsRow_made (base := w2.heap.size) (e := 37) (size := 3) w2 #[] 0 (Nat.le_refl _) (by unfold maxLen; omega) rfl).alloc (.cells #[.int .i64 k, .int .i64 x, .int .i64 y] 37)) (bel_drew (Below.refl _ _)))
    have HBb := Lib.hid (bel_drew (((Below.refl w2.heap.size w2).alloc (Nat.le_refl _) (.cells #[] 37)).alloc (by simp) (.cells #[.int .i64 k, .int .i64 x, .int .i64 y] 37)))
    have HCb : Hid (Cells ((w2.alloc (.cells #[] 37)).alloc (.cells #[.int .i64 k, .int .i64 x, .int .i64 y] 37)).drew (w2.heap.size + 1) 3 (g3C k x y)) := Lib.hid ((Cells.new (n := 3) (by simp) rfl).call (bel_drew (Below.refl _ _)))
    have HOc : Hid (((w2.alloc (.cells #[.int .i64 k, .int .i64 x, .int .i64 y] 37)).alloc (.cells #[] 37)).drew.ownsRow w2.heap.size 37 3 (.slice (some ⟨w2.heap.size + 1, 0, none⟩) 0 0) 0 []) := Lib.hid (by
      have h := own_keeps (World.ownsRow_made (base := w2.heap.size) (e := 37) (size := 3) (w2.alloc (.cells #[.int .i64 k, .int .i64 x, .int .i64 y] 37)) #[] 0 (by simp) (by unfold maxLen; omega) rfl) (bel_drew (Below.refl _ _))
      rw [World.size_alloc w2] at h
      exact h)
    have HBc := Lib.hid (bel_drew (((Below.refl w2.heap.size w2).alloc (Nat.le_refl _) (.cells #[.int .i64 k, .int .i64 x, .int .i64 y] 37)).alloc (by simp) (.cells #[] 37)))
    have HCc : Hid (Cells ((w2.alloc (.cells #[.int .i64 k, .int .i64 x, .int .i64 y] 37)).alloc (.cells #[] 37)).drew w2.heap.size 3 (g3C k x y)) := Lib.hid (((Cells.new (n := 3) rfl rfl).alloc (.cells #[] 37)).call (bel_drew (Below.refl _ _)))
    have HSa := Lib.hid (H2.out.call HBa.out).p6
    have HSb := Lib.hid (H2.out.call HBb.out).p6
    have HSc := Lib.hid (H2.out.call HBc.out).p6
    have HSd := Lib.hid ((H2.out.alloc (.cells #[.int .i64 k, .int .i64 x, .int .i64 y] 37)).call (bel_drew (Below.refl _ _))).p6
    have HSz := Lib.hid (H2.out.call (bel_drew (Below.refl _ _))).p6
    go_region_held3 (P6 w a b (.slice (some ⟨g, 0, none⟩) n n) k x y) (first | assumption | exact HS5.out | exact HSe.out | exact HS4.out | exact HSz.out | exact HSa.out | exact HSb.out | exact HSc.out | exact HSd.out | exact ((HS5.out.set 0 _).set 1 _).set 2 _ | go_keep) (first
      | (refine step_appC rfl (.tmp 28) (.tmp 30) 31 rfl w2.heap.size 37 i0 (.agg #[.int .i64 0, .int .i64 0, .int .i64 0]) 3 24 Try.underlying31 hi hy0 hy1 hy2 rfl (by decide) v4 (0 + n) ([] ++ cv cs) rfl HO4.out ⟨w2.heap.size + 1, 0, none⟩ 1 1 [.int .i64 k, .int .i64 x, .int .i64 y] rfl rfl (news_c HCb4.out) (one_c _ _ _) (by unfold maxLen; omega) (by omega) HB4.out.size ?_; intro v5 w5 hown5 hgrow5
         rw [List.nil_append, Nat.zero_add, cv_snoc cs (k, x, y)] at hown5
         have HB5 : Hid (Below w2.heap.size w2 w5) := Lib.hid ((HB4.out).grown hgrow5 (HB4.out.size) (fun j hj => (HO4.out.lt j hj).1))
         obtain ⟨A5, c5, rfl, hK5⟩ := own_kc hown5 HZL.out
         have K5 := Lib.hid hK5
         have HS5 := Lib.hid (H2.out.call HB5.out).p6
         obtain ⟨t0, t1, t2, t3, t4, t5⟩ := (H2.out.call HB5.out).last
         clear hown5 hgrow5 hK5)
      | (refine step_appC rfl (.tmp 28) (.tmp 30) 31 rfl w2.heap.size 37 i0 (.agg #[.int .i64 0, .int .i64 0, .int .i64 0]) 3 24 Try.underlying31 hi hy0 hy1 hy2 rfl (by decide) v4 (0 + n) ([] ++ cv cs) rfl HO4.out ⟨w2.heap.size, 0, none⟩ 1 1 [.int .i64 k, .int .i64 x, .int .i64 y] rfl rfl (news_c HCc4.out) (one_c _ _ _) (by unfold maxLen; omega) (by omega) HB4.out.size ?_; intro v5 w5 hown5 hgrow5
         rw [List.nil_append, Nat.zero_add, cv_snoc cs (k, x, y)] at hown5
         have HB5 : Hid (Below w2.heap.size w2 w5) := Lib.hid ((HB4.out).grown hgrow5 (HB4.out.size) (fun j hj => (HO4.out.lt j hj).1))
         obtain ⟨A5, c5, rfl, hK5⟩ := own_kc hown5 HZL.out
         have K5 := Lib.hid hK5
         have HS5 := Lib.hid (H2.out.call HB5.out).p6
         obtain ⟨t0, t1, t2, t3, t4, t5⟩ := (H2.out.call HB5.out).last
         clear hown5 hgrow5 hK5)
      | (refine step_appC rfl (.tmp 28) (.tmp 30) 31 rfl w2.heap.size 37 i0 (.agg #[.int .i64 0, .int .i64 0, .int .i64 0]) 3 24 Try.underlying31 hi hy0 hy1 hy2 rfl (by decide) v4 (0 + n) ([] ++ cv cs) rfl (HO4.out.alloc _) ⟨w4.heap.size, 0, none⟩ 1 1 [.int .i64 k, .int .i64 x, .int .i64 y] rfl rfl (news_c (Cells.new (n := 3) rfl rfl)) (one_c _ _ _) (by unfold maxLen; omega) (by omega) (by have := HB4.out.size; simp; omega) ?_; intro v5 w5 hown5 hgrow5
         rw [List.nil_append, Nat.zero_add, cv_snoc cs (k, x, y)] at hown5
         have HB5 : Hid (Below w2.heap.size w2 w5) := Lib.hid (((HB4.out.alloc HB4.out.size (.cells #[.int .i64 k, .int .i64 x, .int .i64 y] 37))).grown hgrow5 ((by have := HB4.out.size; simp; omega)) (fun j hj => (HO4.out.lt j hj).1))
         obtain ⟨A5, c5, rfl, hK5⟩ := own_kc hown5 HZL.out
         have K5 := Lib.hid hK5
         have HS5 := Lib.hid (H2.out.call HB5.out).p6
         obtain ⟨t0, t1, t2, t3, t4, t5⟩ := (H2.out.call HB5.out).last
         clear hown5 hgrow5 hK5)
      | (refine step_appC rfl (.tmp 25) (.tmp 27) 31 rfl w2.heap.size 37 i0 (.agg #[.int .i64 0, .int .i64 0, .int .i64 0]) 3 24 Try.underlying31 hi hy0 hy1 hy2 rfl (by decide) _ 0 [] rfl HOa.out ⟨g, 0, none⟩ n n (cv cs) rfl HLV.out (at_of (HA.out.below (bel_call H2.out.bel HBa.out))) (cv_one _) (by unfold maxLen; omega) (by omega) HBa.out.size ?_; intro v4 w4 hown4 hgrow4
         have HO4 := Lib.hid hown4
         have HB4 : Hid (Below w2.heap.size w2 w4) := Lib.hid (HBa.out.grown hgrow4 HBa.out.size (fun j hj => (HOa.out.lt j hj).1))
         have HSe := Lib.hid ((H2.out.call HB4.out).alloc (.cells #[.int .i64 k, .int .i64 x, .int .i64 y] 37)).p6
         have HM4 := Lib.hid (H2.out.call HB4.out)
         have HS4 := Lib.hid HM4.out.p6
         clear hown4 hgrow4)
      | (refine step_appC rfl (.tmp 25) (.tmp 27) 31 rfl w2.heap.size 37 i0 (.agg #[.int .i64 0, .int .i64 0, .int .i64 0]) 3 24 Try.underlying31 hi hy0 hy1 hy2 rfl (by decide) _ 0 [] rfl HOb.out ⟨g, 0, none⟩ n n (cv cs) rfl HLV.out (at_of (HA.out.below (bel_call H2.out.bel HBb.out))) (cv_one _) (by unfold maxLen; omega) (by omega) HBb.out.size ?_; intro v4 w4 hown4 hgrow4
         have HO4 := Lib.hid hown4
         have HB4 : Hid (Below w2.heap.size w2 w4) := Lib.hid (HBb.out.grown hgrow4 HBb.out.size (fun j hj => (HOb.out.lt j hj).1))
         have HCb4 := Lib.hid (HCb.out.keptC hgrow4 (fun e => absurd (Option.some.inj (show some w2.heap.size = some (w2.heap.size + 1) from e)) (by omega)))
         have HM4 := Lib.hid (H2.out.call HB4.out)
         have HS4 := Lib.hid HM4.out.p6
         clear hown4 hgrow4)
      | (refine step_appC rfl (.tmp 25) (.tmp 27) 31 rfl w2.heap.size 37 i0 (.agg #[.int .i64 0, .int .i64 0, .int .i64 0]) 3 24 Try.underlying31 hi hy0 hy1 hy2 rfl (by decide) _ 0 [] rfl HOc.out ⟨g, 0, none⟩ n n (cv cs) rfl HLV.out (at_of (HA.out.below (bel_call H2.out.bel HBc.out))) (cv_one _) (by unfold maxLen; omega) (by omega) HBc.out.size ?_; intro v4 w4 hown4 hgrow4
         have HO4 := Lib.hid hown4
         have HB4 : Hid (Below w2.heap.size w2 w4) := Lib.hid (HBc.out.grown hgrow4 HBc.out.size (fun j hj => (HOc.out.lt j hj).1))
         have HCc4 := Lib.hid (HCc.out.keptC hgrow4 (fun e => absurd (Option.some.inj (show some (w2.heap.size + 1) = some w2.heap.size from e)) (by omega)))
         have HM4 := Lib.hid (H2.out.call HB4.out)
         have HS4 := Lib.hid HM4.out.p6
         clear hown4 hgrow4))
    all_goals
      have HM5 := Lib.hid (H2.out.call HB5.out)
      obtain ⟨s0, s1, s2, f0, f1, f2⟩ := HM5.out.last
      have ZE := HM5.out.size
      have Z2 := H2.out.size
      go_wp2_with fail
      refine bodyPost_ret (v := .tuple #[.agg #[.int .i64 a, .int .i64 b, .slice A5 (n + 1) c5], .bool true]) (by simp [results, Try.results7, go_sem, s0, s1, s2]) rfl ?_
      rw [HZ.out]
      unfold acA
      rw [HD.out]
      refine ⟨A5, c5, by rw [HZL.out]; rfl, ?_, ((HM5.out.bel.setCell (p := ⟨w.heap.size + 1 + 1, 0, none⟩) (by show w.heap.size ≤ w.heap.size + 1 + 1; omega) _).setCell (p := ⟨w.heap.size + 1 + 1, 1, none⟩) (by show w.heap.size ≤ w.heap.size + 1 + 1; omega) _).setCell (p := ⟨w.heap.size + 1 + 1, 2, none⟩) (by show w.heap.size ≤ w.heap.size + 1 + 1; omega) _⟩
      rw [size_setCell, size_setCell, size_setCell, HZL.out]
      exact (((K5.out.far (p := ⟨w.heap.size + 1 + 1, 0, none⟩) (by show w.heap.size + 1 + 1 < _; omega) _).far (p := ⟨w.heap.size + 1 + 1, 1, none⟩) (by show w.heap.size + 1 + 1 < _; omega) _).far (p := ⟨w.heap.size + 1 + 1, 2, none⟩) (by show w.heap.size + 1 + 1 < _; omega) _).wide (by omega) (Nat.le_refl _)

set_option maxRecDepth 100000 in
set_option maxHeartbeats 8000000 in
theorem addClue_any (a b : Int) (g n : Nat) (cs : List Clu) (k x y : Int) (w : World) (hn : n ≤ maxLen) (hA : ArgC w (some ⟨g, 0, none⟩) n cs) :
    Calls Try.prog 10 #[.agg #[.int .i64 a, .int .i64 b, .slice (some ⟨g, 0, none⟩) n n], .agg #[.int .i64 k, .int .i64 x, .int .i64 y]] w (PzOut w (acA a b cs (k, x, y) a) (acA a b cs (k, x, y) b) (acZ a b cs (k, x, y)) (acB a b cs (k, x, y))) := by
  obtain ⟨W0, hW0⟩ : ∃ W0, ((w.alloc (.cells #[.int .i64 a, .int .i64 b, .slice (some ⟨g, 0, none⟩) n n] 33)).alloc (.cells #[.int .i64 k, .int .i64 x, .int .i64 y] 37)).alloc (.cells #[.int .i64 0, .int .i64 0, .slice none 0 0] 33) = W0 := ⟨_, rfl⟩
  have H0 : Hid (PCA w a b (.slice (some ⟨g, 0, none⟩) n n) k x y W0) := Lib.hid (hW0 ▸ pca_new ..)
  obtain ⟨l0, l1, l2, l3, l4, l5⟩ := H0.out.facts
  have HN := Lib.hid hn
  have HA := Lib.hid hA
  have HL := Lib.hid hA.len
  clear hn hA
  obtain ⟨p, hp⟩ : ∃ p, pzB a b cs = p := ⟨_, rfl⟩
  have HP := Lib.hid hp
  clear hp
  rcases p with _ | _
  · have HD : Hid (acB a b cs (k, x, y) = false) := Lib.hid (by unfold acB; rw [HP.out]; rfl)
    go_enter Try.func10, Try.ntmps10
    go_wp2_with (first
      | (go_at_call 23; refine (isPuzzle_any _ _ _ _ _ cs _ HN.out (HA.out.below H0.out.bel)).mono ?_; rw [HP.out]; rintro e w1 ⟨rfl, hb1⟩
         have H1 := Lib.hid (H0.out.call hb1)
         have HE := H1
         obtain ⟨m0, m1, m2, m3, m4, m5⟩ := H1.out.facts
         obtain ⟨s0, s1, s2, f0, f1, f2⟩ := H1.out.last
         clear hb1)
      | (go_at_call 24; refine (isClue_any _ _ _ _ _ _).mono ?_; rw [HP1.out, HR.out]; rintro e w2 ⟨rfl, hb2⟩
         have H2 := Lib.hid (H1.out.call hb2)
         have HE := H2
         obtain ⟨q0, q1, q2, q3, q4, q5⟩ := H2.out.facts
         obtain ⟨s0, s1, s2, f0, f1, f2⟩ := H2.out.last
         clear hb2))
    refine bodyPost_ret (v := .tuple #[.agg #[.int .i64 0, .int .i64 0, .slice none 0 0], .bool false]) (by simp [results, Try.results10, go_sem, s0, s1, s2]) rfl ?_
    unfold acA acZ
    rw [HD.out]
    exact pz_none (((HE.out.bel.setCell (p := ⟨w.heap.size + 1 + 1, 0, none⟩) (by show w.heap.size ≤ w.heap.size + 1 + 1; omega) _).setCell (p := ⟨w.heap.size + 1 + 1, 1, none⟩) (by show w.heap.size ≤ w.heap.size + 1 + 1; omega) _).setCell (p := ⟨w.heap.size + 1 + 1, 2, none⟩) (by show w.heap.size ≤ w.heap.size + 1 + 1; omega) _)
  have HP1 := Lib.hid (pzB_yes HP.out).1
  obtain ⟨r, hr⟩ : ∃ r, cluB a b (k, x, y) = r := ⟨_, rfl⟩
  have HR := Lib.hid hr
  clear hr
  rcases r with _ | _
  · have HD : Hid (acB a b cs (k, x, y) = false) := Lib.hid (by unfold acB; rw [HR.out]; simp)
    go_enter Try.func10, Try.ntmps10
    go_wp2_with (first
      | (go_at_call 23; refine (isPuzzle_any _ _ _ _ _ cs _ HN.out (HA.out.below H0.out.bel)).mono ?_; rw [HP.out]; rintro e w1 ⟨rfl, hb1⟩
         have H1 := Lib.hid (H0.out.call hb1)
         have HE := H1
         obtain ⟨m0, m1, m2, m3, m4, m5⟩ := H1.out.facts
         obtain ⟨s0, s1, s2, f0, f1, f2⟩ := H1.out.last
         clear hb1)
      | (go_at_call 24; refine (isClue_any _ _ _ _ _ _).mono ?_; rw [HP1.out, HR.out]; rintro e w2 ⟨rfl, hb2⟩
         have H2 := Lib.hid (H1.out.call hb2)
         have HE := H2
         obtain ⟨q0, q1, q2, q3, q4, q5⟩ := H2.out.facts
         obtain ⟨s0, s1, s2, f0, f1, f2⟩ := H2.out.last
         clear hb2))
    refine bodyPost_ret (v := .tuple #[.agg #[.int .i64 0, .int .i64 0, .slice none 0 0], .bool false]) (by simp [results, Try.results10, go_sem, s0, s1, s2]) rfl ?_
    unfold acA acZ
    rw [HD.out]
    exact pz_none (((HE.out.bel.setCell (p := ⟨w.heap.size + 1 + 1, 0, none⟩) (by show w.heap.size ≤ w.heap.size + 1 + 1; omega) _).setCell (p := ⟨w.heap.size + 1 + 1, 1, none⟩) (by show w.heap.size ≤ w.heap.size + 1 + 1; omega) _).setCell (p := ⟨w.heap.size + 1 + 1, 2, none⟩) (by show w.heap.size ≤ w.heap.size + 1 + 1; omega) _)
  by_cases h6 : n = 6
  · have h6e : ((n : Int) == 6) = true := by rw [h6]; rfl
    have HD : Hid (acB a b cs (k, x, y) = false) := Lib.hid (by unfold acB; rw [HL.out, decide_eq_true h6]; simp)
    clear h6
    go_enter Try.func10, Try.ntmps10
    go_wp2_with (first
      | (go_at_call 23; refine (isPuzzle_any _ _ _ _ _ cs _ HN.out (HA.out.below H0.out.bel)).mono ?_; rw [HP.out]; rintro e w1 ⟨rfl, hb1⟩
         have H1 := Lib.hid (H0.out.call hb1)
         have HE := H1
         obtain ⟨m0, m1, m2, m3, m4, m5⟩ := H1.out.facts
         obtain ⟨s0, s1, s2, f0, f1, f2⟩ := H1.out.last
         clear hb1)
      | (go_at_call 24; refine (isClue_any _ _ _ _ _ _).mono ?_; rw [HP1.out, HR.out]; rintro e w2 ⟨rfl, hb2⟩
         have H2 := Lib.hid (H1.out.call hb2)
         have HE := H2
         obtain ⟨q0, q1, q2, q3, q4, q5⟩ := H2.out.facts
         obtain ⟨s0, s1, s2, f0, f1, f2⟩ := H2.out.last
         clear hb2))
    refine bodyPost_ret (v := .tuple #[.agg #[.int .i64 0, .int .i64 0, .slice none 0 0], .bool false]) (by simp [results, Try.results10, go_sem, s0, s1, s2]) rfl ?_
    unfold acA acZ
    rw [HD.out]
    exact pz_none (((HE.out.bel.setCell (p := ⟨w.heap.size + 1 + 1, 0, none⟩) (by show w.heap.size ≤ w.heap.size + 1 + 1; omega) _).setCell (p := ⟨w.heap.size + 1 + 1, 1, none⟩) (by show w.heap.size ≤ w.heap.size + 1 + 1; omega) _).setCell (p := ⟨w.heap.size + 1 + 1, 2, none⟩) (by show w.heap.size ≤ w.heap.size + 1 + 1; omega) _)
  · have h6e : ((n : Int) == 6) = false := by rw [beq_eq_false_iff_ne]; omega
    have hn5 : n ≤ 5 := by have := (pzB_yes HP.out).2.1; rw [HL.out] at this; omega
    have HD : Hid (acB a b cs (k, x, y) = true) := Lib.hid (by unfold acB; rw [HP.out, HR.out, HL.out, decide_eq_false h6]; rfl)
    have HZ : Hid (acZ a b cs (k, x, y) = cs ++ [(k, x, y)]) := Lib.hid (by unfold acZ; rw [HD.out]; rfl)
    have HZL : Hid ((cs ++ [(k, x, y)]).length = n + 1) := Lib.hid (by rw [List.length_append, HL.out]; rfl)
    have HLV : Hid ((cv cs).length = n * 3) := Lib.hid (by rw [cv_length, HL.out])
    obtain ⟨i0, hi, hy0, hy1, hy2⟩ := info_parts info_clue
    clear h6
    go_enter Try.func10, Try.ntmps10
    go_wp2_with (first
      | (go_at_call 23; refine (isPuzzle_any _ _ _ _ _ cs _ HN.out (HA.out.below H0.out.bel)).mono ?_; rw [HP.out]; rintro e w1 ⟨rfl, hb1⟩
         have H1 := Lib.hid (H0.out.call hb1)
         have HE := H1
         obtain ⟨m0, m1, m2, m3, m4, m5⟩ := H1.out.facts
         obtain ⟨s0, s1, s2, f0, f1, f2⟩ := H1.out.last
         clear hb1)
      | (go_at_call 24; refine (isClue_any _ _ _ _ _ _).mono ?_; rw [HP1.out, HR.out]; rintro e w2 ⟨rfl, hb2⟩
         have H2 := Lib.hid (H1.out.call hb2)
         have HE := H2
         obtain ⟨q0, q1, q2, q3, q4, q5⟩ := H2.out.facts
         obtain ⟨s0, s1, s2, f0, f1, f2⟩ := H2.out.last
         clear hb2))
    have HBa := Lib.hid (bel_drew ((Below.refl w2.heap.size w2).alloc (Nat.le_refl _) (.cells #[.int .i64 k, .int .i64 x, .int .i64 y] 37)))
    have HBb := Lib.hid ((bel_drew (Below.refl w2.heap.size w2)).alloc (Nat.le_refl _) (.cells #[.int .i64 k, .int .i64 x, .int .i64 y] 37))
    have HCa : Hid (Cells (w2.alloc (.cells #[.int .i64 k, .int .i64 x, .int .i64 y] 37)).drew w2.heap.size 3 (g3C k x y)) := Lib.hid ((Cells.new (n := 3) rfl rfl).call (bel_drew (Below.refl _ _)))
    have HCb : Hid (Cells (w2.drew.alloc (.cells #[.int .i64 k, .int .i64 x, .int .i64 y] 37)) w2.heap.size 3 (g3C k x y)) := Lib.hid (Cells.new (n := 3) rfl rfl)
    have HSa := Lib.hid (H2.out.call HBa.out).p6
    have HSb := Lib.hid (H2.out.call HBb.out).p6
    have HSz := Lib.hid (H2.out.call (bel_drew (Below.refl _ _))).p6
    go_region_held3 (P6 w a b (.slice (some ⟨g, 0, none⟩) n n) k x y) (first | assumption | exact HS5.out | exact HSz.out | exact HSa.out | exact HSb.out | exact ((HS5.out.set 0 _).set 1 _).set 2 _ | go_keep) (first
      | (go_at_call 25; refine (cut_firstC _ _ _ _ _ _ (Nat.le_refl _) (by omega) (Nat.le_refl _)).mono ?_; rintro e wq ⟨rfl, hwq⟩; subst hwq)
      | (refine step_growC rfl (.tmp 30) (.tmp 32) 31 rfl 37 i0 (.agg #[.int .i64 0, .int .i64 0, .int .i64 0]) 3 24 Try.underlying31 hi hy0 hy1 hy2 rfl (by decide) ⟨g, 0, none⟩ n n (cv cs) rfl HLV.out (at_of (HA.out.below (bel_call H2.out.bel HBa.out))) ⟨w2.heap.size, 0, none⟩ 1 1 [.int .i64 k, .int .i64 x, .int .i64 y] rfl rfl (news_c HCa.out) (by omega) (by unfold maxLen; omega) (by omega) ?_; intro v5 w5 hown5 hgrow5
         rw [cv_snoc cs (k, x, y)] at hown5
         have HB5 : Hid (Below w2.heap.size w2 w5) := Lib.hid (HBa.out.grown hgrow5 HBa.out.size (fun j hj => by cases hj))
         obtain ⟨A5, c5, rfl, hK5⟩ := own_kc hown5 HZL.out
         have K5 := Lib.hid (hK5.wide (lo' := w2.heap.size) HBa.out.size (Nat.le_refl _))
         have HS5 := Lib.hid (H2.out.call HB5.out).p6
         obtain ⟨t0, t1, t2, t3, t4, t5⟩ := (H2.out.call HB5.out).last
         clear hown5 hgrow5 hK5)
      | (refine step_growC rfl (.tmp 30) (.tmp 32) 31 rfl 37 i0 (.agg #[.int .i64 0, .int .i64 0, .int .i64 0]) 3 24 Try.underlying31 hi hy0 hy1 hy2 rfl (by decide) ⟨g, 0, none⟩ n n (cv cs) rfl HLV.out (at_of (HA.out.below (bel_call H2.out.bel HBb.out))) ⟨w2.heap.size, 0, none⟩ 1 1 [.int .i64 k, .int .i64 x, .int .i64 y] rfl rfl (news_c HCb.out) (by omega) (by unfold maxLen; omega) (by omega) ?_; intro v5 w5 hown5 hgrow5
         rw [cv_snoc cs (k, x, y)] at hown5
         have HB5 : Hid (Below w2.heap.size w2 w5) := Lib.hid (HBb.out.grown hgrow5 HBb.out.size (fun j hj => by cases hj))
         obtain ⟨A5, c5, rfl, hK5⟩ := own_kc hown5 HZL.out
         have K5 := Lib.hid (hK5.wide (lo' := w2.heap.size) HBb.out.size (Nat.le_refl _))
         have HS5 := Lib.hid (H2.out.call HB5.out).p6
         obtain ⟨t0, t1, t2, t3, t4, t5⟩ := (H2.out.call HB5.out).last
         clear hown5 hgrow5 hK5))
    all_goals
      have HM5 := Lib.hid (H2.out.call HB5.out)
      obtain ⟨s0, s1, s2, f0, f1, f2⟩ := HM5.out.last
      have ZE := HM5.out.size
      have Z2 := H2.out.size
      go_wp2_with fail
      refine bodyPost_ret (v := .tuple #[.agg #[.int .i64 a, .int .i64 b, .slice A5 (n + 1) c5], .bool true]) (by simp [results, Try.results10, go_sem, s0, s1, s2]) rfl ?_
      rw [HZ.out]
      unfold acA
      rw [HD.out]
      refine ⟨A5, c5, by rw [HZL.out]; rfl, ?_, ((HM5.out.bel.setCell (p := ⟨w.heap.size + 1 + 1, 0, none⟩) (by show w.heap.size ≤ w.heap.size + 1 + 1; omega) _).setCell (p := ⟨w.heap.size + 1 + 1, 1, none⟩) (by show w.heap.size ≤ w.heap.size + 1 + 1; omega) _).setCell (p := ⟨w.heap.size + 1 + 1, 2, none⟩) (by show w.heap.size ≤ w.heap.size + 1 + 1; omega) _⟩
      rw [size_setCell, size_setCell, size_setCell, HZL.out]
      exact (((K5.out.far (p := ⟨w.heap.size + 1 + 1, 0, none⟩) (by show w.heap.size + 1 + 1 < _; omega) _).far (p := ⟨w.heap.size + 1 + 1, 1, none⟩) (by show w.heap.size + 1 + 1 < _; omega) _).far (p := ⟨w.heap.size + 1 + 1, 2, none⟩) (by show w.heap.size + 1 + 1 < _; omega) _).wide (by omega) (Nat.le_refl _)

end Go.Proofs.Ytgopaflggbgplaa
