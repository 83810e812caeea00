/- Rows of clues that a call makes, and what is handed back. No conditions. -/
import Derived.Test.YtgdjbclkdnmebaaDoorJq
import Derived.Lib.AppendZeros
import Derived.Lib.BufferMore
import Derived.Deep.RegionLaw
namespace Go.Proofs.YtgdjbclkdnmebaaDoor
set_option maxRecDepth 100000
open Go.ChangeShapes Go.WideShapes Go.ChangeAt Go.RowKit Go.Joins

/-- The clues cs lie at A in a block between two places, as f tells; or there is none. -/
def KC (w : World) (lo hi : Nat) (A : Option Addr) (n : Nat) (f : Nat → Value) : Prop :=
  n = 0 ∨ ∃ g, A = some ⟨g, 0, none⟩ ∧ lo ≤ g ∧ g < hi ∧ Cells w g (n * 3) f

theorem KC.call {w w' : World} {lo hi : Nat} {A : Option Addr} {n : Nat} {f : Nat → Value} (h : KC w lo hi A n f) (hb : Below w.heap.size w w') : KC w' lo hi A n f :=
  h.imp id fun ⟨g, e, h1, h2, hC⟩ => ⟨g, e, h1, h2, hC.call hb⟩

theorem KC.keep {w w' : World} {lo hi lo2 hi2 : Nat} {A : Option Addr} {n : Nat} {f : Nat → Value} (h : KC w lo hi A n f) (hd : hi ≤ lo2 ∨ hi2 ≤ lo) (hk : ∀ g' m f', ¬ (lo2 ≤ g' ∧ g' < hi2) → Cells w g' m f' → Cells w' g' m f') : KC w' lo hi A n f :=
  h.imp id fun ⟨g, e, h1, h2, hC⟩ => ⟨g, e, h1, h2, hk _ _ _ (by omega) hC⟩

theorem KC.wide {w : World} {lo hi lo' hi' : Nat} {A : Option Addr} {n : Nat} {f : Nat → Value} (h1 : lo' ≤ lo) (h2 : hi ≤ hi') (h : KC w lo hi A n f) : KC w lo' hi' A n f :=
  h.imp id fun ⟨g, e, a1, a2, hC⟩ => ⟨g, e, by omega, by omega, hC⟩

theorem KC.argC {w : World} {lo hi : Nat} {A : Option Addr} {cs : List Clu} (h : KC w lo hi A cs.length (cluF cs)) : ArgC w A cs.length cs := by
  rcases h with h0 | ⟨g, rfl, _, _, hC⟩
  · exact ⟨rfl, .inl h0⟩
  · exact argC_of rfl hC

theorem kc_of {w : World} {lo g n : Nat} {f : Nat → Value} (hg : lo ≤ g) (hC : Cells w g (n * 3) f) : KC w lo w.heap.size (some ⟨g, 0, none⟩) n f := .inr ⟨g, rfl, hg, hC.lt, hC⟩

/-- A puzzle's three cells. -/
def g3F (a b : Int) (v : Value) (j : Nat) : Value := (#[.int .i64 a, .int .i64 b, v] : Array Value).toList.getD j undef

theorem KC.argN {w : World} {lo hi : Nat} {A : Option Addr} {n : Nat} {cs : List Clu} (h : KC w lo hi A n (cluF cs)) (hl : cs.length = n) : ArgC w A n cs := by
  subst hl
  exact h.argC

/-- Clues as values in a row. -/
def cv : List Clu → List Value
  | [] => []
  | c :: cs => .int .i64 c.1 :: .int .i64 c.2.1 :: .int .i64 c.2.2 :: cv cs

theorem cv_length (cs : List Clu) : (cv cs).length = cs.length * 3 := by
  induction cs with
  | nil => rfl
  | cons c cs ih => simp only [cv, List.length_cons, ih]; omega

theorem cv_app (xs ys : List Clu) : cv (xs ++ ys) = cv xs ++ cv ys := by
  induction xs with
  | nil => rfl
  | cons c cs ih => simp only [cv, List.cons_append, ih]

theorem cv_one (cs : List Clu) : ∀ u ∈ cv cs, u.oneCell' = true := by
  induction cs with
  | nil => intro u hu; simp [cv] at hu
  | cons c cs ih =>
    intro u hu
    simp only [cv, List.mem_cons] at hu
    rcases hu with rfl | rfl | rfl | h
    · rfl
    · rfl
    · rfl
    · exact ih u h

theorem cluF_cons (c : Clu) (cs : List Clu) (j : Nat) : cluF (c :: cs) (j + 3) = cluF cs j := by
  unfold cluF
  rw [show (j + 3) % 3 = j % 3 by omega, show (j + 3) / 3 = j / 3 + 1 by omega]
  rfl

theorem cv_get (cs : List Clu) (j : Nat) (hj : j < cs.length * 3) : (cv cs)[j]? = some (cluF cs j) := by
  induction cs generalizing j with
  | nil => simp at hj
  | cons c cs ih =>
    rcases j with _ | _ | _ | j
    · rfl
    · rfl
    · rfl
    · rw [cluF_cons]
      exact ih j (by rw [List.length_cons] at hj; omega)

/-- A row of clues of the call's own. -/
theorem own_kc {w : World} {B : Nat} {v : Value} {cs : List Clu} {n : Nat} (h : w.ownsRow B 77 3 v n (cv cs)) (hl : cs.length = n) : ∃ A c, v = .slice A n c ∧ KC w B w.heap.size A n (cluF cs) := by
  rcases Nat.eq_zero_or_pos n with h0 | h0
  · subst h0
    rcases h.2 with ⟨rfl, _⟩ | ⟨g, cap, cur, rfl, _⟩
    · exact ⟨none, 0, rfl, .inl rfl⟩
    · exact ⟨_, cap, rfl, .inl rfl⟩
  · obtain ⟨g, c, rfl, hb, hlt⟩ := h.form h0
    refine ⟨_, c, rfl, .inr ⟨g, rfl, hb, hlt, hlt, fun j hj => ⟨?_, h.frozenAt j⟩⟩⟩
    rw [h.cellAt j (by omega)]
    exact cv_get cs j (by omega)

theorem KC.far {w : World} {lo hi : Nat} {A : Option Addr} {n : Nat} {f : Nat → Value} {p : Addr} (h : KC w lo hi A n f) (hp : p.block < lo) (x : Value) : KC (w.setCell p x) lo hi A n f :=
  h.imp id fun ⟨g, e, h1, h2, hC⟩ => ⟨g, e, h1, h2, hC.far (by omega) x⟩

theorem step_appC {P : Program} {ops : Array Oper} {o : Oper} {a : Act} {w : World} {K : Act → World → Prop} {Q : Exit → Act → World → Prop} {E : Prop}
    (hg : o.guard = none) (s x : Operand) (t : TypeId) (hop : o.op = Op.call { callee := Callee.builtin Builtin.append, args := #[s, x], argTypes := #[t, t] })
    (base : Nat) (e : TypeId) (i : TypeInfo) (z : Value) (size bytes : Nat) (h1 : P.underlying t = some (.slice e)) (h2 : P.info? e = some i) (h3 : i.zero = some z) (h4 : i.size = size) (h5 : i.bytes = bytes) (h6 : z.cells.size = size) (h7 : 0 < size)
    (v : Value) (n : Nat) (xs : List Value) (hs : a.eval s = v) (hown : w.ownsRow base e size v n xs)
    (ad : Addr) (m c : Nat) (news : List Value) (hx : a.eval x = .slice (some ad) m c) (hn : news.length = m * size) (hc : ∀ j u, news[j]? = some u → w.cell? (ad.add j) = some u) (h1c : ∀ u ∈ news, u.oneCell' = true)
    (b1 : n + m ≤ maxLen) (b2 : (n + m) * bytes ≤ 140737488355328) (hbase : base ≤ w.heap.size)
    (hK : ∀ v' w', w'.ownsRow base e size v' (n + m) (xs ++ news) → w.grownBy w' v.ownBlock → K (a.put o.dst v') w') :
    if Region.wanted o (yielded ops a.tmps) = true then Oper.wp P o a w K Q else E := by
  have hw : Region.wanted o (yielded ops a.tmps) = true := by simp [Region.wanted, hg]
  rw [if_pos hw]
  obtain ⟨v', w', hrun, r1, r2, _⟩ := run_append_own (P := P) w base t o.type e i z size bytes h1 h2 h3 h4 h5 h6 h7 v n xs hown ad m c news hn hc h1c b1 b2 hbase
  unfold Oper.wp
  simp [execOp, hop, resolve, invoke, builtin, hs, hx, hrun, Result.andThen]
  exact hK v' w' r1 r2

/-- A row of clues of the call's own, with its room. -/
theorem own_kcc {w : World} {B : Nat} {v : Value} {cs : List Clu} {n : Nat} (h : w.ownsRow B 77 3 v n (cv cs)) (hl : cs.length = n) : ∃ A c, v = .slice A n c ∧ n ≤ c ∧ KC w B w.heap.size A n (cluF cs) := by
  obtain ⟨A, c, rfl, hK⟩ := own_kc h hl
  refine ⟨A, c, rfl, ?_, hK⟩
  rcases h.2 with ⟨e, h0⟩ | ⟨g, cap, cur, e, _, _, hc, _⟩
  · omega
  · injection e with _ _ e3
    omega

/-- A clue's cells. -/
def g3C (k x y : Int) (j : Nat) : Value := (#[.int .i64 k, .int .i64 x, .int .i64 y] : Array Value).toList.getD j undef

theorem news_c {W : World} {g : Nat} {k x y : Int} (h : Cells W g 3 (g3C k x y)) : ∀ j u, ([.int .i64 k, .int .i64 x, .int .i64 y] : List Value)[j]? = some u → W.cell? ((⟨g, 0, none⟩ : Addr).add j) = some u := by
  intro j u hj
  rw [show (⟨g, 0, none⟩ : Addr).add j = ⟨g, j, none⟩ by unfold Addr.add; split <;> simp_all]
  rcases j with _ | _ | _ | j
  · cases hj; exact h.cell (show 0 < 3 by omega)
  · cases hj; exact h.cell (show 1 < 3 by omega)
  · cases hj; exact h.cell (show 2 < 3 by omega)
  · simp at hj

theorem one_c (k x y : Int) : ∀ u ∈ ([.int .i64 k, .int .i64 x, .int .i64 y] : List Value), u.oneCell' = true := by
  intro u hu
  simp only [List.mem_cons, List.mem_nil_iff, or_false] at hu
  rcases hu with rfl | rfl | rfl <;> rfl

theorem cv_snoc (cs : List Clu) (c : Clu) : cv cs ++ [.int .i64 c.1, .int .i64 c.2.1, .int .i64 c.2.2] = cv (cs ++ [c]) := by rw [cv_app]; rfl

theorem Cells.keptC {w w' : World} {g n : Nat} {f : Nat → Value} {row : Option Nat} (h : Cells w g n f) (hg : w.grownBy w' row) (hne : row ≠ some g) : Cells w' g n f := by
  have e1 := hg.block g h.lt (fun e => hne e.symm)
  exact ⟨Nat.lt_of_lt_of_le h.lt hg.size, fun j hj => by
    have := h.at_ j hj
    rw [World.cell?_of_block (a := ⟨g, j, none⟩) e1, World.frozen?_of_block (a := ⟨g, j, none⟩) e1]; exact this⟩

theorem rowv_kept {w w' : World} {base : Nat} {e : TypeId} {size : Nat} {v : Value} {n : Nat} {xs : List Value} (h : w.ownsRow base e size v n xs) (hb : Below w.heap.size w w') : w'.ownsRow base e size v n xs :=
  h.kept (row := none) ⟨hb.os, hb.tape, hb.output, hb.size, fun i hi _ => hb.block i hi⟩ (Classical.em _)

/-- A puzzle handed back with yes or no. -/
def PzOut (w : World) (a b : Int) (cs : List Clu) (ok : Bool) (e : Ending) (w' : World) : Prop :=
  ∃ A c, e = .returned (.tuple #[.agg #[.int .i64 a, .int .i64 b, .slice A cs.length c], .bool ok]) ∧ KC w' w.heap.size w'.heap.size A cs.length (cluF cs) ∧ Below w.heap.size w w'

theorem pz_none {w w' : World} (hb : Below w.heap.size w w') : PzOut w 0 0 [] false (.returned (.tuple #[.agg #[.int .i64 0, .int .i64 0, .slice none 0 0], .bool false])) w' := ⟨none, 0, rfl, .inl rfl, hb⟩

end Go.Proofs.YtgdjbclkdnmebaaDoor
