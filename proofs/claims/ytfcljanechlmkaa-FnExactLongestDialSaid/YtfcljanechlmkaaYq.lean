/- All codes of so many numbers, in order: the lists, and how rows of lists are built. No conditions beyond those of each. -/
import Derived.Test.YtfcljanechlmkaaYp
namespace Go.Proofs.Ytfcljanechlmkaa
open Go.ChangeShapes Go.WideShapes Go.ChangeAt Go.RowKit Go.Joins

/-- A list with the first j numbers behind it. -/
def exL (c : List Int) : Nat → List (List Int)
  | 0 => []
  | j + 1 => exL c j ++ [c ++ [(j : Int)]]

/-- The first k lists with each of m numbers behind them. -/
def nxL (cs : List (List Int)) (m : Nat) : Nat → List (List Int)
  | 0 => []
  | k + 1 => nxL cs m k ++ exL (cs.getD k []) m

/-- All lists of n numbers, of m each. -/
def alL (m : Nat) : Nat → List (List Int)
  | 0 => [[]]
  | n + 1 => nxL (alL m n) m (alL m n).length

theorem exL_length (c : List Int) (j : Nat) : (exL c j).length = j := by
  induction j with
  | zero => rfl
  | succ j ih => rw [exL, List.length_append, ih]; rfl

theorem nxL_length (cs : List (List Int)) (m k : Nat) : (nxL cs m k).length = k * m := by
  induction k with
  | zero => rw [Nat.zero_mul]; rfl
  | succ k ih => rw [nxL, List.length_append, ih, exL_length, Nat.succ_mul]

theorem alL_length (m n : Nat) : (alL m n).length = m ^ n := by
  induction n with
  | zero => rfl
  | succ n ih => rw [alL, nxL_length, ih, Nat.pow_succ]

theorem pow_bd {m n : Nat} (hm : m ≤ 12) (hn : n ≤ 3) : m ^ n ≤ 1728 :=
  Nat.le_trans (Nat.pow_le_pow_left hm n) (Nat.le_trans (Nat.pow_le_pow_right (by omega) hn) (by decide))

theorem pow_pos' {m n : Nat} (hm : 1 ≤ m) : 1 ≤ m ^ n := Nat.pow_pos hm

/-- Each has so many numbers, each of the dial. -/
def OfLen (m n : Nat) (cs : List (List Int)) : Prop := ∀ c, c ∈ cs → c.length = n ∧ ∀ x, x ∈ c → 0 ≤ x ∧ x < (m : Int)

theorem exL_of {m n : Nat} {c : List Int} (hc : c.length = n ∧ ∀ x, x ∈ c → 0 ≤ x ∧ x < (m : Int)) {j : Nat} (hj : j ≤ m) : OfLen m (n + 1) (exL c j) := by
  induction j with
  | zero => intro d hd; cases hd
  | succ j ih =>
    intro d hd
    rw [exL, List.mem_append] at hd
    rcases hd with hd | hd
    · exact ih (by omega) d hd
    · rw [List.mem_singleton] at hd
      subst hd
      refine ⟨by rw [List.length_append, hc.1]; rfl, fun x hx => ?_⟩
      rw [List.mem_append, List.mem_singleton] at hx
      rcases hx with hx | rfl
      · exact hc.2 x hx
      · omega

theorem getD_mem {α : Type} {l : List α} {k : Nat} {d : α} (h : k < l.length) : l.getD k d ∈ l := by
  simp only [List.getD, List.getElem?_eq_getElem h, Option.getD_some]
  exact List.getElem_mem _

theorem nxL_of {m n : Nat} {cs : List (List Int)} (h : OfLen m n cs) {k : Nat} (hk : k ≤ cs.length) : OfLen m (n + 1) (nxL cs m k) := by
  induction k with
  | zero => intro d hd; cases hd
  | succ k ih =>
    intro d hd
    rw [nxL, List.mem_append] at hd
    rcases hd with hd | hd
    · exact ih (by omega) d hd
    · exact exL_of (h _ (getD_mem (by omega))) (Nat.le_refl _) d hd

theorem alL_of (m n : Nat) : OfLen m n (alL m n) := by
  induction n with
  | zero =>
    intro c hc
    rw [alL, List.mem_singleton] at hc
    subst hc
    exact ⟨rfl, fun x hx => by cases hx⟩
  | succ n ih => exact nxL_of ih (Nat.le_refl _)

theorem of_code {m n : Nat} {cs : List (List Int)} (h : OfLen m n cs) (hm2 : 2 ≤ m) (hm : m ≤ 100) (hn1 : 1 ≤ n) (hn : n ≤ 12) {c : List Int} (hc : c ∈ cs) : codeB (m : Int) c = true := by
  obtain ⟨h1, h2⟩ := h c hc
  unfold codeB
  rw [h1, decide_eq_true ⟨hn1, hn⟩, Bool.true_and, List.all_eq_true]
  intro x hx
  have := h2 x hx
  exact decide_eq_true ⟨by omega, by omega, this.1, this.2⟩

/-- A row of lists that is being built: each list lies in a block from B on, another than the row's. -/
structure RowL (w : World) (B : Nat) (v : Value) (ks : List (List Int)) : Prop where
  own : ∃ vs : List Value, vs.length = ks.length ∧ w.ownsRow B 22 1 v ks.length vs ∧ ∀ i, i < ks.length → ∃ A c, vs[i]? = some (.slice A (ks.getD i []).length c) ∧ ((ks.getD i []).length ≤ c ∧ (A = none → c = 0)) ∧ ((ks.getD i []).length = 0 ∨ ∃ g, A = some ⟨g, 0, none⟩ ∧ B ≤ g ∧ v.ownBlock ≠ some g ∧ Cells w g (ks.getD i []).length (digF (ks.getD i [])))

theorem rowL_nil (w : World) (B : Nat) : RowL w B (.slice none 0 0) [] :=
  ⟨[], rfl, World.ownsRow_nil _ _ _ _, fun i hi => by cases hi⟩

theorem Cells.keptY {w w' : World} {g n : Nat} {f : Nat → Value} {row : Option Nat} (h : Cells w g n f) (hg : w.grownBy w' row) (hne : row ≠ some g) : Cells w' g n f := h.grownY hg (fun e => hne e.symm)

theorem RowL.call {w w' : World} {B : Nat} {v : Value} {ks : List (List Int)} (h : RowL w B v ks) (hb : Below w.heap.size w w') : RowL w' B v ks := by
  obtain ⟨vs, h1, h2, h3⟩ := h.own
  refine ⟨vs, h1, row_kept h2 hb, fun i hi => ?_⟩
  obtain ⟨A, c, e, hcc, hc⟩ := h3 i hi
  exact ⟨A, c, e, hcc, hc.imp id fun ⟨g, a1, a2, a3, a4⟩ => ⟨g, a1, a2, a3, a4.call hb⟩⟩

theorem RowL.slice {w : World} {B : Nat} {v : Value} {ks : List (List Int)} (h : RowL w B v ks) : ∃ A c, v = .slice A ks.length c := by
  obtain ⟨vs, h1, h2, h3⟩ := h.own
  rcases h2.2 with ⟨rfl, e⟩ | ⟨g, cap, cur, rfl, _⟩
  · exact ⟨none, 0, by rw [e]⟩
  · exact ⟨_, cap, rfl⟩

/-- What lies at a place of the row. -/
theorem RowL.at {w : World} {B : Nat} {A : Option Addr} {n c : Nat} {ks : List (List Int)} (h : RowL w B (.slice A n c) ks) {i : Nat} (hi : i < ks.length) :
    ∃ g Ai ci, A = some ⟨g, 0, none⟩ ∧ w.cell? ⟨g, i, none⟩ = some (.slice Ai (ks.getD i []).length ci) ∧ ((ks.getD i []).length ≤ ci ∧ (Ai = none → ci = 0)) ∧ ((ks.getD i []).length = 0 ∨ ∃ b, Ai = some ⟨b, 0, none⟩ ∧ B ≤ b ∧ Cells w b (ks.getD i []).length (digF (ks.getD i []))) := by
  obtain ⟨vs, h1, h2, h3⟩ := h.own
  obtain ⟨Ai, ci, e, hcc, hc⟩ := h3 i hi
  obtain ⟨g, c', e2, _⟩ := h2.form (by omega)
  injection e2 with e2 e3 e4
  subst e2 e3 e4
  refine ⟨g, Ai, ci, rfl, ?_, hcc, hc.imp id fun ⟨b, a1, a2, _, a4⟩ => ⟨b, a1, a2, a4⟩⟩
  rw [h2.cellAt i (by omega), e]

theorem snoc_lt {α : Type} {l : List α} {x d : α} {i : Nat} (h : i < l.length) : (l ++ [x]).getD i d = l.getD i d := by
  simp only [List.getD, List.getElem?_append_left h]

theorem snoc_eq {α : Type} {l : List α} {x d : α} : (l ++ [x]).getD l.length d = x := by simp [List.getD]

theorem own_cap {w : World} {base g n c : Nat} {T : TypeId} {xs : List Value} (h : w.ownsRow base T 1 (.slice (some ⟨g, 0, none⟩) n c) n xs) : n ≤ c := by
  rcases h.2 with ⟨e, _⟩ | ⟨g', cap, cur, e, _, _, h1, _⟩
  · cases e
  · injection e with _ _ e3
    subst e3
    exact h1

/-- One list more. -/
theorem RowL.snoc {w w2 w4 : World} {B g m c' : Nat} {v v' : Value} {ks : List (List Int)} {xs : List Int} {o : Obj} {vs : List Value} (h1 : vs.length = ks.length)
    (h3 : ∀ i, i < ks.length → ∃ A c, vs[i]? = some (.slice A (ks.getD i []).length c) ∧ ((ks.getD i []).length ≤ c ∧ (A = none → c = 0)) ∧ ((ks.getD i []).length = 0 ∨ ∃ g, A = some ⟨g, 0, none⟩ ∧ B ≤ g ∧ v.ownBlock ≠ some g ∧ Cells w g (ks.getD i []).length (digF (ks.getD i []))))
    (hlt : ∀ k, v.ownBlock = some k → B ≤ k ∧ k < w.heap.size) (hb : Below w.heap.size w w2) (hB : B ≤ w.heap.size) (hg : w.heap.size ≤ g) (hC : Cells w2 g m (digF xs)) (hx : xs.length = m) (hcap : m ≤ c')
    (hown' : w4.ownsRow B 22 1 v' (ks.length + 1) (vs ++ [.slice (some ⟨g, 0, none⟩) m c'])) (hgrow : (w2.alloc o).grownBy w4 v.ownBlock) (hblk : v'.ownBlock = v.ownBlock ∨ v'.ownBlock = some (w2.alloc o).heap.size) :
    RowL w4 B v' (ks ++ [xs]) := by
  subst hx
  have hg2 : g < w2.heap.size := hC.lt
  have hne : v.ownBlock ≠ some g := fun e => by have := (hlt g e).2; omega
  refine ⟨vs ++ [.slice (some ⟨g, 0, none⟩) xs.length c'], by rw [List.length_append, List.length_append, h1]; rfl, by rw [List.length_append]; exact hown', fun i hi => ?_⟩
  rw [List.length_append, List.length_singleton] at hi
  by_cases e : i = ks.length
  · subst e
    rw [snoc_eq]
    refine ⟨_, c', by rw [← h1]; simp, ⟨hcap, fun e => by cases e⟩, .inr ⟨g, rfl, by omega, fun e => ?_, (hC.alloc o).keptY hgrow hne⟩⟩
    rcases hblk with h | h
    · exact hne (h.symm.trans e)
    · rw [h] at e; injection e with e; simp at e; omega
  · rw [snoc_lt (by omega)]
    obtain ⟨A, c, e1, hcc, hc⟩ := h3 i (by omega)
    refine ⟨A, c, by rw [List.getElem?_append_left (by omega)]; exact e1, hcc, hc.imp id fun ⟨b, a1, a2, a3, a4⟩ => ⟨b, a1, a2, fun e2 => ?_, ((a4.call hb).alloc o).keptY hgrow a3⟩⟩
    rcases hblk with h | h
    · exact a3 (h.symm.trans e2)
    · rw [h] at e2; injection e2 with e2; have h5 := a4.lt; have h6 := hb.size; simp at e2; omega

end Go.Proofs.Ytfcljanechlmkaa
