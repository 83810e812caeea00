/- Rows of lists of numbers of the call's own, each list in a block of its own or empty: built, written, kept, read, marked. No conditions beyond those of each. -/
import Derived.Test.YtgdjbclkdnmebaaDoorVb
import Derived.Test.YtgdjbclkdnmebaaDoorDigits
import Derived.Test.YtgdjbclkdnmebaaDoorVa
import Derived.Deep.RegionLaw
import Derived.Maps.AppendAt
namespace Go.Proofs.YtgdjbclkdnmebaaDoor
open Go.ChangeShapes Go.WideShapes Go.ChangeAt Go.RowKit Go.Joins

theorem addv_at (b j : Nat) : (⟨b, 0, none⟩ : Addr).add j = ⟨b, j, none⟩ := by unfold Addr.add; split <;> simp_all

theorem newv_one {W : World} {B : Nat} {x : Value} {t : TypeId} (hB : B = W.heap.size) : ∀ j u, ([x] : List Value)[j]? = some u → (W.alloc (.cells #[x] t)).cell? ((⟨B, 0, none⟩ : Addr).add j) = some u := by
  subst hB
  intro j u hu
  rcases j with _ | j
  · simp at hu
    subst hu
    simp [Addr.add]
  · simp at hu

theorem rowv_kept {w w' : World} {base : Nat} {e : TypeId} {size : Nat} {v : Value} {n : Nat} {xs : List Value} (h : w.ownsRow base e size v n xs) (hb : Below w.heap.size w w') : w'.ownsRow base e size v n xs :=
  h.kept (row := none) ⟨hb.os, hb.tape, hb.output, hb.size, fun i hi _ => hb.block i hi⟩ (Classical.em _)

theorem rowv_under {w : World} {base : Nat} {e : TypeId} {size : Nat} {v : Value} {n : Nat} {xs : List Value} (h : w.ownsRow base e size v n xs) {p : Addr} (hp : p.block < base) (x : Value) : (w.setCell p x).ownsRow base e size v n xs :=
  h.kept (row := some p.block) ⟨rfl, rfl, rfl, by rw [size_setCell]; exact Nat.le_refl _, fun k _ hne => Below.heap_setCell _ _ _ _ (fun e => hne (by rw [e]))⟩ (by
    rcases hv : v.ownBlock with _ | g
    · exact .inl rfl
    · exact .inr (fun e => by
        injection e with e
        have := (h.lt g hv).1
        omega))

theorem Cells.keptV {w w' : World} {g n : Nat} {f : Nat → Value} {row : Option Nat} (h : Cells w g n f) (hg : w.grownBy w' row) (hne : row ≠ some g) : Cells w' g n f := by
  have e1 := hg.block g h.lt (fun e => hne e.symm)
  exact ⟨Nat.lt_of_lt_of_le h.lt hg.size, fun j hj => by
    have := h.at_ j hj
    rw [World.cell?_of_block (a := ⟨g, j, none⟩) e1, World.frozen?_of_block (a := ⟨g, j, none⟩) e1]; exact this⟩

theorem rowv_set {w : World} {base g n c : Nat} {T : TypeId} {vs : List Value} (h : w.ownsRow base T 1 (.slice (some ⟨g, 0, none⟩) n c) n vs) (k : Nat) (x : Value) :
    (w.setCell ⟨g, k, none⟩ x).ownsRow base T 1 (.slice (some ⟨g, 0, none⟩) n c) n (vs.set k x) := by
  refine ⟨by rw [List.length_set]; exact h.1, ?_⟩
  rcases h.2 with ⟨e, _⟩ | ⟨g', cap, cur, e, hb, hg, h1, h2, h3, h4⟩
  · cases e
  · injection e with e1 _ e3
    injection e1 with e1
    injection e1 with e1
    subst e1 e3
    refine .inr ⟨g, c, cur.setIfInBounds k x, rfl, hb, heap_setCell_same w g k cur T _ hg, h1, h2, by rw [Array.size_setIfInBounds]; exact h3, ?_⟩
    rw [Array.toList_setIfInBounds, List.take_set, h4]

theorem info_lists : (Tryd.prog.info? 58).map (fun i => (i.zero, i.size, i.bytes)) = some (some (.slice none 0 0), 1, 24) := by kernel_rfl

/-- append onto a row of the call's own, as one step of a region that draws; and which block it is. -/
theorem step_append_at {P : Program} {ops : Array Oper} {o : Oper} {a : Act} {w : World} {K : Act → World → Prop} {Q : Exit → Act → World → Prop} {E : Prop}
    (hg : o.guard = none) (s x : Operand) (t : TypeId) (hop : o.op = Op.call { callee := Callee.builtin Builtin.append, args := #[s, x], argTypes := #[t, t] })
    (base : Nat) (e : TypeId) (i : TypeInfo) (z : Value) (size bytes : Nat) (h1 : P.underlying t = some (.slice e)) (h2 : P.info? e = some i) (h3 : i.zero = some z) (h4 : i.size = size) (h5 : i.bytes = bytes) (h6 : z.cells.size = size) (h7 : 0 < size)
    (v : Value) (n : Nat) (xs : List Value) (hs : a.eval s = v) (hown : w.ownsRow base e size v n xs)
    (ad : Addr) (m c : Nat) (news : List Value) (hx : a.eval x = .slice (some ad) m c) (hn : news.length = m * size) (hc : ∀ j u, news[j]? = some u → w.cell? (ad.add j) = some u) (h1c : ∀ u ∈ news, u.oneCell' = true)
    (b1 : n + m ≤ maxLen) (b2 : (n + m) * bytes ≤ 140737488355328) (hbase : base ≤ w.heap.size)
    (hK : ∀ v' w', w'.ownsRow base e size v' (n + m) (xs ++ news) → w.grownBy w' v.ownBlock → (v'.ownBlock = v.ownBlock ∨ v'.ownBlock = some w.heap.size) → K (a.put o.dst v') w') :
    if Region.wanted o (yielded ops a.tmps) = true then Oper.wp P o a w K Q else E := by
  have hw : Region.wanted o (yielded ops a.tmps) = true := by simp [Region.wanted, hg]
  rw [if_pos hw]
  obtain ⟨v', w', hrun, r1, r2, _, r4⟩ := run_append_own_at (P := P) w base t o.type e i z size bytes h1 h2 h3 h4 h5 h6 h7 v n xs hown ad m c news hn hc h1c b1 b2 hbase
  unfold Oper.wp
  simp [execOp, hop, resolve, invoke, builtin, hs, hx, hrun, Result.andThen]
  exact hK v' w' r1 r2 r4

/-- Where a list of a row lies. -/
def AtV (w : World) (B : Nat) (v : Value) (G : Nat) (xs : List Int) (A : Option Addr) : Prop :=
  xs.length = 0 ∨ (A = some ⟨G, 0, none⟩ ∧ B ≤ G ∧ v.ownBlock ≠ some G ∧ Cells w G xs.length (digF xs))

/-- A row of lists that is being built: each list lies in a block of its own, from B on, or is empty. -/
structure RowP (w : World) (B : Nat) (v : Value) (ks : List (List Int)) : Prop where
  own : ∃ (G : Nat → Nat) (vs : List Value), vs.length = ks.length ∧ w.ownsRow B 58 1 v ks.length vs ∧ (∀ i, i < ks.length → ∃ A c, vs[i]? = some (.slice A (ks.getD i []).length c) ∧ AtV w B v (G i) (ks.getD i []) A) ∧
    ∀ i j, i < ks.length → j < ks.length → i ≠ j → (ks.getD i []).length ≠ 0 → (ks.getD j []).length ≠ 0 → G i ≠ G j

theorem rowP_nil (w : World) (B : Nat) : RowP w B (.slice none 0 0) [] :=
  ⟨fun _ => 0, [], rfl, World.ownsRow_nil _ _ _ _, (fun i hi => by cases hi), (fun i _ hi => by cases hi)⟩

theorem RowP.call {w w' : World} {B : Nat} {v : Value} {ks : List (List Int)} (h : RowP w B v ks) (hb : Below w.heap.size w w') : RowP w' B v ks := by
  obtain ⟨G, vs, h1, h2, h3, h4⟩ := h.own
  refine ⟨G, vs, h1, rowv_kept h2 hb, fun i hi => ?_, h4⟩
  obtain ⟨A, c, e, hc⟩ := h3 i hi
  exact ⟨A, c, e, hc.imp id fun ⟨a1, a2, a3, a4⟩ => ⟨a1, a2, a3, a4.call hb⟩⟩

theorem RowP.alloc {w : World} {B : Nat} {v : Value} {ks : List (List Int)} (h : RowP w B v ks) (o : Obj) : RowP (w.alloc o) B v ks := h.call ((Below.refl _ _).alloc (Nat.le_refl _) _)

theorem RowP.weak {w : World} {B B' : Nat} {v : Value} {ks : List (List Int)} (h : RowP w B v ks) (hB : B' ≤ B) : RowP w B' v ks := by
  obtain ⟨G, vs, h1, h2, h3, h4⟩ := h.own
  refine ⟨G, vs, h1, ⟨h2.1, h2.2.imp id fun ⟨g, cap, cur, e, b, rest⟩ => ⟨g, cap, cur, e, Nat.le_trans hB b, rest⟩⟩, fun i hi => ?_, h4⟩
  obtain ⟨A, c, e, hc⟩ := h3 i hi
  exact ⟨A, c, e, hc.imp id fun ⟨a1, a2, a3, a4⟩ => ⟨a1, Nat.le_trans hB a2, a3, a4⟩⟩

/-- A cell below the row is written. -/
theorem RowP.under {w : World} {B : Nat} {v : Value} {ks : List (List Int)} (h : RowP w B v ks) {p : Addr} (hp : p.block < B) (x : Value) : RowP (w.setCell p x) B v ks := by
  obtain ⟨G, vs, h1, h2, h3, h4⟩ := h.own
  refine ⟨G, vs, h1, rowv_under h2 hp x, fun i hi => ?_, h4⟩
  obtain ⟨A, c, e, hc⟩ := h3 i hi
  exact ⟨A, c, e, hc.imp id fun ⟨a1, a2, a3, a4⟩ => ⟨a1, a2, a3, a4.far (by omega) x⟩⟩

theorem RowP.slice {w : World} {B : Nat} {v : Value} {ks : List (List Int)} (h : RowP w B v ks) : ∃ A c, v = .slice A ks.length c := by
  obtain ⟨G, vs, h1, h2, h3, h4⟩ := h.own
  rcases h2.2 with ⟨rfl, e⟩ | ⟨g, cap, cur, rfl, _⟩
  · exact ⟨none, 0, by rw [e]⟩
  · exact ⟨_, cap, rfl⟩

theorem snocv_lt {α : Type} {l : List α} {x d : α} {i : Nat} (h : i < l.length) : (l ++ [x]).getD i d = l.getD i d := by
  simp only [List.getD, List.getElem?_append_left h]

theorem snocv_eq {α : Type} {l : List α} {x d : α} : (l ++ [x]).getD l.length d = x := by simp [List.getD]

/-- One list more. -/
theorem RowP.snoc {w w2 w4 : World} {B g m c' : Nat} {A' : Option Addr} {v v' : Value} {ks : List (List Int)} {xs : List Int} {o : Obj} {vs : List Value} {G : Nat → Nat} (h1 : vs.length = ks.length)
    (h3 : ∀ i, i < ks.length → ∃ A c, vs[i]? = some (.slice A (ks.getD i []).length c) ∧ AtV w B v (G i) (ks.getD i []) A)
    (h4 : ∀ i j, i < ks.length → j < ks.length → i ≠ j → (ks.getD i []).length ≠ 0 → (ks.getD j []).length ≠ 0 → G i ≠ G j)
    (hlt : ∀ k, v.ownBlock = some k → B ≤ k ∧ k < w.heap.size) (hb : Below w.heap.size w w2) (hB : B ≤ w.heap.size) (hC : m = 0 ∨ (A' = some ⟨g, 0, none⟩ ∧ w.heap.size ≤ g ∧ Cells w2 g m (digF xs))) (hx : xs.length = m)
    (hown' : w4.ownsRow B 58 1 v' (ks.length + 1) (vs ++ [.slice A' m c'])) (hgrow : (w2.alloc o).grownBy w4 v.ownBlock) (hblk : v'.ownBlock = v.ownBlock ∨ v'.ownBlock = some (w2.alloc o).heap.size) :
    RowP w4 B v' (ks ++ [xs]) := by
  subst hx
  have hsz := hb.size
  refine ⟨fun i => if i = ks.length then g else G i, vs ++ [.slice A' xs.length c'], by rw [List.length_append, List.length_append, h1]; rfl, by rw [List.length_append]; exact hown', fun i hi => ?_, fun i j hi hj hij ni nj => ?_⟩
  · rw [List.length_append, List.length_singleton] at hi
    by_cases e : i = ks.length
    · subst e
      rw [snocv_eq]
      refine ⟨A', c', by rw [← h1]; simp, ?_⟩
      show AtV w4 B v' (if ks.length = ks.length then g else G ks.length) xs A'
      rw [if_pos rfl]
      rcases hC with h0 | ⟨e1, hg, hC⟩
      · exact .inl h0
      · have hg2 := hC.lt
        have hne : v.ownBlock ≠ some g := fun e => by have := (hlt g e).2; omega
        refine .inr ⟨e1, by omega, fun e => ?_, (hC.alloc o).keptV hgrow hne⟩
        rcases hblk with h | h
        · exact hne (h.symm.trans e)
        · rw [h] at e; injection e with e; simp at e; omega
    · rw [snocv_lt (by omega)]
      obtain ⟨A, c, e1, hc⟩ := h3 i (by omega)
      refine ⟨A, c, by rw [List.getElem?_append_left (by omega)]; exact e1, ?_⟩
      show AtV w4 B v' (if i = ks.length then g else G i) _ A
      rw [if_neg e]
      refine hc.imp id fun ⟨a1, a2, a3, a4⟩ => ⟨a1, a2, fun e2 => ?_, ((a4.call hb).alloc o).keptV hgrow a3⟩
      rcases hblk with h | h
      · exact a3 (h.symm.trans e2)
      · rw [h] at e2; injection e2 with e2; have h5 := a4.lt; simp at e2; omega
  · rw [List.length_append, List.length_singleton] at hi hj
    have old : ∀ i, i < ks.length → (ks.getD i []).length ≠ 0 → G i < w.heap.size := fun i hi h0 => by
      obtain ⟨A, c, _, hc⟩ := h3 i hi
      exact (hc.resolve_left h0).2.2.2.lt
    have new : xs.length ≠ 0 → w.heap.size ≤ g := fun h0 => (hC.resolve_left h0).2.1
    by_cases e1 : i = ks.length
    · subst e1
      rw [snocv_eq] at ni
      rw [snocv_lt (by omega)] at nj
      show (if ks.length = ks.length then g else G ks.length) ≠ (if j = ks.length then g else G j)
      rw [if_pos rfl, if_neg (by omega)]
      have := old j (by omega) nj
      have := new ni
      omega
    · rw [snocv_lt (by omega)] at ni
      show (if i = ks.length then g else G i) ≠ (if j = ks.length then g else G j)
      rw [if_neg e1]
      by_cases e2 : j = ks.length
      · subst e2
        rw [snocv_eq] at nj
        rw [if_pos rfl]
        have := old i (by omega) ni
        have := new nj
        omega
      · rw [snocv_lt (by omega)] at nj
        rw [if_neg e2]
        exact h4 i j (by omega) (by omega) hij ni nj

theorem getD_set_eq {ks : List (List Int)} {k : Nat} {xs : List Int} (h : k < ks.length) : (ks.set k xs).getD k [] = xs := by
  simp [List.getD, h]

theorem getD_set_ne {ks : List (List Int)} {k i : Nat} {xs : List Int} (h : i ≠ k) : (ks.set k xs).getD i [] = ks.getD i [] := by
  simp only [List.getD, List.getElem?_set_ne (Ne.symm h)]

/-- A list put into the row, in a block that has come since. -/
theorem RowP.put {w w2 : World} {B g0 n c0 : Nat} {A' : Option Addr} {ks : List (List Int)} (h : RowP w B (.slice (some ⟨g0, 0, none⟩) n c0) ks) (hb : Below w.heap.size w w2) {k g c m : Nat} {xs : List Int} (hk : k < ks.length) (hm : xs.length = m) (hC : m = 0 ∨ (A' = some ⟨g, 0, none⟩ ∧ w.heap.size ≤ g ∧ B ≤ g ∧ Cells w2 g m (digF xs))) :
    RowP (w2.setCell ⟨g0, k, none⟩ (.slice A' m c)) B (.slice (some ⟨g0, 0, none⟩) n c0) (ks.set k xs) := by
  subst hm
  obtain ⟨G, vs, h1, h2, h3, h4⟩ := h.own
  have hn : n = ks.length := by
    rcases h2.2 with ⟨e, _⟩ | ⟨g', cap, cur, e, _⟩
    · cases e
    · injection e
  subst hn
  have hg0 : g0 < w.heap.size := (h2.lt g0 rfl).2
  refine ⟨fun i => if i = k then g else G i, vs.set k (.slice A' xs.length c), by rw [List.length_set, List.length_set, h1], by rw [List.length_set]; exact rowv_set (rowv_kept h2 hb) k _, fun i hi => ?_, fun i j hi hj hij ni nj => ?_⟩
  · rw [List.length_set] at hi
    by_cases e : i = k
    · subst e
      rw [getD_set_eq hi]
      refine ⟨_, c, by rw [List.getElem?_set_self (by omega)], ?_⟩
      show AtV _ B _ (if i = i then g else G i) xs _
      rw [if_pos rfl]
      rcases hC with h0 | ⟨e1, hg, hgB, hC⟩
      · exact .inl h0
      · refine .inr ⟨e1, hgB, fun e => ?_, hC.far (by show g0 ≠ g; omega) _⟩
        injection e with e
        have e : g0 = g := e
        omega
    · rw [getD_set_ne e]
      obtain ⟨A, c1, e1, hc⟩ := h3 i hi
      refine ⟨A, c1, by rw [List.getElem?_set_ne (Ne.symm e)]; exact e1, ?_⟩
      show AtV _ B _ (if i = k then g else G i) _ A
      rw [if_neg e]
      exact hc.imp id fun ⟨a1, a2, a3, a4⟩ => ⟨a1, a2, a3, (a4.call hb).far (fun e => a3 (by rw [← e]; rfl)) _⟩
  · rw [List.length_set] at hi hj
    have old : ∀ i, i < ks.length → (ks.getD i []).length ≠ 0 → G i < w.heap.size := fun i hi h0 => by
      obtain ⟨A, c, _, hc⟩ := h3 i hi
      exact (hc.resolve_left h0).2.2.2.lt
    have new : xs.length ≠ 0 → w.heap.size ≤ g := fun h0 => (hC.resolve_left h0).2.1
    show (if i = k then g else G i) ≠ (if j = k then g else G j)
    by_cases e1 : i = k
    · subst e1
      rw [if_pos rfl, if_neg (fun e => hij e.symm)]
      rw [getD_set_eq hi] at ni
      rw [getD_set_ne (fun e => hij e.symm)] at nj
      have := old j hj nj
      have := new ni
      omega
    · rw [getD_set_ne e1] at ni
      rw [if_neg e1]
      by_cases e2 : j = k
      · subst e2
        rw [getD_set_eq hj] at nj
        rw [if_pos rfl]
        have := old i hi ni
        have := new nj
        omega
      · rw [getD_set_ne e2] at nj
        rw [if_neg e2]
        exact h4 i j hi hj hij ni nj

/-- Such a row as lists handed in. -/
theorem RowP.knobs {w : World} {B n c : Nat} {A : Option Addr} {ks : List (List Int)} (h : RowP w B (.slice A n c) ks) (hm : ∀ i, i < ks.length → (ks.getD i []).length ≤ maxLen) : KnobsA w A n ks := by
  obtain ⟨G, vs, h1, h2, h3, h4⟩ := h.own
  have hn : ks.length = n := by
    obtain ⟨A', c', e⟩ := h.slice
    injection e with _ e _
    exact e.symm
  refine ⟨hn, ?_⟩
  subst hn
  rcases Nat.eq_zero_or_pos ks.length with h0 | h0
  · exact .inl h0
  · obtain ⟨g, c', e, hg, hlt⟩ := h2.form h0
    injection e with e _ _
    subst e
    refine .inr ⟨g, 0, rfl, hlt, fun k hk => ?_⟩
    obtain ⟨Ai, ci, ei, hc⟩ := h3 k hk
    refine ⟨Ai, ci, by rw [Nat.zero_add, h2.cellAt k (by omega), ei], hm k hk, rfl, ?_⟩
    rcases hc with h0 | ⟨rfl, _, _, hC⟩
    · exact .inl h0
    · exact .inr ⟨_, 0, rfl, hC.lt, fun j hj => by rw [Nat.zero_add, hC.cell hj]; rfl⟩

end Go.Proofs.YtgdjbclkdnmebaaDoor
