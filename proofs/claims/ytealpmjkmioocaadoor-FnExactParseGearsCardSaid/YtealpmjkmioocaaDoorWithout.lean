/- Gears without a knob, as the model makes them. For at most 1048576 numbers. -/
import Derived.Test.YtealpmjkmioocaaDoorOwn
import Derived.Test.YtealpmjkmioocaaDoorMarkG
import Derived.Test.YtealpmjkmioocaaDoorJoTurn
import Derived.Deep.RegionLaw
import Derived.Maps.AppendAt
namespace Go.Proofs.YtealpmjkmioocaaDoor
open Go.ChangeShapes Go.WideShapes Go.ChangeAt Go.RowKit Go.Joins

/-- append onto a row of the call's own, as one step of a region that draws; and which block it is. -/
theorem step_append_at {P : Program} {ops : Array Oper} {o : Oper} {a : Act} {w : World} {K : Act → World → Prop} {Q : Exit → Act → World → Prop} {E : Prop}
    (hg : o.guard = none) (s x : Operand) (t : TypeId) (hop : o.op = Op.call { callee := Callee.builtin Builtin.append, args := #[s, x], argTypes := #[t, t] })
    (base : Nat) (e : TypeId) (i : TypeInfo) (z : Value) (size bytes : Nat) (h1 : P.underlying t = some (.slice e)) (h2 : P.info? e = some i) (h3 : i.zero = some z) (h4 : i.size = size) (h5 : i.bytes = bytes) (h6 : z.cells.size = size) (h7 : 0 < size)
    (v : Value) (n : Nat) (xs : List Value) (hs : a.eval s = v) (hown : w.ownsRow base e size v n xs)
    (ad : Addr) (m c : Nat) (news : List Value) (hx : a.eval x = .slice (some ad) m c) (hn : news.length = m * size) (hc : ∀ j u, news[j]? = some u → w.cell? (ad.add j) = some u) (h1c : ∀ u ∈ news, u.oneCell' = true)
    (b1 : n + m ≤ maxLen) (b2 : (n + m) * bytes ≤ 140737488355328) (hbase : base ≤ w.heap.size)
    (hK : ∀ v' w', w'.ownsRow base e size v' (n + m) (xs ++ news) → w.grownBy w' v.ownBlock → (v'.ownBlock = v.ownBlock ∨ v'.ownBlock = some w.heap.size) → K (a.put o.dst v') w') :
    if Region.wanted o (yielded ops a.tmps) = true then Oper.wp P o a w K Q else E := by
  have hw : Region.wanted o (yielded ops a.tmps) = true := by simp [Region.wanted, hg]
  rw [if_pos hw]
  obtain ⟨v', w', hrun, r1, r2, _, r4⟩ := run_append_own_at (P := P) w base t o.type e i z size bytes h1 h2 h3 h4 h5 h6 h7 v n xs hown ad m c news hn hc h1c b1 b2 hbase
  unfold Oper.wp
  simp [execOp, hop, resolve, invoke, builtin, hs, hx, hrun, Result.andThen]
  exact hK v' w' r1 r2 r4

theorem Cells.kept {w w' : World} {g n : Nat} {f : Nat → Value} {row : Option Nat} (h : Cells w g n f) (hg : w.grownBy w' row) (hne : row ≠ some g) : Cells w' g n f := by
  obtain ⟨_, _, _, hs, hb⟩ := hg
  have e := hb g h.lt (fun e => hne e.symm)
  refine ⟨Nat.lt_of_lt_of_le h.lt hs, fun j hj => ?_⟩
  have e1 : w'.cell? ⟨g, j, none⟩ = w.cell? ⟨g, j, none⟩ := by simp only [World.cell?, e]
  have e2 : w'.frozen? ⟨g, j, none⟩ = w.frozen? ⟨g, j, none⟩ := by simp only [World.frozen?, e]
  rw [e1, e2]
  exact h.at_ j hj

/-- The list's values: where its lists lie. -/
def rowV (ks : List (List Int)) (G Cp : Nat → Nat) : List Value := (List.range ks.length).map fun i => .slice (some ⟨G i, 0, none⟩) (ks.getD i []).length (Cp i)

/-- A list of lists that is being built. -/
structure RowG (w : World) (B : Nat) (v : Value) (ks : List (List Int)) (G Cp : Nat → Nat) : Prop where
  own : w.ownsRow B 36 1 v ks.length (rowV ks G Cp)
  row : ∀ i, i < ks.length → B ≤ G i ∧ v.ownBlock ≠ some (G i) ∧ Cells w (G i) (ks.getD i []).length (digF (ks.getD i []))
  apart : ∀ i j, i < ks.length → j < ks.length → i ≠ j → G i ≠ G j

theorem getD_snoc_lt {α : Type} {l : List α} {x d : α} {i : Nat} (h : i < l.length) : (l ++ [x]).getD i d = l.getD i d := by
  simp only [List.getD, List.getElem?_append_left h]

theorem getD_snoc_eq {α : Type} {l : List α} {x d : α} : (l ++ [x]).getD l.length d = x := by simp [List.getD]

theorem rowV_snoc (ks : List (List Int)) (xs : List Int) (G Cp : Nat → Nat) (g c : Nat) :
    rowV (ks ++ [xs]) (fun i => if i = ks.length then g else G i) (fun i => if i = ks.length then c else Cp i) = rowV ks G Cp ++ [.slice (some ⟨g, 0, none⟩) xs.length c] := by
  unfold rowV
  rw [List.length_append, List.length_singleton, List.range_succ, List.map_append]
  congr 1
  · refine List.map_congr_left fun i hi => ?_
    have hi' : i < ks.length := List.mem_range.1 hi
    show Value.slice (some ⟨(if i = ks.length then g else G i), 0, none⟩) ((ks ++ [xs]).getD i []).length (if i = ks.length then c else Cp i) = _
    rw [if_neg (by omega), if_neg (by omega), getD_snoc_lt hi']
  · show [Value.slice (some ⟨(if ks.length = ks.length then g else G ks.length), 0, none⟩) ((ks ++ [xs]).getD ks.length []).length (if ks.length = ks.length then c else Cp ks.length)] = _
    rw [if_pos rfl, if_pos rfl, getD_snoc_eq]

theorem RowG.snoc {w w2 w4 : World} {B g m c' : Nat} {v v' : Value} {ks : List (List Int)} {xs : List Int} {G Cp : Nat → Nat} {o : Obj} (h : RowG w B v ks G Cp) (hb : Below w.heap.size w w2) (hB : B ≤ w.heap.size) (hg : w.heap.size ≤ g) (hC : Cells w2 g m (digF xs)) (hx : xs.length = m)
    (hown' : w4.ownsRow B 36 1 v' (ks.length + 1) (rowV ks G Cp ++ [.slice (some ⟨g, 0, none⟩) m c'])) (hgrow : (w2.alloc o).grownBy w4 v.ownBlock) (hblk : v'.ownBlock = v.ownBlock ∨ v'.ownBlock = some (w2.alloc o).heap.size) :
    RowG w4 B v' (ks ++ [xs]) (fun i => if i = ks.length then g else G i) (fun i => if i = ks.length then c' else Cp i) := by
  subst hx
  have hlt := h.own.lt
  have hg2 : g < w2.heap.size := hC.lt
  have hne : v.ownBlock ≠ some g := fun e => by have := (hlt g e).2; omega
  refine ⟨?_, fun i hi => ?_, fun i j hi hj hij => ?_⟩
  · rw [rowV_snoc, List.length_append, List.length_singleton]; exact hown'
  · rw [List.length_append, List.length_singleton] at hi
    by_cases e : i = ks.length
    · subst e
      rw [if_pos rfl]
      have e1 : (ks ++ [xs]).getD ks.length [] = xs := getD_snoc_eq
      rw [e1]
      refine ⟨by omega, fun e => ?_, (hC.alloc o).kept hgrow hne⟩
      rcases hblk with h1 | h1
      · exact hne (h1.symm.trans e)
      · rw [h1] at e; injection e with e; simp at e; omega
    · rw [if_neg e]
      have hi' : i < ks.length := by omega
      have e1 : (ks ++ [xs]).getD i [] = ks.getD i [] := getD_snoc_lt hi'
      rw [e1]
      obtain ⟨h1, h2, h3⟩ := h.row i hi'
      refine ⟨h1, fun e => ?_, ((h3.call hb).alloc o).kept hgrow h2⟩
      rcases hblk with h4 | h4
      · exact h2 (h4.symm.trans e)
      · rw [h4] at e; injection e with e; have h5 := h3.lt; have h6 := hb.size; simp at e; omega
  · rw [List.length_append, List.length_singleton] at hi hj
    by_cases e1 : i = ks.length
    · subst e1
      rw [if_pos rfl, if_neg (by omega)]
      have := (h.row j (by omega)).2.2.lt
      omega
    · rw [if_neg e1]
      by_cases e2 : j = ks.length
      · subst e2
        rw [if_pos rfl]
        have := (h.row i (by omega)).2.2.lt
        omega
      · rw [if_neg e2]
        exact h.apart i j (by omega) (by omega) hij

theorem RowG.far {w : World} {B : Nat} {v : Value} {ks : List (List Int)} {G Cp : Nat → Nat} (h : RowG w B v ks G Cp) {g k : Nat} (hg : g < B) (x : Value) : RowG (w.setCell ⟨g, k, none⟩ x) B v ks G Cp := by
  have hgrow : w.grownBy (w.setCell ⟨g, k, none⟩ x) (some g) := ⟨rfl, rfl, rfl, by rw [size_setCell]; exact Nat.le_refl _, fun j _ hj => Below.heap_setCell _ _ _ j (fun e => hj (by rw [e]))⟩
  refine ⟨h.own.kept hgrow ?_, fun i hi => ⟨(h.row i hi).1, (h.row i hi).2.1, (h.row i hi).2.2.far (by have := (h.row i hi).1; show g ≠ G i; omega) _⟩, h.apart⟩
  rcases h.own.2 with ⟨rfl, _⟩ | ⟨g', cap, cur, rfl, hb, _⟩
  · exact .inl rfl
  · refine .inr fun e => ?_
    simp [Value.ownBlock] at e
    omega

end Go.Proofs.YtealpmjkmioocaaDoor
