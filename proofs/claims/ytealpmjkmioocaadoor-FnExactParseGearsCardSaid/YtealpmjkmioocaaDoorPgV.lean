/- Lists of numbers that are put behind one another, where a list without numbers may be nil. No conditions. -/
import Derived.Test.YtealpmjkmioocaaDoorKD2
namespace Go.Proofs.YtealpmjkmioocaaDoor
open Go.ChangeShapes Go.WideShapes Go.ChangeAt Go.RowKit Go.Joins

/-- The value of one list: nil if it holds none. -/
def oneE (xs : List Int) (g c : Nat) : Value := if xs.length = 0 then .slice none 0 0 else .slice (some ⟨g, 0, none⟩) xs.length c

theorem oneE_cell (xs : List Int) (g c : Nat) : (oneE xs g c).oneCell' = true := by unfold oneE; split <;> rfl

/-- The list's values: where its lists lie. -/
def rowE (ks : List (List Int)) (G Cp : Nat → Nat) : List Value := (List.range ks.length).map fun i => oneE (ks.getD i []) (G i) (Cp i)

/-- A list of lists that is being built. -/
structure RowE (w : World) (B : Nat) (v : Value) (ks : List (List Int)) (G Cp : Nat → Nat) : Prop where
  own : w.ownsRow B 36 1 v ks.length (rowE ks G Cp)
  row : ∀ i, i < ks.length → 0 < (ks.getD i []).length → B ≤ G i ∧ v.ownBlock ≠ some (G i) ∧ Cells w (G i) (ks.getD i []).length (digF (ks.getD i []))
  apart : ∀ i j, i < ks.length → j < ks.length → 0 < (ks.getD i []).length → 0 < (ks.getD j []).length → i ≠ j → G i ≠ G j

theorem rowE_nil (w : World) (B : Nat) : RowE w B (.slice none 0 0) [] (fun _ => 0) (fun _ => 0) :=
  ⟨World.ownsRow_nil _ _ _ _, fun i hi => by simp at hi, fun i j hi => by simp at hi⟩

theorem rowE_snoc (ks : List (List Int)) (xs : List Int) (G Cp : Nat → Nat) (g c : Nat) :
    rowE (ks ++ [xs]) (fun i => if i = ks.length then g else G i) (fun i => if i = ks.length then c else Cp i) = rowE ks G Cp ++ [oneE xs g c] := by
  unfold rowE
  rw [List.length_append, List.length_singleton, List.range_succ, List.map_append]
  congr 1
  · refine List.map_congr_left fun i hi => ?_
    have hi' : i < ks.length := List.mem_range.1 hi
    show oneE ((ks ++ [xs]).getD i []) (if i = ks.length then g else G i) (if i = ks.length then c else Cp i) = _
    rw [if_neg (by omega), if_neg (by omega), getD_snoc_lt hi']
  · show [oneE ((ks ++ [xs]).getD ks.length []) (if ks.length = ks.length then g else G ks.length) (if ks.length = ks.length then c else Cp ks.length)] = _
    rw [if_pos rfl, if_pos rfl, getD_snoc_eq]

theorem RowE.snoc {w w2 w4 : World} {B g c' : Nat} {v v' : Value} {ks : List (List Int)} {xs : List Int} {G Cp : Nat → Nat} {o : Obj} (h : RowE w B v ks G Cp) (hb : Below w.heap.size w w2) (hB : B ≤ w.heap.size) (hC : 0 < xs.length → w.heap.size ≤ g ∧ Cells w2 g xs.length (digF xs))
    (hown' : w4.ownsRow B 36 1 v' (ks.length + 1) (rowE ks G Cp ++ [oneE xs g c'])) (hgrow : (w2.alloc o).grownBy w4 v.ownBlock) (hblk : v'.ownBlock = v.ownBlock ∨ v'.ownBlock = some (w2.alloc o).heap.size) :
    RowE w4 B v' (ks ++ [xs]) (fun i => if i = ks.length then g else G i) (fun i => if i = ks.length then c' else Cp i) := by
  have hlt := h.own.lt
  refine ⟨?_, fun i hi hp => ?_, fun i j hi hj hpi hpj hij => ?_⟩
  · rw [rowE_snoc, List.length_append, List.length_singleton]; exact hown'
  · rw [List.length_append, List.length_singleton] at hi
    by_cases e : i = ks.length
    · subst e
      rw [if_pos rfl]
      have e1 : (ks ++ [xs]).getD ks.length [] = xs := getD_snoc_eq
      rw [e1] at hp ⊢
      obtain ⟨hg, hC⟩ := hC hp
      have hg2 : g < w2.heap.size := hC.lt
      have hne : v.ownBlock ≠ some g := fun e => by have := (hlt g e).2; omega
      refine ⟨by omega, fun e => ?_, (hC.alloc o).kept hgrow hne⟩
      rcases hblk with h1 | h1
      · exact hne (h1.symm.trans e)
      · rw [h1] at e; injection e with e; simp at e; omega
    · rw [if_neg e]
      have hi' : i < ks.length := by omega
      have e1 : (ks ++ [xs]).getD i [] = ks.getD i [] := getD_snoc_lt hi'
      rw [e1] at hp ⊢
      obtain ⟨h1, h2, h3⟩ := h.row i hi' hp
      refine ⟨h1, fun e => ?_, ((h3.call hb).alloc o).kept hgrow h2⟩
      rcases hblk with h4 | h4
      · exact h2 (h4.symm.trans e)
      · rw [h4] at e; injection e with e; have h5 := h3.lt; have h6 := hb.size; simp at e; omega
  · rw [List.length_append, List.length_singleton] at hi hj
    by_cases e1 : i = ks.length
    · subst e1
      have e3 : (ks ++ [xs]).getD ks.length [] = xs := getD_snoc_eq
      have e4 : (ks ++ [xs]).getD j [] = ks.getD j [] := getD_snoc_lt (by omega)
      rw [e3] at hpi
      rw [e4] at hpj
      rw [if_pos rfl, if_neg (by omega)]
      have := (h.row j (by omega) hpj).2.2.lt
      have := (hC hpi).1
      omega
    · have e3 : (ks ++ [xs]).getD i [] = ks.getD i [] := getD_snoc_lt (by omega)
      rw [e3] at hpi
      rw [if_neg e1]
      by_cases e2 : j = ks.length
      · subst e2
        have e4 : (ks ++ [xs]).getD ks.length [] = xs := getD_snoc_eq
        rw [e4] at hpj
        rw [if_pos rfl]
        have := (h.row i (by omega) hpi).2.2.lt
        have := (hC hpj).1
        omega
      · have e4 : (ks ++ [xs]).getD j [] = ks.getD j [] := getD_snoc_lt (by omega)
        rw [e4] at hpj
        rw [if_neg e2]
        exact h.apart i j (by omega) (by omega) hpi hpj hij

theorem RowE.call {w w' : World} {B : Nat} {v : Value} {ks : List (List Int)} {G Cp : Nat → Nat} (h : RowE w B v ks G Cp) (hb : Below w.heap.size w w') : RowE w' B v ks G Cp :=
  ⟨own_kept h.own hb, fun i hi hp => ⟨(h.row i hi hp).1, (h.row i hi hp).2.1, (h.row i hi hp).2.2.call hb⟩, h.apart⟩

theorem RowE.far {w : World} {B : Nat} {v : Value} {ks : List (List Int)} {G Cp : Nat → Nat} (h : RowE w B v ks G Cp) {g k : Nat} (hg : g < B) (x : Value) : RowE (w.setCell ⟨g, k, none⟩ x) B v ks G Cp := by
  have hgrow : w.grownBy (w.setCell ⟨g, k, none⟩ x) (some g) := ⟨rfl, rfl, rfl, by rw [size_setCell]; exact Nat.le_refl _, fun j _ hj => Below.heap_setCell _ _ _ j (fun e => hj (by rw [e]))⟩
  refine ⟨h.own.kept hgrow ?_, fun i hi hp => ⟨(h.row i hi hp).1, (h.row i hi hp).2.1, (h.row i hi hp).2.2.far (by have := (h.row i hi hp).1; show g ≠ G i; omega) _⟩, h.apart⟩
  rcases h.own.2 with ⟨rfl, _⟩ | ⟨g', cap, cur, rfl, hb, _⟩
  · exact .inl rfl
  · refine .inr fun e => ?_
    simp [Value.ownBlock] at e
    omega

theorem RowE.slice {w : World} {B : Nat} {v : Value} {ks : List (List Int)} {G Cp : Nat → Nat} (h : RowE w B v ks G Cp) : ∃ A c, v = .slice A ks.length c := by
  rcases h.own.2 with ⟨e, h0⟩ | ⟨g, cap, _, e, _⟩
  · exact ⟨none, 0, by rw [e, h0]⟩
  · exact ⟨_, cap, e⟩

/-- What such a list is to a function that reads it. -/
theorem RowE.knobs {w : World} {B c : Nat} {A : Option Addr} {ks : List (List Int)} {n : Nat} {G Cp : Nat → Nat} (h : RowE w B (.slice A n c) ks G Cp) (hn : ks.length = n) (hm : n + lensAt ks n ≤ 1048576) : KnobsA w A n ks := by
  subst hn
  refine ⟨rfl, ?_⟩
  rcases h.own.2 with ⟨e, h0⟩ | ⟨g, cap, cur, e, hb, hg, h1, h2, h3, h4⟩
  · exact .inl h0
  · injection e with e1 e2 e3
    subst e1
    have hlt := (Array.getElem?_eq_some_iff.1 hg).1
    refine .inr ⟨g, 0, rfl, hlt, fun k hk => ?_⟩
    have hv : w.cell? ⟨g, 0 + k, none⟩ = some (oneE (ks.getD k []) (G k) (Cp k)) := by
      rw [Nat.zero_add, h.own.cellAt k (by omega)]
      simp [rowE, hk]
    have hmax := lensAt_one (ks := ks) hk
    by_cases hz : (ks.getD k []).length = 0
    · refine ⟨none, 0, ?_, by unfold maxLen; omega, rfl, .inl hz⟩
      rw [hv]; unfold oneE; rw [if_pos hz, hz]
    · refine ⟨some ⟨G k, 0, none⟩, Cp k, ?_, by unfold maxLen; omega, IntsA.of_cells rfl (h.row k hk (by omega)).2.2⟩
      rw [hv]; unfold oneE; rw [if_neg hz]

/-- Where no list is empty it is one of lists in blocks of their own. -/
theorem RowE.rowG {w : World} {B : Nat} {v : Value} {ks : List (List Int)} {G Cp : Nat → Nat} (h : RowE w B v ks G Cp) (hp : ∀ i, i < ks.length → 0 < (ks.getD i []).length) : RowG w B v ks G Cp := by
  have e : rowE ks G Cp = rowV ks G Cp := by
    unfold rowE rowV
    refine List.map_congr_left fun i hi => ?_
    have := hp i (List.mem_range.1 hi)
    unfold oneE
    rw [if_neg (by omega)]
  exact ⟨e ▸ h.own, fun i hi => h.row i hi (hp i hi), fun i j hi hj hij => h.apart i j hi hj (hp i hi) (hp j hj) hij⟩

theorem RowG.read {w : World} {B n c : Nat} {A : Option Addr} {ks : List (List Int)} {G Cp : Nat → Nat} (h : RowG w B (.slice A n c) ks G Cp) (hl : ks.length = n) : KnobsC w A n ks := by
  obtain ⟨A', c', e, hK⟩ := h.kd
  injection e with e1 e2 e3
  subst e1
  refine ⟨hl, hK.imp (fun h0 => by omega) fun ⟨g, G, Cp, e, h1, h2, h3, h4⟩ => ⟨g, 0, e, h4.top.lt, fun k hk => ⟨_, _, by rw [Nat.zero_add]; exact h4.top.cell (by omega), (h4.row k (by omega)).2⟩⟩⟩

theorem lensAt_cons (y : List Int) (ks : List (List Int)) : ∀ k, lensAt (y :: ks) (k + 1) = y.length + lensAt ks k
  | 0 => by simp [lensAt]
  | k + 1 => by
    have ih := lensAt_cons y ks k
    rw [lensAt, ih, lensAt]
    simp [List.getD]
    omega

end Go.Proofs.YtealpmjkmioocaaDoor
