/- A list of texts that is taken from in front and added to behind, in rows of the call's own. No conditions beyond those of each lemma. -/
import Derived.Test.YtkmgmlgjflnbeaaPair
import Derived.Deep.AppendSrc
import Derived.Maps.RangeWalk
namespace Go.Proofs.Ytkmgmlgjflnbeaa
open Go.ChangeShapes Go.WideShapes Go.ChangeAt Go.RowKit Go.Joins

/-- Texts as cells. -/
def txF (ts : List ByteArray) (j : Nat) : Value := .string (ts.getD j ByteArray.empty)

/-- The list R lies at v, from some place of a row of the call's own on; behind it there may be room. -/
def QW (w : World) (B : Nat) (v : Value) (R : List ByteArray) : Prop :=
  ∃ g off c, v = .slice (some ⟨g, off, none⟩) R.length c ∧ B ≤ g ∧ g < w.heap.size ∧ R.length ≤ c ∧ (∀ j, j < c → (w.cell? ⟨g, off + j, none⟩).isSome = true ∧ w.frozen? ⟨g, off + j, none⟩ = false) ∧ ∀ j, j < R.length → w.cell? ⟨g, off + j, none⟩ = some (txF R j)

theorem QW.call {w w' : World} {B : Nat} {v : Value} {R : List ByteArray} (h : QW w B v R) (hb : Below w.heap.size w w') : QW w' B v R := by
  obtain ⟨g, off, c, e, h1, h2, h3, h4, h5⟩ := h
  refine ⟨g, off, c, e, h1, Nat.lt_of_lt_of_le h2 hb.size, h3, fun j hj => ?_, fun j hj => ?_⟩
  · rw [hb.cell (p := ⟨g, off + j, none⟩) h2, hb.frozen (p := ⟨g, off + j, none⟩) h2]; exact h4 j hj
  · rw [hb.cell (p := ⟨g, off + j, none⟩) h2]; exact h5 j hj

theorem QW.alloc {w : World} {B : Nat} {v : Value} {R : List ByteArray} (h : QW w B v R) (o : Obj) : QW (w.alloc o) B v R := h.call ((Below.refl _ _).alloc (Nat.le_refl _) o)

theorem QW.kept {w w' : World} {B : Nat} {v : Value} {R : List ByteArray} {row : Option Nat} (h : QW w B v R) (hg : w.grownBy w' row) (hne : v.ownBlock ≠ row) : QW w' B v R := by
  obtain ⟨g, off, c, rfl, h1, h2, h3, h4, h5⟩ := h
  have e := hg.block g h2 hne
  have e1 : ∀ o : Nat, w'.cell? ⟨g, o, none⟩ = w.cell? ⟨g, o, none⟩ := fun o => World.cell?_of_block (a := ⟨g, o, none⟩) e
  have e2 : ∀ o : Nat, w'.frozen? ⟨g, o, none⟩ = w.frozen? ⟨g, o, none⟩ := fun o => World.frozen?_of_block (a := ⟨g, o, none⟩) e
  refine ⟨g, off, c, rfl, h1, Nat.lt_of_lt_of_le h2 hg.size, h3, fun j hj => ?_, fun j hj => ?_⟩
  · rw [e1, e2]; exact h4 j hj
  · rw [e1]; exact h5 j hj

theorem QW.block {w : World} {B : Nat} {v : Value} {R : List ByteArray} (h : QW w B v R) : ∀ g, v.ownBlock = some g → B ≤ g ∧ g < w.heap.size := by
  obtain ⟨g, off, c, rfl, h1, h2, _⟩ := h
  intro g' e
  injection e with e
  subst e
  exact ⟨h1, h2⟩

theorem QW.far {w : World} {B : Nat} {v : Value} {R : List ByteArray} (h : QW w B v R) {p : Addr} (hp : v.ownBlock ≠ some p.block) (x : Value) : QW (w.setCell p x) B v R :=
  h.kept (row := some p.block) ⟨rfl, rfl, rfl, by rw [size_setCell]; exact Nat.le_refl _, fun j _ hj => Below.heap_setCell _ _ _ j (fun e => hj (by rw [e]))⟩ hp

theorem info_str : (Try.prog.info? 9).map (fun i => (i.zero, i.size, i.bytes)) = some (some (.string ByteArray.empty), 1, 16) := by kernel_rfl

theorem txF_lt {R : List ByteArray} {x : ByteArray} {j : Nat} (h : j < R.length) : txF (R ++ [x]) j = txF R j := by unfold txF; simp only [List.getD, List.getElem?_append_left h]

theorem txF_eq {R : List ByteArray} {x : ByteArray} : txF (R ++ [x]) R.length = .string x := by simp [txF, List.getD]

theorem add_litQ (g o j : Nat) : (⟨g, o, none⟩ : Addr).add j = ⟨g, o + j, none⟩ := by unfold Addr.add; split <;> simp_all

/-- One text more. -/
theorem QW.append {w : World} {B X : Nat} {v : Value} {R : List ByteArray} {x : ByteArray} (ty : TypeId) (h : QW w B v R) (hl : R.length ≤ 1000000) (hX : Cells w X 1 (fun _ => .string x)) (hB : B ≤ w.heap.size) :
    ∃ v' w', (Builtin.append_ #[76, 76] ty #[v, .slice (some ⟨X, 0, none⟩) 1 1]).run Try.prog w = .ok v' w' ∧ QW w' B v' (R ++ [x]) ∧ w.grownBy w' v.ownBlock ∧ (v'.ownBlock = v.ownBlock ∨ v'.ownBlock = some w.heap.size) := by
  obtain ⟨i0, hi, hz0, hz1, hz2⟩ := info_parts info_str
  obtain ⟨g, off, c, rfl, h1, h2, h3, h4, h5⟩ := h
  have hone : ∀ u ∈ ([.string x] : List Value), u.oneCell' = true := fun u hu => by obtain rfl := List.mem_singleton.1 hu; rfl
  have hS : Src Try.prog i0.size 76 (.slice (some ⟨X, 0, none⟩) 1 1) 1 [.string x] w := Src.ofSlice w Try.underlying76 ⟨X, 0, none⟩ 1 1 [.string x] (by rw [hz1]; rfl) (fun j u hu => by
    have hj : j < 1 := (List.getElem?_eq_some_iff.1 hu).1
    obtain rfl : j = 0 := by omega
    have e : some (Value.string x) = some u := hu
    rw [add_litQ, hX.cell (by omega), e]) hone
  by_cases hroom : R.length + 1 ≤ c
  · have hr := run_append_room_src (P := Try.prog) w 76 76 ty 9 i0 Try.underlying76 hi g off R.length c _ 1 _ hS hroom (fun j hj => by
      have : j = 0 := by simpa using hj
      subst this
      rw [hz1, Nat.mul_one, Nat.add_zero]; exact (h4 _ (by omega)).1) (fun j hj => by
      have : j = 0 := by simpa using hj
      subst this
      rw [hz1, Nat.mul_one, Nat.add_zero]; exact (h4 _ (by omega)).2)
    rw [hz1, Nat.mul_one] at hr
    refine ⟨_, _, hr, ⟨g, off, c, by rw [List.length_append, List.length_singleton], h1, ?_, by rw [List.length_append]; exact hroom, fun j hj => ?_, fun j hj => ?_⟩, ⟨rfl, rfl, rfl, ?_, fun k _ hk => ?_⟩, .inl rfl⟩
    · show g < (w.setCell ⟨g, off + R.length, none⟩ (.string x)).heap.size
      rw [size_setCell]; exact h2
    · show ((w.setCell ⟨g, off + R.length, none⟩ (.string x)).cell? ⟨g, off + j, none⟩).isSome = true ∧ (w.setCell ⟨g, off + R.length, none⟩ (.string x)).frozen? ⟨g, off + j, none⟩ = false
      rw [World.frozen?_setCell]
      refine ⟨?_, (h4 j hj).2⟩
      by_cases e : j = R.length
      · subst e
        have h6 := h4 R.length hj
        rw [World.cell?_setCell_same' _ _ _ h6.1]
        rfl
      · rw [World.cell?_setCell_other w ⟨g, off + R.length, none⟩ _ _ (fun e2 => e (by have := congrArg Addr.off e2; simp only at this; omega))]; exact (h4 j hj).1
    · show (w.setCell ⟨g, off + R.length, none⟩ (.string x)).cell? ⟨g, off + j, none⟩ = _
      rw [List.length_append, List.length_singleton] at hj
      by_cases e : j = R.length
      · subst e
        have h6 := h4 R.length (by omega)
        rw [World.cell?_setCell_same' _ _ _ h6.1, txF_eq]
      · rw [World.cell?_setCell_other w ⟨g, off + R.length, none⟩ _ _ (fun e2 => e (by have := congrArg Addr.off e2; simp only at this; omega)), h5 j (by omega), txF_lt (by omega)]
    · show _ ≤ (w.setCell ⟨g, off + R.length, none⟩ (.string x)).heap.size
      rw [size_setCell]; exact Nat.le_refl _
    · exact Below.heap_setCell _ _ _ k (fun e => hk (by simp [Value.ownBlock, e]))
  · have hc : c = R.length := by omega
    subst hc
    have hold := (Src.ofSlice (P := Try.prog) (size := i0.size) w Try.underlying76 ⟨g, off, none⟩ R.length R.length (R.map .string) (by rw [hz1]; simp) (fun j u hu => by
      rw [List.getElem?_map] at hu
      have hj : j < R.length := by
        rcases Nat.lt_or_ge j R.length with h | h
        · exact h
        · rw [List.getElem?_eq_none h] at hu; cases hu
      rw [List.getElem?_eq_getElem hj] at hu
      rw [add_litQ, h5 j hj, ← hu]
      simp [txF, List.getD, List.getElem?_eq_getElem hj]) (fun u hu => by obtain ⟨y, _, rfl⟩ := List.mem_map.1 hu; rfl)).cellsD
    have hfit := growslice_fits (need := R.length + 1) (old := R.length) (bytes := i0.bytes) (by omega) (by rw [hz2]; omega)
    have hr := run_append_grow_src (P := Try.prog) w 76 76 ty 9 i0 (.string ByteArray.empty) Try.underlying76 hi hz0 (some ⟨g, off, none⟩) R.length R.length (R.map .string) hold _ 1 _ hS (by omega) (by omega) hfit
    have hge := grownCap_ge w (R.length + 1) R.length 9
    have hsz : (((R.map Value.string ++ [Value.string x]).toArray ++ Builtin.zeroCells (Value.cells (.string ByteArray.empty)) (grownCap w (R.length + 1) R.length 9 - (R.length + 1)))).size = grownCap w (R.length + 1) R.length 9 := by
      rw [Array.size_append, size_zeroCells]
      simp [Value.cells]
      omega
    refine ⟨_, _, hr, ⟨w.heap.size, 0, grownCap w (R.length + 1) R.length 9, by rw [List.length_append, List.length_singleton], hB, by rw [World.size_alloc]; exact Nat.lt_succ_self _, by rw [List.length_append]; exact hge, fun j hj => ?_, fun j hj => ?_⟩, ⟨rfl, rfl, rfl, by rw [World.size_alloc]; exact Nat.le_succ _, fun k hk _ => MapKept.heap_alloc w.drew _ |>.2 k hk⟩, .inr rfl⟩
    · rw [Nat.zero_add]
      show ((w.drew.alloc _).cell? ⟨w.drew.heap.size, j, none⟩).isSome = true ∧ (w.drew.alloc _).frozen? ⟨w.drew.heap.size, j, none⟩ = false
      rw [World.cell?_alloc_new, World.frozen?_alloc_new]
      exact ⟨by rw [Array.getElem?_eq_getElem (by rw [hsz]; exact hj)]; rfl, rfl⟩
    · rw [Nat.zero_add]
      show (w.drew.alloc _).cell? ⟨w.drew.heap.size, j, none⟩ = _
      rw [World.cell?_alloc_new]
      rw [List.length_append, List.length_singleton] at hj
      rw [Array.getElem?_append_left (by simp; omega), List.getElem?_toArray]
      by_cases e : j = R.length
      · subst e
        rw [txF_eq, List.getElem?_append_right (by simp)]
        simp
      · rw [txF_lt (by omega), List.getElem?_append_left (by simp; omega), List.getElem?_map, List.getElem?_eq_getElem (by omega)]
        simp [txF, List.getD, List.getElem?_eq_getElem (show j < R.length by omega)]

theorem wpList_append_qw {ops : Array Oper} {rest : List Oper} {o : Oper} {a : Act} {w : World} {Q : Exit → Act → World → Prop} (hgd : o.guard = none) (s y : Operand)
    (ho : o.op = .call { callee := .builtin .append, args := #[s, y], argTypes := #[76, 76] }) (B X : Nat) (v : Value) (R : List ByteArray) (x : ByteArray) (hs : a.eval s = v) (h : QW w B v R) (hl : R.length ≤ 1000000)
    (hy : a.eval y = .slice (some ⟨X, 0, none⟩) 1 1) (hX : Cells w X 1 (fun _ => .string x)) (hB : B ≤ w.heap.size)
    (hK : ∀ v' w', QW w' B v' (R ++ [x]) → w.grownBy w' v.ownBlock → (v'.ownBlock = v.ownBlock ∨ v'.ownBlock = some w.heap.size) → wpList Try.prog ops Q rest (a.put o.dst v') w') : wpList Try.prog ops Q (o :: rest) a w := by
  refine wpList_plain hgd fun K' hK' => ?_
  obtain ⟨v', w', hr, h2, h3, h4⟩ := h.append o.type hl hX hB
  unfold Oper.wp
  simp [execOp, ho, resolve, invoke, builtin, hs, hy, hr, Result.andThen]
  exact hK' _ _ (hK v' w' h2 h3 h4)

/-- The first one taken away. -/
theorem QW.tail {w : World} {B : Nat} {g off c : Nat} {x : ByteArray} {R : List ByteArray} (h : QW w B (.slice (some ⟨g, off, none⟩) (R.length + 1) c) (x :: R)) {A : Option Addr} (hA : A = if c = 1 then some ⟨g, off, none⟩ else some ⟨g, off + 1, none⟩) :
    QW w B (.slice A R.length (c - 1)) R := by
  obtain ⟨g', off', c', e, h1, h2, h3, h4, h5⟩ := h
  cases e
  rw [List.length_cons] at h3
  by_cases h0 : c = 1
  · rw [if_pos h0] at hA
    subst hA
    exact ⟨g, off, c - 1, rfl, h1, h2, by omega, fun j hj => by omega, fun j hj => by omega⟩
  · rw [if_neg h0] at hA
    subst hA
    refine ⟨g, off + 1, c - 1, rfl, h1, h2, by omega, fun j hj => ?_, fun j hj => ?_⟩
    · have := h4 (j + 1) (by omega)
      rw [show off + 1 + j = off + (j + 1) by omega]; exact this
    · have := h5 (j + 1) (by rw [List.length_cons]; omega)
      rw [show off + 1 + j = off + (j + 1) by omega, this]
      rfl

end Go.Proofs.Ytkmgmlgjflnbeaa
