/- How often each knob is turned, as both programs tell it, with what is asked of lists of lists that are put together. For texts that are no longer than any may be, where the slice's room holds its lists. -/
import Derived.Test.YtkmgmlgjflnbeaaKD2
import Derived.Lib.AppendZeros
import Derived.Lib.BufferMore
import Derived.Test.YtkmgmlgjflnbeaaGearsI
import Derived.Test.YtkmgmlgjflnbeaaFarL
import Derived.Test.YtkmgmlgjflnbeaaClasses
import Derived.Test.YtkmgmlgjflnbeaaFirstJ
import Derived.Test.YtkmgmlgjflnbeaaGS
import Derived.Test.YtkmgmlgjflnbeaaKnobsI
import Derived.Deep.DeepCutAuto

namespace Go.Proofs.Ytkmgmlgjflnbeaa
set_option maxRecDepth 100000
open Go.ChangeShapes Go.WideShapes Go.ChangeAt Go.RowKit Go.Joins

/-- A list of values that lies somewhere. -/
structure Part (w : World) (a : Addr) (n : Nat) (vs : List Value) : Prop where
  len : vs.length = n
  lt : a.block < w.heap.size
  at_ : ∀ j u, vs[j]? = some u → w.cell? (a.add j) = some u
  one : ∀ u ∈ vs, u.oneCell' = true

theorem add_block (a : Addr) (j : Nat) : (a.add j).block = a.block := by unfold Addr.add; split <;> rfl

theorem Part.below {w w' : World} {a : Addr} {n B : Nat} {vs : List Value} (h : Part w a n vs) (hb : Below B w w') (hB : w.heap.size ≤ B) : Part w' a n vs :=
  ⟨h.len, Nat.lt_of_lt_of_le h.lt hb.size, fun j u hj => by rw [hb.cell (p := a.add j) (by rw [add_block]; have := h.lt; omega)]; exact h.at_ j u hj, h.one⟩

def twoF (x y : Value) (j : Nat) : Value := (#[x, y] : Array Value).toList.getD j undef

end Go.Proofs.Ytkmgmlgjflnbeaa

namespace Go.Proofs.Ytkmgmlgjflnbeaa
open Go.ChangeShapes Go.WideShapes Go.ChangeAt Go.RowKit Go.Joins

def lkF (a b : Int) (j : Nat) : Value := (#[.int .i64 a, .int .i64 b] : Array Value).toList.getD j undef

theorem take_snoc {ks : List (List Int)} {k : Nat} (h : k < ks.length) : ks.take (k + 1) = ks.take k ++ [ks.getD k []] := by
  rw [List.take_succ_eq_append_getElem h]
  simp [List.getD, List.getElem?_eq_getElem h]

end Go.Proofs.Ytkmgmlgjflnbeaa

namespace Go.Proofs.Ytkmgmlgjflnbeaa
set_option maxRecDepth 100000
open Go.ChangeShapes Go.WideShapes Go.ChangeAt Go.RowKit Go.Joins

/-- Values that are lists of numbers. -/
structure Vals (w : World) (vs : List Value) (ks : List (List Int)) : Prop where
  len : vs.length = ks.length
  at_ : ∀ j, j < ks.length → ∃ A c, vs[j]? = some (.slice A (ks.getD j []).length c) ∧ (ks.getD j []).length ≤ maxLen ∧ IntsA w A (ks.getD j []).length (ks.getD j [])

theorem Vals.below {w w' : World} {vs : List Value} {ks : List (List Int)} (h : Vals w vs ks) (hb : Below w.heap.size w w') : Vals w' vs ks :=
  ⟨h.len, fun j hj => by obtain ⟨A, c, h1, h2, h3⟩ := h.at_ j hj; exact ⟨A, c, h1, h2, h3.below hb⟩⟩

theorem Vals.append {w : World} {v0 v1 : List Value} {k0 k1 : List (List Int)} (h0 : Vals w v0 k0) (h1 : Vals w v1 k1) : Vals w (v0 ++ v1) (k0 ++ k1) := by
  refine ⟨by rw [List.length_append, List.length_append, h0.len, h1.len], fun j hj => ?_⟩
  rw [List.length_append] at hj
  by_cases hlt : j < k0.length
  · obtain ⟨A, c, e1, e2, e3⟩ := h0.at_ j hlt
    have g : (k0 ++ k1).getD j [] = k0.getD j [] := by simp only [List.getD, List.getElem?_append_left hlt]
    rw [g]
    exact ⟨A, c, by rw [List.getElem?_append_left (by rw [h0.len]; exact hlt)]; exact e1, e2, e3⟩
  · obtain ⟨A, c, e1, e2, e3⟩ := h1.at_ (j - k0.length) (by omega)
    have g : (k0 ++ k1).getD j [] = k1.getD (j - k0.length) [] := by simp only [List.getD, List.getElem?_append_right (Nat.le_of_not_lt hlt)]
    rw [g]
    exact ⟨A, c, by rw [List.getElem?_append_right (by rw [h0.len]; omega), h0.len]; exact e1, e2, e3⟩

theorem Vals.one {w : World} {vs : List Value} {ks : List (List Int)} (h : Vals w vs ks) : ∀ u ∈ vs, u.oneCell' = true := by
  intro u hu
  obtain ⟨j, hj, rfl⟩ := List.getElem_of_mem hu
  obtain ⟨A, c, e1, _, _⟩ := h.at_ j (by rw [← h.len]; exact hj)
  rw [List.getElem?_eq_getElem hj] at e1
  injection e1 with e1
  rw [e1]
  rfl

/-- A stretch of lists handed in. -/
def segV (w : World) (b off m : Nat) : List Value := (List.range m).map fun k => (w.cell? ⟨b, off + k, none⟩).getD undef

theorem seg_vals {w : World} {b off i m n : Nat} {ks : List (List Int)} (hl : ks.length = n) (hi : i + m ≤ n)
    (hc : ∀ k, k < n → ∃ Ak ck, w.cell? ⟨b, off + k, none⟩ = some (.slice Ak (ks.getD k []).length ck) ∧ (ks.getD k []).length ≤ maxLen ∧ IntsA w Ak (ks.getD k []).length (ks.getD k [])) :
    Vals w (segV w b (off + i) m) ((ks.drop i).take m) := by
  have hlen : ((ks.drop i).take m).length = m := by rw [List.length_take, List.length_drop]; omega
  refine ⟨by rw [hlen]; simp [segV], fun j hj => ?_⟩
  rw [hlen] at hj
  obtain ⟨A, c, e1, e2, e3⟩ := hc (i + j) (by omega)
  have g : ((ks.drop i).take m).getD j [] = ks.getD (i + j) [] := by
    simp only [List.getD, List.getElem?_take, List.getElem?_drop, if_pos hj]
  rw [g]
  refine ⟨A, c, ?_, e2, e3⟩
  rw [← Nat.add_assoc] at e1
  simp [segV, hj, e1]

theorem seg_part {w : World} {b off m : Nat} {vs : List Value} {ks : List (List Int)} (hb : b < w.heap.size) (hv : Vals w (segV w b off m) ks) (he : vs = segV w b off m) : Part w ⟨b, off, none⟩ m vs := by
  subst he
  refine ⟨by simp [segV], hb, fun j u hu => ?_, hv.one⟩
  have hj : j < m := by
    have := (List.getElem?_eq_some_iff.1 hu).1
    simpa [segV] using this
  have ha : (⟨b, off, none⟩ : Addr).add j = ⟨b, off + j, none⟩ := by unfold Addr.add; split <;> simp_all
  rw [ha]
  obtain ⟨A, c, e1, _, _⟩ := hv.at_ j (by rw [← hv.len]; simpa [segV] using hj)
  rw [e1] at hu
  injection hu with hu
  subst hu
  have e2 : (segV w b off m)[j]? = some ((w.cell? ⟨b, off + j, none⟩).getD undef) := by simp [segV, hj]
  rw [e1] at e2
  injection e2 with e2
  cases h : w.cell? ⟨b, off + j, none⟩ with
  | none => rw [h] at e2; cases e2
  | some x => rw [h] at e2; rw [e2]; rfl

/-- What a row of lists is to a function that takes it. -/
theorem row_knobs {w : World} {B n : Nat} {v : Value} {vs : List Value} {ks : List (List Int)} (hO : w.ownsRow B 28 1 v n vs) (h0 : 0 < n) (hv : Vals w vs ks) :
    ∃ g c, v = .slice (some ⟨g, 0, none⟩) n c ∧ KnobsA w (some ⟨g, 0, none⟩) n ks := by
  have hl : vs.length = n := by have := hO.1; omega
  obtain ⟨g, c, rfl, hb, hlt⟩ := hO.form h0
  refine ⟨g, c, rfl, by rw [← hv.len, hl], .inr ⟨g, 0, rfl, hlt, fun k hk => ?_⟩⟩
  obtain ⟨A, c', e1, e2, e3⟩ := hv.at_ k (by rw [← hv.len, hl]; exact hk)
  refine ⟨A, c', ?_, e2, e3⟩
  rw [Nat.zero_add, hO.cellAt k (by omega)]
  exact e1

theorem woAt_split (ks : List (List Int)) {q : Nat} (hq : q < ks.length) : ∀ k, k ≤ ks.length → q < k → woAt ks q k = ks.take q ++ (ks.drop (q + 1)).take (k - (q + 1)) := by
  have hpre : ∀ k, k ≤ q → woAt ks q k = ks.take k := by
    intro k hk
    induction k with
    | zero => rfl
    | succ k ih => rw [woAt, if_neg (by omega), ih (by omega), take_snoc (by omega)]
  intro k hk hqk
  induction k with
  | zero => omega
  | succ k ih =>
    rw [woAt]
    by_cases e : k = q
    · subst e
      rw [if_pos rfl, hpre k (Nat.le_refl _), Nat.sub_self]
      simp
    · rw [if_neg (by omega), ih (by omega) (by omega), List.append_assoc]
      congr 1
      have h1 : k + 1 - (q + 1) = (k - (q + 1)) + 1 := by omega
      rw [h1, take_snoc (by rw [List.length_drop]; omega)]
      congr 2
      simp only [List.getD, List.getElem?_drop]
      rw [show q + 1 + (k - (q + 1)) = k by omega]

theorem ne_sub {ks zs : List (List Int)} (h : ∀ k, k < ks.length → 0 < (ks.getD k []).length) (hs : ∀ x ∈ zs, x ∈ ks) (j : Nat) (hj : j < zs.length) : 0 < (zs.getD j []).length := by
  have e : zs.getD j [] = zs[j] := by simp [List.getD, List.getElem?_eq_getElem hj]
  rw [e]
  obtain ⟨i, hi, e2⟩ := List.getElem_of_mem (hs _ (List.getElem_mem hj))
  have := h i hi
  simp only [List.getD, List.getElem?_eq_getElem hi, Option.getD_some] at this
  rw [← e2]
  exact this

end Go.Proofs.Ytkmgmlgjflnbeaa

namespace Go.Proofs.Ytkmgmlgjflnbeaa
set_option maxRecDepth 100000
open Go.ChangeShapes Go.WideShapes Go.ChangeAt Go.RowKit Go.Joins

theorem nodup_sub {α : Type} [DecidableEq α] : ∀ (l m : List α), l.Nodup → (∀ x, x ∈ l → x ∈ m) → l.length ≤ m.length
  | [], _, _, _ => Nat.zero_le _
  | x :: l, m, hn, hs => by
    rw [List.nodup_cons] at hn
    have h1 := nodup_sub l (m.erase x) hn.2 fun y hy => (List.mem_erase_of_ne (fun e => hn.1 (by rw [← e]; exact hy))).2 (hs y (List.mem_cons_of_mem _ hy))
    have h2 := List.length_erase_of_mem (hs x (List.mem_cons_self ..))
    have h3 := List.length_pos_of_mem (hs x (List.mem_cons_self ..))
    rw [List.length_cons]
    omega

/-- Gears without the knob at a place. -/
def woK (ks : List (List Int)) (k : Nat) : List (List Int) := ks.take k ++ ks.drop (k + 1)

theorem woK_length {ks : List (List Int)} {k : Nat} (hk : k < ks.length) : (woK ks k).length + 1 = ks.length := by
  unfold woK
  rw [List.length_append, List.length_take, List.length_drop]
  omega

theorem woK_at {ks : List (List Int)} {k i : Nat} (hk : k < ks.length) : (woK ks k).getD i [] = ks.getD (if i < k then i else i + 1) [] := by
  unfold woK
  have hl : (ks.take k).length = k := by rw [List.length_take]; omega
  by_cases h : i < k
  · rw [if_pos h]
    simp only [List.getD, List.getElem?_append_left (show i < (ks.take k).length by omega), List.getElem?_take, if_pos h]
  · rw [if_neg h]
    simp only [List.getD, List.getElem?_append_right (show (ks.take k).length ≤ i by omega), hl, List.getElem?_drop]
    rw [show k + 1 + (i - k) = i + 1 by omega]

def upJ (k j : Nat) : Nat := if j / 2 < k then j else j + 2

theorem mvK_up {b : Int} {ks : List (List Int)} {k j : Nat} {x : ByteArray} (hk : k < ks.length) : mvK b (woK ks k) x j = mvK b ks x (upJ k j) := by
  unfold mvK upJ
  rw [woK_at hk]
  by_cases h : j / 2 < k
  · rw [if_pos h, if_pos h]
  · rw [if_neg h, if_neg h]
    have e1 : byJ (j + 2) = byJ j := by unfold byJ; rw [show (j + 2) % 2 = j % 2 by omega]
    rw [e1, show (j + 2) / 2 = j / 2 + 1 by omega]

theorem knobs_wo {a b : Int} {ks : List (List Int)} {k : Nat} (hk : k < ks.length) (h : KnobsB a b ks) : KnobsB a b (woK ks k) := fun i hi => by
  rw [woK_at hk]
  have := woK_length hk
  exact h _ (by split <;> omega)

theorem walk_up {b : Int} {ks : List (List Int)} {k : Nat} {x : ByteArray} (hk : k < ks.length) : ∀ u : List Nat, walkR (mvK b (woK ks k)) x u = walkR (mvK b ks) x (u.map (upJ k))
  | [] => rfl
  | j :: u => by rw [List.map_cons, walkR, walkR, walk_up hk u, mvK_up hk]

theorem reach_up {b : Int} {ks : List (List Int)} {k : Nat} {x y : ByteArray} (hk : k < ks.length) (h : ReachK b (woK ks k) x y) : ReachK b ks x y := by
  obtain ⟨u, hu, rfl⟩ := h
  refine ⟨u.map (upJ k), fun j hj => ?_, (walk_up hk u).symm⟩
  obtain ⟨i, hi, rfl⟩ := List.mem_map.1 hj
  have h1 := hu i hi
  have h2 := woK_length hk
  unfold upJ
  split <;> omega

theorem reach_trans {b : Int} {ks : List (List Int)} {x y z : ByteArray} (h1 : ReachK b ks x y) (h2 : ReachK b ks y z) : ReachK b ks x z := by
  obtain ⟨u, hu, rfl⟩ := h1
  obtain ⟨v, hv, rfl⟩ := h2
  exact ⟨v ++ u, fun j hj => (List.mem_append.1 hj).elim (hv j) (hu j), by rw [walkR_append]⟩

/-- Turns of some knobs and of others may be told in any order. -/
theorem walks_comm {a b : Int} {ks zs : List (List Int)} (hk : KnobsB a b ks) (hz : KnobsB a b zs) {s : ByteArray} (hs : askB a b s = true) {u : List Nat} (hu : ∀ j, j ∈ u → j < 2 * zs.length) :
    ∀ p : List Nat, (∀ j, j ∈ p → j < 2 * ks.length) → walkR (mvK b ks) (walkR (mvK b zs) s u) p = walkR (mvK b zs) (walkR (mvK b ks) s p) u
  | [], _ => rfl
  | j :: p, hp => by
    have hp' : ∀ i, i ∈ p → i < 2 * ks.length := fun i hi => hp i (List.mem_cons_of_mem _ hi)
    have hj := hp j (List.mem_cons_self ..)
    rw [walkR, walks_comm hk hz hs hu p hp', walkR]
    exact walk_comm hz (hk _ (by omega)) (walkR_keep (backK hk) hs p hp') u hu

theorem walk_inj {a b : Int} {ks : List (List Int)} (hk : KnobsB a b ks) {x y : ByteArray} (hx : askB a b x = true) (hy : askB a b y = true) : ∀ p : List Nat, (∀ j, j ∈ p → j < 2 * ks.length) → walkR (mvK b ks) x p = walkR (mvK b ks) y p → x = y
  | [], _, h => h
  | j :: p, hp, h => by
    have hp' : ∀ i, i ∈ p → i < 2 * ks.length := fun i hi => hp i (List.mem_cons_of_mem _ hi)
    have hj := hp j (List.mem_cons_self ..)
    have hb := backK hk
    rw [walkR, walkR] at h
    have h1 : mvK b ks (mvK b ks (walkR (mvK b ks) x p) j) (invJ j) = mvK b ks (mvK b ks (walkR (mvK b ks) y p) j) (invJ j) := by rw [h]
    rw [hb.back _ j (walkR_keep hb hx p hp') hj, hb.back _ j (walkR_keep hb hy p hp') hj] at h1
    exact walk_inj hk hx hy p hp' h1

theorem half_reach {a b : Int} {ks : List (List Int)} {k : Nat} {z : ByteArray} (hkn : k < ks.length) (hk : KnobsB a b ks) (hz : askB a b z = true) :
    (allL a b (woK ks k) z).length = (allL a b ks z).length ∨ 2 * (allL a b (woK ks k) z).length ≤ (allL a b ks z).length := by
  have hw := knobs_wo hkn hk
  have hA := allL_all hk hz
  have hB := allL_all hw hz
  have rA : ∀ t, t ∈ keysE (allL a b ks z) ↔ ReachK b ks z t := fun t => hA.reach rfl
  have rB : ∀ t, t ∈ keysE (allL a b (woK ks k) z) ↔ ReachK b (woK ks k) z t := fun t => hB.reach rfl
  have lA : (keysE (allL a b ks z)).length = (allL a b ks z).length := by unfold keysE; rw [List.length_map]
  have lB : (keysE (allL a b (woK ks k) z)).length = (allL a b (woK ks k) z).length := by unfold keysE; rw [List.length_map]
  rw [← lA, ← lB]
  have sub : ∀ x, x ∈ keysE (allL a b (woK ks k) z) → x ∈ keysE (allL a b ks z) := fun x hx => (rA x).2 (reach_up hkn ((rB x).1 hx))
  by_cases hall : ∀ x, x ∈ keysE (allL a b ks z) → x ∈ keysE (allL a b (woK ks k) z)
  · left
    have h1 := nodup_sub _ _ hA.nodup hall
    have h2 := nodup_sub _ _ hB.nodup sub
    omega
  · right
    obtain ⟨h, hh⟩ := Classical.not_forall.1 hall
    obtain ⟨h1, h2⟩ := Classical.not_imp.1 hh
    obtain ⟨p, hp, hpe⟩ := (rA h).1 h1
    have askR : ∀ x, ReachK b (woK ks k) z x → askB a b x = true := fun x hx => by
      obtain ⟨u, hu, rfl⟩ := hx
      exact walkR_keep (backK hw) hz u hu
    have hn : (keysE (allL a b (woK ks k) z) ++ (keysE (allL a b (woK ks k) z)).map (fun x => walkR (mvK b ks) x p)).Nodup := by
      rw [List.nodup_append]
      refine ⟨hB.nodup, ?_, ?_⟩
      · rw [List.Nodup, List.pairwise_map]
        refine List.Pairwise.imp_of_mem (fun {x y} hx hy hne e => hne ?_) hB.nodup
        exact walk_inj hk (askR x ((rB x).1 hx)) (askR y ((rB y).1 hy)) p hp e
      · intro x hx y hy e
        obtain ⟨x', hx', rfl⟩ := List.mem_map.1 hy
        subst e
        obtain ⟨u, hu, rfl⟩ := (rB x').1 hx'
        have h3 : ReachK b (woK ks k) z (walkR (mvK b ks) (walkR (mvK b (woK ks k)) z u) p) := (rB _).1 hx
        rw [walks_comm hk hw hz hu p hp, hpe] at h3
        have ha : askB a b h = true := by rw [← hpe]; exact walkR_keep (backK hk) hz p hp
        have h4 : ReachK b (woK ks k) (walkR (mvK b (woK ks k)) h u) h := ReachK.back hw ha ⟨u, hu, rfl⟩
        exact h2 ((rB h).2 (reach_trans h3 h4))
    have h3 := nodup_sub _ (keysE (allL a b ks z)) hn fun x hx => by
      rcases List.mem_append.1 hx with hx | hx
      · exact sub x hx
      · obtain ⟨x', hx', rfl⟩ := List.mem_map.1 hx
        exact (rA _).2 (reach_trans (reach_up hkn ((rB x').1 hx')) ⟨p, hp, rfl⟩)
    rw [List.length_append, List.length_map] at h3
    omega

/-- So there are as many classes only where the same codes are reached. -/
theorem classes_eq {M R S : Nat} (hS : 1 ≤ S) (hR : R ≤ M) (h1 : 1 ≤ R) (h : S = R ∨ 2 * S ≤ R) : M / S = M / R ↔ S = R := by
  refine ⟨fun e => ?_, fun e => by rw [e]⟩
  rcases h with h | h
  · exact h
  · exfalso
    have h2 : 1 ≤ M / R := (Nat.le_div_iff_mul_le (by omega)).2 (by omega)
    have h3 : 2 * (M / R) ≤ M / S := by
      rw [Nat.le_div_iff_mul_le (by omega)]
      calc 2 * (M / R) * S = (M / R) * (2 * S) := by rw [Nat.mul_comm 2 (M / R), Nat.mul_assoc]
        _ ≤ (M / R) * R := Nat.mul_le_mul_left _ h
        _ ≤ M := Nat.div_mul_le_self M R
    omega


def zeroS (a : Int) : ByteArray := textOf (List.replicate a.toNat 0)

/-- Whether the same codes are reached without a knob. -/
def ndP (a b : Int) (ks : List (List Int)) (k : Nat) : Bool := decide (2 ≤ ks.length) && decide ((allL a b (woK ks k) (zeroS a)).length = (allL a b ks (zeroS a)).length)

def ndL (a b : Int) (ks : List (List Int)) : Nat → List Int
  | 0 => []
  | k + 1 => if ndP a b ks k then ndL a b ks k ++ [(k : Int)] else ndL a b ks k

theorem ndL_length (a b : Int) (ks : List (List Int)) (k : Nat) : (ndL a b ks k).length ≤ k := by
  induction k with
  | zero => exact Nat.le_refl _
  | succ k ih =>
    rw [ndL]
    split
    · rw [List.length_append, List.length_singleton]; omega
    · omega

def ndZ (a b : Int) (ks : List (List Int)) : List Int := if gearsB a b ks then ndL a b ks ks.length else []

theorem gears_wo {a b : Int} {ks : List (List Int)} {k : Nat} (h : gearsB a b ks = true) (h2 : 2 ≤ ks.length) (hk : k < ks.length) : gearsB a b (woK ks k) = true := by
  have hy := gearsB_yes h
  have hl := woK_length hk
  have hw := knobs_wo hk (gears_knobs h)
  unfold gearsB
  rw [hy.1, decide_eq_true hy.2.1, Bool.true_and, Bool.true_and, Bool.and_eq_true]
  refine ⟨by unfold inB; rw [decide_eq_true_eq]; omega, ?_⟩
  rw [List.all_eq_true]
  intro x hx
  obtain ⟨i, hi, rfl⟩ := List.getElem_of_mem hx
  have := hw i hi
  simp only [List.getD, List.getElem?_eq_getElem hi, Option.getD_some] at this
  exact this

theorem wrap64_low {x : Int} (h0 : 0 ≤ x) (h1 : x ≤ 1000) : wrap64 x = x := by
  unfold wrap64
  omega

theorem cc_eq {a b : Int} {ks : List (List Int)} {k : Nat} (h : gearsB a b ks = true) (h2 : 2 ≤ ks.length) (hk : k < ks.length) : (ccZ a b (woK ks k) == ccZ a b ks) = ndP a b ks k := by
  have hw := gears_wo h h2 hk
  have hy := gearsB_yes h
  have hK := gears_knobs h
  have hc := (gears_cnt h).1
  obtain ⟨an, rfl⟩ : ∃ an : Nat, a = an := ⟨a.toNat, by have := good_yes hy.1; omega⟩
  have hz : askB an b (zeroS an) = true := zero_ask hy.1
  have hR := ask_length (allL_all hK hz).nodup (allL_ask hK hz)
  have hR1 := allL_pos an b hK hz
  have hS := ask_length (allL_all (knobs_wo hk hK) hz).nodup (allL_ask (knobs_wo hk hK) hz)
  have hS1 := allL_pos an b (knobs_wo hk hK) hz
  have hq := classes_eq hS1 hR hR1 (half_reach hk hK hz)
  unfold ndP ccZ
  rw [if_pos hw, if_pos h, decide_eq_true h2, Bool.true_and]
  change (wrap64 ((cntN an b : Int) / ((allL an b (woK ks k) (zeroS an)).length : Int)) == wrap64 ((cntN an b : Int) / ((allL an b ks (zeroS an)).length : Int))) = _
  generalize (allL (an : Int) b (woK ks k) (zeroS an)).length = S at *
  generalize (allL (an : Int) b ks (zeroS an)).length = R at *
  generalize cntN an b = M at *
  have e1 : (M : Int) / (S : Int) = ((M / S : Nat) : Int) := rfl
  have e2 : (M : Int) / (R : Int) = ((M / R : Nat) : Int) := rfl
  have d1 := Nat.div_le_self M S
  have d2 := Nat.div_le_self M R
  rw [e1, e2]
  generalize M / S = x at *
  generalize M / R = y at *
  rw [wrap64_low (by omega) (by omega), wrap64_low (by omega) (by omega), Bool.eq_iff_iff, beq_iff_eq, decide_eq_true_eq, ← hq]
  omega

theorem woAt_woK {ks : List (List Int)} {k n : Nat} (hn : ks.length = n) (hk : k < n) : woAt ks k n = woK ks k := by
  subst hn
  rw [woAt_split ks hk ks.length (Nat.le_refl _) hk, List.take_of_length_le (by rw [List.length_drop]; exact Nat.le_refl _ : (ks.drop (k + 1)).length ≤ ks.length - (k + 1))]
  rfl

theorem RowG.knobsC {w : World} {B n c : Nat} {A : Option Addr} {ks : List (List Int)} {G Cp : Nat → Nat} (h : RowG w B (.slice A n c) ks G Cp) (hl : ks.length = n) : KnobsC w A n ks := by
  subst hl
  refine ⟨rfl, ?_⟩
  rcases Nat.eq_zero_or_pos ks.length with h0 | h0
  · exact .inl h0
  · right
    obtain ⟨g, c', e, hb, hlt⟩ := h.own.form h0
    cases e
    refine ⟨g, 0, rfl, hlt, fun k hk => ⟨G k, Cp k, ?_, (h.row k hk).2.2⟩⟩
    rw [Nat.zero_add, h.own.cellAt k (by omega)]
    simp [rowV, hk]

/-- A list of numbers in a block between two bounds, or an empty one. -/
def LI (w : World) (lo hi : Nat) (A : Option Addr) (xs : List Int) : Prop :=
  xs.length ≤ 1000 ∧ (xs.length = 0 ∨ ∃ g, A = some ⟨g, 0, none⟩ ∧ lo ≤ g ∧ g < hi ∧ Cells w g xs.length (digF xs))

/-- Its marks. -/
def LIM (w : World) (lo hi : Nat) (A : Option Addr) (xs : List Int) : Prop :=
  xs.length ≤ 1000 ∧ (xs.length = 0 ∨ ∃ g, A = some ⟨g, 0, none⟩ ∧ lo ≤ g ∧ g < hi ∧ Cells w g xs.length (upF 1))

theorem LI.ints {w : World} {lo hi : Nat} {A : Option Addr} {xs : List Int} (h : LI w lo hi A xs) : IntsA w A xs.length xs := by
  rcases h.2 with h0 | ⟨g, rfl, _, _, hC⟩
  · exact ⟨rfl, .inl h0⟩
  · exact IntsA.of_cells rfl hC

theorem LI.wide {w : World} {lo hi lo2 hi2 : Nat} {A : Option Addr} {xs : List Int} (h : LI w lo hi A xs) (h1 : lo2 ≤ lo) (h2 : hi ≤ hi2) : LI w lo2 hi2 A xs :=
  ⟨h.1, h.2.imp id fun ⟨g, e, a1, a2, hC⟩ => ⟨g, e, by omega, by omega, hC⟩⟩

theorem LI.call {w w' : World} {lo hi : Nat} {A : Option Addr} {xs : List Int} (h : LI w lo hi A xs) (hb : Below w.heap.size w w') : LI w' lo hi A xs :=
  ⟨h.1, h.2.imp id fun ⟨g, e, h1, h2, hC⟩ => ⟨g, e, h1, h2, hC.call hb⟩⟩

theorem LIM.call {w w' : World} {lo hi : Nat} {A : Option Addr} {xs : List Int} (h : LIM w lo hi A xs) (hb : Below w.heap.size w w') : LIM w' lo hi A xs :=
  ⟨h.1, h.2.imp id fun ⟨g, e, h1, h2, hC⟩ => ⟨g, e, h1, h2, hC.call hb⟩⟩

theorem LI.below {w w' : World} {lo hi B : Nat} {A : Option Addr} {xs : List Int} (h : LI w lo hi A xs) (hb : Below B w w') (hB : hi ≤ B) : LI w' lo hi A xs :=
  ⟨h.1, h.2.imp id fun ⟨g, e, h1, h2, hC⟩ => ⟨g, e, h1, h2, hC.below hb (by omega)⟩⟩

theorem LI.keep {w w' : World} {lo hi lo2 hi2 : Nat} {A : Option Addr} {xs : List Int} (h : LI w lo hi A xs) (hd : hi ≤ lo2 ∨ hi2 ≤ lo) (hk : ∀ g' m f', ¬ (lo2 ≤ g' ∧ g' < hi2) → Cells w g' m f' → Cells w' g' m f') : LI w' lo hi A xs :=
  ⟨h.1, h.2.imp id fun ⟨g, e, h1, h2, hC⟩ => ⟨g, e, h1, h2, hk _ _ _ (by omega) hC⟩⟩

theorem markI_zero (A : Option Addr) (c : Nat) (w : World) :
    Calls Try.prog 11 #[.slice A 0 c, .int .i64 1] w fun e w' => e = .returned (.int .i64 1) ∧ w = w' := by
  go_enter Try.func11, Try.ntmps11
  go_wp2_with fail
  go_loop [1, 5] (fun m i => m = .int .i64 1 ∧ i = .int .i64 0) (fun _ _ => 0)
  case atStart => exact ⟨rfl, rfl⟩
  case round =>
    obtain ⟨rfl, rfl⟩ := hrel
    go_wp2_with fail
    go_ret
    exact ⟨rfl, rfl⟩

theorem heldI_zero (A : Option Addr) (c : Nat) (w : World) :
    Calls Try.prog 12 #[.slice A 0 c, .int .i64 1] w fun e w' => e = .returned (.int .i64 1) ∧ w = w' := by
  go_enter Try.func12, Try.ntmps12
  go_wp2_with fail
  go_loop [1, 5] (fun m i => m = .int .i64 1 ∧ i = .int .i64 0) (fun _ _ => 0)
  case atStart => exact ⟨rfl, rfl⟩
  case round =>
    obtain ⟨rfl, rfl⟩ := hrel
    go_wp2_with fail
    go_ret
    exact ⟨rfl, rfl⟩

theorem eqLI_any (A1 A2 : Option Addr) (c1 c2 lo1 hi1 lo2 hi2 : Nat) (xs : List Int) (w : World) (h1 : LI w lo1 hi1 A1 xs) (h2 : LI w lo2 hi2 A2 xs) :
    Calls Try.prog 8 #[.slice A1 xs.length c1, .slice A2 xs.length c2] w fun e w' => e = .returned (.bool true) ∧ Below w.heap.size w w' :=
  eqIntS_any A1 A2 xs.length c1 c2 xs w (by have := h1.1; omega) h1.ints h2.ints

theorem markLI_any (A : Option Addr) (c lo hi : Nat) (xs : List Int) (w : World) (h : LI w lo hi A xs) :
    Calls Try.prog 11 #[.slice A xs.length c, .int .i64 1] w fun e w' => e = .returned (.int .i64 ((1 + xs.length : Nat) : Int)) ∧ LIM w' lo hi A xs ∧ w.heap.size ≤ w'.heap.size ∧ ∀ B, B ≤ lo → Below B w w' := by
  rcases h with ⟨h0, h | ⟨g, rfl, h1, h2, hC⟩⟩
  · rw [h]
    refine (markI_zero A c w).mono ?_
    rintro e w' ⟨rfl, rfl⟩
    exact ⟨rfl, ⟨h0, .inl h⟩, Nat.le_refl _, fun B _ => Below.refl _ _⟩
  · refine (markIntS_any g xs.length c 1 _ w (by omega) hC).mono ?_
    rintro e w' ⟨rfl, hM, hz, hB, _⟩
    exact ⟨rfl, ⟨h0, .inr ⟨g, rfl, h1, h2, hM⟩⟩, hz, fun B hB' => hB B (by omega)⟩

theorem heldLI_any (A : Option Addr) (c lo hi : Nat) (xs : List Int) (w : World) (h : LIM w lo hi A xs) :
    Calls Try.prog 12 #[.slice A xs.length c, .int .i64 1] w fun e w' => e = .returned (.int .i64 ((1 + xs.length : Nat) : Int)) ∧ Below w.heap.size w w' := by
  rcases h with ⟨h0, h | ⟨g, rfl, h1, h2, hC⟩⟩
  · rw [h]
    refine (heldI_zero A c w).mono ?_
    rintro e w' ⟨rfl, rfl⟩
    exact ⟨rfl, Below.refl _ _⟩
  · refine (heldIntS_any g xs.length c 1 w (by omega) hC).mono ?_
    rintro e w' ⟨rfl, rfl⟩
    exact ⟨rfl, Below.refl _ _⟩

/-- A list of numbers handed back, and whether it has been found. -/
def IntsL (w : World) (xs : List Int) (ok : Bool) (e : Ending) (w' : World) : Prop :=
  ∃ A c, e = .returned (.tuple #[.slice A xs.length c, .bool ok]) ∧ LI w' w.heap.size w'.heap.size A xs ∧ Below w.heap.size w w'

theorem IntsL.li {w w' : World} {xs : List Int} {ok : Bool} {e : Ending} (h : IntsL w xs ok e w') :
    ∃ A c, e = .returned (.tuple #[.slice A xs.length c, .bool ok]) ∧ LI w' w.heap.size w'.heap.size A xs ∧ Below w.heap.size w w' := h

theorem ints_none {w w' : World} (hb : Below w.heap.size w w') : IntsL w [] false (.returned (.tuple #[.slice none 0 0, .bool false])) w' :=
  ⟨none, 0, rfl, ⟨by decide, .inl rfl⟩, hb⟩

theorem LI.of_row {w : World} {B : Nat} {v : Value} {xs : List Int} (h : w.ownsRow B 3 1 v xs.length (iv xs)) (hl : xs.length ≤ 1000) : ∃ A c, v = .slice A xs.length c ∧ LI w B w.heap.size A xs := by
  rcases Nat.eq_zero_or_pos xs.length with h0 | h0
  · rcases h.2 with ⟨rfl, _⟩ | ⟨g, cap, cur, rfl, _⟩
    · exact ⟨none, 0, by rw [h0], hl, .inl h0⟩
    · exact ⟨_, cap, rfl, hl, .inl h0⟩
  · obtain ⟨g, c, rfl, hb, hC⟩ := own_ints (xs := xs) (n := xs.length) h (by
      rintro rfl
      rcases h.2 with ⟨_, h1⟩ | ⟨g, cap, cur, e, _⟩
      · omega
      · cases e)
    exact ⟨_, c, rfl, hl, .inr ⟨g, rfl, hb, hC.lt, hC⟩⟩

end Go.Proofs.Ytkmgmlgjflnbeaa

namespace Go.Proofs.Ytkmgmlgjflnbeaa
open Go.ChangeShapes Go.WideShapes Go.ChangeAt Go.RowKit Go.Joins

/-- The first list of how often each knob is turned forward to lead from one code to the other. -/
def TP (b : Int) : List (List Int) → ByteArray → ByteArray → List Int → Prop
  | [], x, t, L => x = t ∧ L = []
  | y :: r, x, t, L => ∃ (m : Nat) (L' : List Int), L = (m : Int) :: L' ∧ (m : Int) < b ∧ ReachK b r (turnK b m x y) t ∧ (∀ m' : Nat, m' < m → ¬ ReachK b r (turnK b m' x y) t) ∧ TP b r (turnK b m x y) t L'

theorem TP.unique {b : Int} {t : ByteArray} : ∀ {ks : List (List Int)} {x : ByteArray} {L1 L2 : List Int}, TP b ks x t L1 → TP b ks x t L2 → L1 = L2
  | [], _, _, _, h1, h2 => h1.2.trans h2.2.symm
  | y :: r, x, L1, L2, h1, h2 => by
    obtain ⟨m1, M1, rfl, _, a1, b1, c1⟩ := h1
    obtain ⟨m2, M2, rfl, _, a2, b2, c2⟩ := h2
    have e : m1 = m2 := by
      rcases Nat.lt_trichotomy m1 m2 with h | h | h
      · exact absurd a1 (b2 m1 h)
      · exact h
      · exact absurd a2 (b1 m2 h)
    subst e
    rw [TP.unique c1 c2]

theorem least_nat {p : Nat → Prop} : ∀ n, p n → ∃ m, m ≤ n ∧ p m ∧ ∀ m', m' < m → ¬ p m' := by
  intro n
  induction n using Nat.strongRecOn with
  | ind n ih =>
    intro h
    by_cases hex : ∃ m', m' < n ∧ p m'
    · obtain ⟨m', h1, h2⟩ := hex
      obtain ⟨m, a1, a2, a3⟩ := ih m' h1 h2
      exact ⟨m, by omega, a2, a3⟩
    · exact ⟨n, Nat.le_refl _, h, fun m' h1 h2 => hex ⟨m', h1, h2⟩⟩

theorem TP.some {a b : Int} {t : ByteArray} : ∀ {ks : List (List Int)} {x : ByteArray}, KnobsB a b ks → askB a b x = true → ReachK b ks x t → ∃ L, TP b ks x t L
  | [], _, _, _, h => ⟨[], ReachK.none.1 h, rfl⟩
  | y :: r, x, hk, hx, h => by
    obtain ⟨m0, h0, h1⟩ := ReachK.first hk hx h
    obtain ⟨m, e1, e2, e3⟩ := least_nat (p := fun m => ReachK b r (turnK b m x y) t) m0 h1
    obtain ⟨L, hL⟩ := TP.some (knobs_tail hk).2 (turnK_ask (m := m) hx (knobs_tail hk).1) e2
    exact ⟨(m : Int) :: L, m, L, rfl, by omega, e2, e3, hL⟩

theorem TP.length {b : Int} {t : ByteArray} : ∀ {ks : List (List Int)} {x : ByteArray} {L : List Int}, TP b ks x t L → L.length = ks.length
  | [], _, _, h => by rw [h.2]; rfl
  | y :: r, x, L, h => by
    obtain ⟨m, L', rfl, _, _, _, h5⟩ := h
    rw [List.length_cons, List.length_cons, TP.length h5]

/-- From here on: what is left of the knobs. -/
theorem TP.reach {a b : Int} {t : ByteArray} : ∀ {ks : List (List Int)} {x : ByteArray} {L : List Int}, KnobsB a b ks → askB a b x = true → TP b ks x t L → ReachK b ks x t
  | [], _, _, _, _, h => ReachK.none.2 h.1
  | y :: r, x, L, hk, hx, h => by
    obtain ⟨m, L', rfl, _, h3, _, _⟩ := h
    exact ReachK.more hk hx h3

open Classical in
/-- The list, or none. -/
noncomputable def tmL (b : Int) (ks : List (List Int)) (s t : ByteArray) : List Int := if h : ∃ L, TP b ks s t L then h.choose else []

theorem tmL_eq {b : Int} {ks : List (List Int)} {s t : ByteArray} {L : List Int} (h : TP b ks s t L) : tmL b ks s t = L := by
  unfold tmL
  rw [dif_pos ⟨L, h⟩]
  exact TP.unique (Exists.choose_spec (⟨L, h⟩ : ∃ L, TP b ks s t L)) h

noncomputable def tmZ (a b : Int) (ks : List (List Int)) (s t : ByteArray) : List Int := if fkB a b ks s t then tmL b ks s t else []

theorem fk_reach {a b : Int} {ks : List (List Int)} {s t : ByteArray} (h : fkB a b ks s t = true) : gearsB a b ks = true ∧ askB a b s = true ∧ askB a b t = true ∧ ReachK b ks s t := by
  unfold fkB at h
  rw [Bool.and_eq_true, Bool.and_eq_true] at h
  obtain ⟨⟨h1, h2⟩, h3⟩ := h
  have hy := gcB_yes h1
  cases hent : entT a b ks s t with
  | none => rw [hent] at h3; cases h3
  | some e =>
    have he := entT_some (gears_knobs hy.1) hy.2 h2 hent
    exact ⟨hy.1, hy.2, h2, ((allL_all (gears_knobs hy.1) hy.2).reach rfl).1 (by rw [← he.2]; exact mem_keysE.2 ⟨e, he.1, rfl⟩)⟩

theorem KnobsC.drop {w : World} {b0 off n c k : Nat} {ks : List (List Int)} (h : KnobsC w (some ⟨b0, off, none⟩) n ks) (hk : k + 1 ≤ n) (hcap : n ≤ c) {a1 : Addr} (ha : (if c = k + 1 then some (⟨b0, off, none⟩ : Addr) else some ⟨b0, off + (k + 1), none⟩) = some a1) : KnobsC w (some a1) (n - (k + 1)) (ks.drop (k + 1)) := by
  refine ⟨by rw [List.length_drop, h.len], ?_⟩
  by_cases e : n - (k + 1) = 0
  · exact .inl e
  · right
    obtain ⟨b, o, e1, hb, hc⟩ := h.at_.resolve_left (by omega)
    cases e1
    rw [if_neg (by omega)] at ha
    cases ha
    refine ⟨_, _, rfl, hb, fun j hj => ?_⟩
    obtain ⟨gk, ck, h1, h2⟩ := hc (k + 1 + j) (by omega)
    have g : (ks.drop (k + 1)).getD j [] = ks.getD (k + 1 + j) [] := by simp only [List.getD, List.getElem?_drop]
    rw [g]
    exact ⟨gk, ck, by rw [Nat.add_assoc]; exact h1, h2⟩

theorem drop_cons {ks : List (List Int)} {k : Nat} (h : k < ks.length) : ks.drop k = ks.getD k [] :: ks.drop (k + 1) := by
  rw [List.drop_eq_getElem_cons h]
  simp [List.getD, List.getElem?_eq_getElem h]

theorem knobs_drop {a b : Int} {ks : List (List Int)} (hk : KnobsB a b ks) (k : Nat) : KnobsB a b (ks.drop k) := fun j hj => by
  rw [List.length_drop] at hj
  have g : (ks.drop k).getD j [] = ks.getD (k + j) [] := by simp only [List.getD, List.getElem?_drop]
  rw [g]
  exact hk _ (by omega)

/-- What stands in the list of times while it is being found. -/
def tmF (L : List Int) (k : Nat) (j : Int) (i : Nat) : Value := if i < k then digF L i else if i = k then .int .i64 j else .int .i64 0

theorem tmF_next {L : List Int} {k : Nat} {m : Int} (h : L.getD k 0 = m) (i : Nat) : tmF L k m i = tmF L (k + 1) 0 i := by
  unfold tmF
  by_cases h1 : i < k
  · rw [if_pos h1, if_pos (by omega)]
  · by_cases h2 : i = k
    · subst h2
      rw [if_neg h1, if_pos rfl, if_pos (by omega), digF, h]
    · rw [if_neg h1, if_neg h2, if_neg (by omega)]
      split <;> rfl

theorem gs_set {w W : World} {a b : Int} {A : Option Addr} {n c g k : Nat} (h : Hid (GS w W a b A n c)) (hg : w.heap.size < g) (v : Value) : Hid (GS w (W.setCell ⟨g, k, none⟩ v) a b A n c) :=
  Lib.hid ⟨h.out.box.far (show g ≠ w.heap.size by omega) v, h.out.bel.setCell (p := ⟨g, k, none⟩) (by show w.heap.size ≤ g; omega) v⟩

end Go.Proofs.Ytkmgmlgjflnbeaa

namespace Go.Proofs.Ytkmgmlgjflnbeaa
set_option maxRecDepth 100000
open Go.ChangeShapes Go.WideShapes Go.ChangeAt Go.RowKit Go.Joins

set_option maxHeartbeats 4000000 in
theorem timesFor_any (a b : Int) (s t : ByteArray) (A : Option Addr) (n c : Nat) (hcap : n ≤ c) (ks : List (List Int)) (w : World) (hm : n + lensAt ks n ≤ 1048576) (hs : s.size ≤ maxLen) (ht : t.size ≤ maxLen) (hA : KnobsC w A n ks) :
    Calls Try.prog 7 #[.agg #[.int .i64 a, .int .i64 b, .slice A n c], .string s, .string t] w (IntsL w (tmZ a b ks s t) (fkB a b ks s t)) := by
  have HS := Lib.hid hs
  have HT := Lib.hid ht
  have HA := Lib.hid hA
  have HN := Lib.hid hA.len
  have G0 := gs_new w a b A n c
  have l0 := gs_0 G0
  have l1 := gs_1 G0
  have l2 := gs_2 G0
  clear hA hs ht
  obtain ⟨u, HF⟩ : ∃ u, Hid (fkB a b ks s t = u) := ⟨_, Lib.hid rfl⟩
  rcases u with _ | _
  · have HZ : Hid (tmZ a b ks s t = []) := Lib.hid (by unfold tmZ; rw [HF.out]; rfl)
    go_enter Try.func7, Try.ntmps7
    go_wp2_with (go_at_call 18; refine (firstKnobs_any _ _ _ _ _ _ _ ks _ hm HS.out HT.out (HA.out.below G0.out.bel)).mono ?_; rw [HF.out]; rintro e w1 ⟨A1, c1, rfl, _, hb1⟩)
    go_ret2
    rw [HF.out, HZ.out]
    exact ints_none (bel_call G0.out.bel hb1)
  · obtain ⟨hgy, hsy, hty, hre⟩ := fk_reach HF.out
    have HG := Lib.hid hgy
    have HTA := Lib.hid hty
    have HK := Lib.hid (gears_knobs hgy)
    obtain ⟨hc1, _⟩ := gears_cnt hgy
    have hn5 : n ≤ 5 := by have := (gearsB_yes hgy).2.2.2.1; have := HN.out; omega
    have hn1 : 1 ≤ n := by have := (gearsB_yes hgy).2.2.1; have := HN.out; omega
    have hb10 : b ≤ 10 := (good_yes (gearsB_yes hgy).1).2.2.2
    obtain ⟨L, hL⟩ := TP.some (gears_knobs hgy) hsy hre
    have HLL := Lib.hid (show L.length = n by rw [hL.length, HN.out])
    have HZ : Hid (tmZ a b ks s t = L) := Lib.hid (by unfold tmZ; rw [HF.out, if_pos rfl, tmL_eq hL])
    have HL := Lib.hid hL
    have HSA := Lib.hid hsy
    obtain ⟨b0, off, rfl, _⟩ := HA.out.at_.resolve_left (by omega)
    have hmk := make_intsN n (by omega)
    clear hgy hsy hty hre hL
    go_enter Try.func7, Try.ntmps7
    go_wp2_with (go_at_call 18; refine (firstKnobs_any _ _ _ _ _ _ _ ks _ hm HS.out HT.out (HA.out.below G0.out.bel)).mono ?_; rw [HF.out]; rintro e w1 ⟨A1, c1, rfl, hO1, hb1⟩
                 have G1 := gs_call G0 hb1
                 have G1n := gs_alloc G1 (.cells (madeCells #[.int .i64 0] n) 3)
                 clear l0 l1 l2 hO1 hb1
                 have l0 := gs_0 G1
                 have l1 := gs_1 G1
                 have l2 := gs_2 G1
                 have m0 := gs_0 G1n
                 have m1 := gs_1 G1n
                 have m2 := gs_2 G1n)
    have CM := Cells.made w1 (.int .i64 0) n 3
    have hgw : w.heap.size < w1.heap.size := G1.out.box.lt
    obtain ⟨gT, hgT⟩ : ∃ gT, w1.heap.size = gT := ⟨_, rfl⟩
    obtain ⟨w2, hw2⟩ : ∃ w2, w1.alloc (.cells (madeCells #[.int .i64 0] n) 3) = w2 := ⟨_, rfl⟩
    rw [hw2, hgT] at CM
    rw [hw2] at G1n ⊢
    rw [hgT] at hgw ⊢
    clear l0 l1 l2 m0 m1 m2 G0 G1 hmk hw2 hgT
    go_loopw [11, 33] (fun x i wr => ∃ (k : Nat) (y : ByteArray), k ≤ n ∧ i = .int .i64 k ∧ x = .string y ∧ askB a b y = true ∧ TP b (ks.drop k) y t (L.drop k) ∧ Cells wr gT n (tmF L k 0) ∧ GS w wr a b (some ⟨b0, off, none⟩) n c) (fun _ i _ => n - (intOf i).toNat)
    case atStart => exact ⟨0, s, by omega, rfl, rfl, HSA.out, by simpa using HL.out, CM.congr (fun j _ => by unfold tmF; rw [if_neg (by omega)]; split <;> rfl), G1n.out⟩
    case round =>
      clear CM G1n
      obtain ⟨k, x, hk, rfl, rfl, hx, hTP, hC, hG⟩ := hrel
      have HX := Lib.hid hx
      have HTP := Lib.hid hTP
      have HC := Lib.hid hC
      have G := Lib.hid hG
      clear hx hTP hC hG
      have l0 := gs_0 G
      have l1 := gs_1 G
      have l2 := gs_2 G
      by_cases hlt : k < n
      · have hkl : k < ks.length := by rw [HN.out]; exact hlt
        have htp := HTP.out
        rw [drop_cons hkl] at htp
        obtain ⟨m, L', hLe, hmb, hR1, hR0, hR2⟩ := htp
        have HLM : Hid (L.getD k 0 = (m : Int) ∧ L.drop (k + 1) = L') := Lib.hid (by
          have hkL : k < L.length := by rw [HLL.out]; exact hlt
          rw [List.drop_eq_getElem_cons hkL] at hLe
          injection hLe with e1 e2
          exact ⟨by simp [List.getD, List.getElem?_eq_getElem hkL, e1], e2⟩)
        obtain ⟨y, hy⟩ : ∃ y, ks.getD k [] = y := ⟨_, rfl⟩
        have HY := Lib.hid hy
        rw [hy] at hR1 hR0 hR2
        have HKY := Lib.hid (show knobB a b y = true by rw [← hy]; exact HK.out k hkl)
        have HKD := Lib.hid (knobs_drop HK.out (k + 1))
        have HR1 := Lib.hid hR1
        have HR0 := Lib.hid hR0
        have HR2 := Lib.hid hR2
        have hkc : k ≤ c := by omega
        have hk1 : k + 1 ≤ n := by omega
        have hk2 : (0 : Int) ≤ (k : Int) + 1 := by omega
        have hk3 : (k : Int) + 1 ≤ (n : Int) := by omega
        have hwk : IntKind.i64.wrap ((k : Int) + 1) = ((k + 1 : Nat) : Int) := by rw [IntKind.wrap_i64]; omega
        obtain ⟨a1, ha1⟩ : ∃ a1 : Addr, (if c = k + 1 then some (⟨b0, off, none⟩ : Addr) else some ⟨b0, off + (k + 1), none⟩) = some a1 := by split <;> exact ⟨_, rfl⟩
        have HAD := Lib.hid (KnobsC.drop HA.out hk1 hcap ha1)
        clear hLe hR1 hR0 hR2 hy hkl HTP
        go_wp2_with fail
        go_region_law (first
          | (go_simp; go_at_call 19; refine (allArrivals_any _ _ _ _ _ _ (ks.drop (k + 1)) _ (by omega) (HAD.out.below (bel_drew G.out.bel)) HTA.out HKD.out hc1).mono ?_; rintro e w3 ⟨g3, rfl, hg3, hM3, hb3⟩
             have G3 := gs_call G (below_undrew hb3)
             have C3 := hc_call HC (below_undrew hb3)
             have M3 := Lib.hid hM3
             have S3 : wr.heap.size ≤ g3 := hg3
             clear hb3 hM3 hg3))
        all_goals
          have hg3 : gT < g3 := by have := HC.out.lt; omega
          clear l0 l1 l2 G HC S3 ha1 hwk
          try go_wp2_with fail
          try go_simp
          go_loopw [11] (fun v wq => ∃ j : Nat, j ≤ m ∧ v = .string (turnK b (j : Int) x y) ∧ Cells wq gT n (tmF L k (j : Int)) ∧ MapS wq g3 (allL a b (ks.drop (k + 1)) t) ∧ GS w wq a b (some ⟨b0, off, none⟩) n c) (fun _ wq => m - (intOf ((wq.cell? ⟨gT, k, none⟩).getD undef)).toNat)
          case atStart => exact ⟨0, by omega, congrArg Value.string (turnK_zero HX.out HKY.out).symm, C3.out, M3.out, G3.out⟩
          case round =>
            clear C3 M3 G3
            obtain ⟨j, hj, rfl, hC, hM, hG⟩ := hrel
            have HC := Lib.hid hC
            have HMP := Lib.hid hM
            have G := Lib.hid hG
            clear hC hM hG
            have l0 := gs_0 G
            have l1 := gs_1 G
            have l2 := gs_2 G
            obtain ⟨z, hz⟩ : ∃ z, turnK b (j : Int) x y = z := ⟨_, rfl⟩
            have HZE := Lib.hid hz
            have HZA : Hid (askB a b z = true) := Lib.hid (by rw [← hz]; exact turnK_ask HX.out HKY.out)
            have HZS : Hid (z.size ≤ maxLen) := Lib.hid (by have := (asked HZA.out).n6; unfold maxLen; omega)
            rw [hz]
            clear hz
            by_cases hjm : j = m
            · subst hjm
              obtain ⟨e, he, hce⟩ := mem_keysE.1 (((allL_all HKD.out HTA.out).reach rfl (t := z)).2 (ReachK.back HKD.out HZA.out (by rw [← HZE.out]; exact HR1.out)))
              have hlk : (Instr.lookup 48 (.map (some g3)) (.string z) true).run Try.prog wr = .ok (.tuple #[.agg #[.string e.before, .int .i64 (lastW e), .int .i64 (lastB e), .int .i64 (e.way.length : Int)], .bool true]) wr := (by
                have := HMP.out.look_ok he (by rw [hce]; exact HZS.out)
                rw [hce] at this
                exact this)
              clear he hce
              go_wp2_with fail
              go_roundw
              case rel => exact ⟨k + 1, z, by omega, by go_num, rfl, HZA.out, by rw [HLM.out.2, ← HZE.out]; exact HR2.out, (HC.out.congr fun i _ => tmF_next HLM.out.1 i).alloc _, (gs_alloc G _).out⟩
              case measure => simp [intOf] <;> omega
            · have hjl : j < m := by omega
              have hlk : (Instr.lookup 48 (.map (some g3)) (.string z) true).run Try.prog wr = .ok (.tuple #[.agg #[.string ByteArray.empty, .int .i64 0, .int .i64 0, .int .i64 0], .bool false]) wr := HMP.out.look_no (fun h => HR0.out j hjl (by
                rw [HZE.out]
                exact ReachK.back HKD.out HTA.out (((allL_all HKD.out HTA.out).reach rfl).1 h))) HZS.out
              have GA := gs_alloc G (.cells #[.string ByteArray.empty, .int .i64 0, .int .i64 0, .int .i64 0] 53)
              have m0 := gs_0 GA
              have m1 := gs_1 GA
              have m2 := gs_2 GA
              have CA := Lib.hid (HC.out.alloc (.cells #[.string ByteArray.empty, .int .i64 0, .int .i64 0, .int .i64 0] 53))
              have MA := Lib.hid (MapS.call HMP.out ((Below.refl _ _).alloc (Nat.le_refl _) (.cells #[.string ByteArray.empty, .int .i64 0, .int .i64 0, .int .i64 0] 53)))
              have HTU : Hid (turnK b 1 z y = turnK b ((j + 1 : Nat) : Int) x y) := Lib.hid (by rw [← HZE.out, turnK_turnK HX.out HKY.out]; rfl)
              have HKY2 := Lib.hid (show knobB a b (ks.getD k []) = true by rw [HY.out]; exact HKY.out)
              clear hjm
              go_wp2_with (go_at_call 20; refine (codeBehind_any _ _ _ _ _ _ _ _ ks _ hlt (HA.out.below GA.out.bel) HZA.out HKY2.out (by omega)).mono ?_; rw [HY.out, HTU.out]; rintro e w8 ⟨rfl, hb8⟩
                           have G8 := gs_call GA hb8
                           have C8 := hc_call CA hb8
                           have M8 := Lib.hid (MapS.call MA.out hb8)
                           have c8 : w8.cell? ⟨gT, k, none⟩ = some (.int .i64 j) := by have h := C8.out.cell hlt; unfold tmF at h; rw [if_neg (Nat.lt_irrefl _), if_pos rfl] at h; exact h
                           have f8 := C8.out.frozen hlt
                           clear hb8)
              have CN := Lib.hid ((C8.out.set_ hlt (.int .i64 ((j : Int) + 1))).congr (f' := tmF L k ((j + 1 : Nat) : Int)) (fun i _ => by
                unfold tmF
                by_cases h1 : i = k
                · subst h1; rw [if_pos rfl, if_neg (Nat.lt_irrefl _), if_pos rfl]; rfl
                · rw [if_neg h1, if_neg h1, if_neg h1]))
              have MN := Lib.hid (show MapS (w8.setCell ⟨gT, k, none⟩ (.int .i64 ((j : Int) + 1))) g3 (allL a b (ks.drop (k + 1)) t) from MapS.kept M8.out (grown_set _ _ _) (fun e => by injection e with e; exact absurd e (by show g3 ≠ gT; omega)))
              have GN := gs_set (k := k) G8 hgw (.int .i64 ((j : Int) + 1))
              go_roundw
              case rel => exact ⟨j + 1, by omega, rfl, CN.out, MN.out, GN.out⟩
              case measure =>
                have h1 := CN.out.cell hlt
                have h2 := HC.out.cell hlt
                unfold tmF at h1 h2
                rw [if_neg (Nat.lt_irrefl _), if_pos rfl] at h1 h2
                rw [h1, h2]
                simp only [Option.getD_some, intOf, Int.toNat_natCast]
                omega
      · obtain rfl : k = n := by omega
        have HCF := Lib.hid (HC.out.congr (f' := digF L) fun j hj => by unfold tmF; rw [if_pos hj])
        go_wp2_with fail
        go_ret2
        rw [HF.out, HZ.out]
        exact ⟨some ⟨gT, 0, none⟩, k, by rw [HLL.out]; rfl, ⟨by rw [HLL.out]; omega, .inr ⟨gT, rfl, by omega, HC.out.lt, by rw [HLL.out]; exact HCF.out⟩⟩, G.out.bel⟩

end Go.Proofs.Ytkmgmlgjflnbeaa

namespace Go.Proofs.Ytkmgmlgjflnbeaa
open Go.ChangeShapes Go.WideShapes Go.ChangeAt Go.RowKit Go.Joins

def fwZ (a b : Int) (ks : List (List Int)) (s t : ByteArray) : Int := ((fkT a b ks s t).length : Int)

theorem fk_no {a b : Int} {ks : List (List Int)} {s t : ByteArray} (h : fkB a b ks s t = false) : fwZ a b ks s t = 0 := by unfold fwZ fkT; rw [h]; rfl

theorem far_ent (a b : Int) (ks : List (List Int)) (s t : ByteArray) : farV a b (allL a b ks s) (nmN a b t) = match entT a b ks s t with
    | some e => (e.way.length : Int)
    | none => -1 := rfl

/-- Gears and two codes. -/
def gtB (a b : Int) (ks : List (List Int)) (s t : ByteArray) : Bool := gcB a b ks s && isCodeB a b t

theorem gt_fk {a b : Int} {ks : List (List Int)} {s t : ByteArray} (h : gtB a b ks s t = false) : fkB a b ks s t = false := by
  unfold gtB at h
  unfold fkB
  cases h1 : gcB a b ks s
  · rfl
  · rw [h1, Bool.true_and] at h
    unfold askB
    rw [h, Bool.and_false]
    rfl

theorem gt_yes {a b : Int} {ks : List (List Int)} {s t : ByteArray} (h : gtB a b ks s t = true) : gcB a b ks s = true ∧ askB a b t = true := by
  unfold gtB at h
  rw [Bool.and_eq_true] at h
  refine ⟨h.1, ?_⟩
  unfold askB
  rw [(gearsB_yes (gcB_yes h.1).1).1, h.2]
  rfl

theorem joTwo_any (a b : Int) (s t : ByteArray) (A : Option Addr) (n c : Nat) (ks : List (List Int)) (w : World) (hm : n + lensAt ks n ≤ 1048576) (hs : s.size ≤ maxLen) (ht : t.size ≤ maxLen) (hA : KnobsC w A n ks) :
    Calls Try.prog 14 #[.agg #[.int .i64 a, .int .i64 b, .slice A n c], .string s, .string t] w fun e w' => e = .returned (.bool (gtB a b ks s t)) ∧ Below w.heap.size w w' := by
  have HS := Lib.hid hs
  have HT := Lib.hid ht
  have HA := Lib.hid hA
  have G0 := gs_new w a b A n c
  clear hA hs ht
  obtain ⟨u, HU⟩ : ∃ u, Hid (gcB a b ks s = u) := ⟨_, Lib.hid rfl⟩
  rcases u with _ | _
  · go_enter Try.func14, Try.ntmps14
    go_wp2_with (go_at_call 25; refine (joCode_any _ _ _ _ _ _ ks _ hm HS.out (HA.out.below G0.out.bel)).mono ?_; rw [HU.out]; rintro e w1 ⟨rfl, hb1⟩)
    go_ret
    exact ⟨ret_bool (by unfold gtB; rw [HU.out]; rfl), bel_call G0.out.bel hb1⟩
  · have HG := Lib.hid (gearsB_yes (gcB_yes HU.out).1).1
    go_enter Try.func14, Try.ntmps14
    go_wp2_with (first
      | (go_at_call 25; refine (joCode_any _ _ _ _ _ _ ks _ hm HS.out (HA.out.below G0.out.bel)).mono ?_; rw [HU.out]; rintro e w1 ⟨rfl, hb1⟩
         have G1 := gs_call G0 hb1
         have l0 := gs_0 G1
         have l1 := gs_1 G1
         clear hb1)
      | (go_at_call 26; refine (whCode_any _ _ _ _ HT.out HG.out).mono ?_; rintro e w2 ⟨rfl, hb2⟩))
    go_ret
    exact ⟨ret_bool (by unfold gtB; rw [HU.out, Bool.true_and]), bel_call G1.out.bel hb2⟩

end Go.Proofs.Ytkmgmlgjflnbeaa

namespace Go.Proofs.Ytkmgmlgjflnbeaa
set_option maxRecDepth 100000
open Go.ChangeShapes Go.WideShapes Go.ChangeAt Go.RowKit Go.Joins

theorem l1OwnR_any (A : Option Addr) (n c : Nat) (xs : List Int) (w : World) (hn : n ≤ 1048576) (hA : IntsA w A n xs) :
    Calls Try.prog 30 #[.slice A n c] w fun e w' => ∃ v, e = .returned v ∧ w'.ownsRow w.heap.size 3 1 v n (iv xs) ∧ w.heap.size ≤ w'.heap.size ∧ Below w.heap.size w w' := by
  obtain ⟨i0, hi, hy0, hy1, hy2⟩ := info_parts info_int
  have HL := Lib.hid hA.len
  have HO := Lib.hid (World.ownsRow_made (base := w.heap.size) (e := 3) (size := 1) w #[] 0 (Nat.le_refl _) (by unfold maxLen; omega) rfl)
  have HB0 := Lib.hid ((Below.refl w.heap.size w).alloc (Nat.le_refl _) (.cells #[] 3))
  rcases A with _ | ad
  · have h0 : n = 0 := by
      rcases hA.at_ with h | ⟨_, _, e, _⟩
      · exact h
      · cases e
    subst h0
    have hx : xs = [] := List.eq_nil_of_length_eq_zero HL.out
    subst hx
    clear hA
    go_enter Try.func30, Try.ntmps30
    go_wp2_with fail
    go_ret
    exact ⟨_, rfl, HO.out, HB0.out.size, HB0.out⟩
  · have HN : Hid (∀ j u, (iv xs)[j]? = some u → (w.alloc (.cells #[] 3)).cell? (ad.add j) = some u) := Lib.hid (by
      rcases hA.at_ with h0 | ⟨b, off, e, hb, hc⟩
      · intro j u hu
        have : xs = [] := List.eq_nil_of_length_eq_zero (by rw [hA.len, h0])
        subst this
        simp [iv] at hu
      · cases e
        exact iv_news hA.len (fun k hk => by rw [World.cell?_alloc_lt _ _ _ hb]; exact hc k hk))
    clear hA
    go_enter Try.func30, Try.ntmps30
    go_wp2_with (at_builtin; refine wpList_append_own _ rfl _ _ 28 rfl w.heap.size 3 i0 (.int .i64 0) 1 8 Try.underlying28 hi hy0 hy1 hy2 rfl (by decide) _ _ _ rfl HO.out ad n c (iv xs) rfl (by simp [iv]; have := HL.out; omega) HN.out (iv_one _) (by unfold maxLen; omega) (by omega) (by simp) ?_; intro v' w1 hown' hgrow hiff)
    have HB1 := Lib.hid (HB0.out.grown hgrow HB0.out.size (fun j hj => (HO.out.lt j hj).1))
    go_ret
    exact ⟨_, rfl, by simpa using hown', HB1.out.size, HB1.out⟩

theorem cellsI {w : World} {x : Int} {t : TypeId} {g : Nat} (hg : g = w.heap.size) : Cells (w.alloc (.cells #[.int .i64 x] t)) g 1 (fun _ => .int .i64 x) := by
  subst hg
  refine ⟨by simp, fun j hj => ?_⟩
  rw [World.cell?_alloc_new, World.frozen?_alloc_new]
  obtain rfl : j = 0 := by omega
  exact ⟨rfl, rfl⟩

theorem newsI {w : World} {x : Int} {g : Nat} (h : Cells w g 1 (fun _ => .int .i64 x)) : ∀ j u, ([.int .i64 x] : List Value)[j]? = some u → w.cell? ((⟨g, 0, none⟩ : Addr).add j) = some u := by
  intro j u hu
  have hj : j < 1 := (List.getElem?_eq_some_iff.1 hu).1
  obtain rfl : j = 0 := by omega
  injection hu with hu
  subst hu
  have ha : (⟨g, 0, none⟩ : Addr).add 0 = ⟨g, 0, none⟩ := by unfold Addr.add; split <;> simp_all
  rw [ha, h.cell (by omega)]

/-- What the model goes on to: the list that is begun, and the rest; or nothing. -/
def GoesOn (w : World) (b : Int) (B : Nat) (P : List Int) (r : List (List Int)) (x t : ByteArray) (e : Ending) (w' : World) : Prop :=
  (∃ (L : List Int) (A : Option Addr) (c : Nat), TP b r x t L ∧ e = .returned (.tuple #[.slice A (P ++ L).length c, .bool true]) ∧ LI w' B w'.heap.size A (P ++ L) ∧ Below w.heap.size w w') ∨
  (¬ ReachK b r x t ∧ e = .returned (.tuple #[.slice none 0 0, .bool false]) ∧ Below w.heap.size w w')

theorem GoesOn.put {w : World} {b : Int} {B : Nat} {P : List Int} {r : List (List Int)} {x t : ByteArray} {e : Ending} {w' : World} {m : Nat} {L : List Int} {A : Option Addr} {c : Nat}
    (h1 : TP b r x t L) (he : e = .returned (.tuple #[.slice A m c, .bool true])) (hm : m = (P ++ L).length) (h2 : LI w' B w'.heap.size A (P ++ L)) (h3 : Below w.heap.size w w') : GoesOn w b B P r x t e w' :=
  .inl ⟨L, A, c, h1, by rw [he, hm], h2, h3⟩

set_option maxHeartbeats 40000000 in
theorem joTimes_any (a b : Int) (t : ByteArray) (b0 off n c : Nat) (hcap : n ≤ c) (ks : List (List Int)) (hn5 : n ≤ 5) (hN : ks.length = n) (hK : KnobsB a b ks) (hTA : askB a b t = true) (hc1 : cntN a b ≤ 1000) :
    ∀ (d : Nat) (x : ByteArray) (P : List Int) (Ab : Option Addr) (cb B : Nat) (w : World), P.length + d = n → askB a b x = true → (0 < d ∨ x = t) → B ≤ w.heap.size → LI w B w.heap.size Ab P → KnobsC w (some ⟨b0, off, none⟩) n ks →
    Calls Try.prog 15 #[.agg #[.int .i64 a, .int .i64 b, .slice (some ⟨b0, off, none⟩) n c], .string x, .string t, .slice Ab P.length cb] w (GoesOn w b B P (ks.drop P.length) x t) := by
  have HN := Lib.hid hN
  have HK := Lib.hid hK
  have HTA := Lib.hid hTA
  have hb10 : 2 ≤ b ∧ b ≤ 10 := by have := good_yes (asked hTA).good; omega
  clear hN hK hTA
  intro d
  induction d with
  | zero =>
    intro x P Ab cb B w hd hx hxt hB hL hA
    obtain rfl : x = t := hxt.resolve_left (by omega)
    have G0 := gs_new w a b (some ⟨b0, off, none⟩) n c
    have l2 := gs_2 G0
    have HL := Lib.hid hL
    obtain ⟨i, hi⟩ : ∃ i, P.length = i := ⟨_, rfl⟩
    have HI := Lib.hid hi
    have hin : i = n := by omega
    subst hin
    rw [hi]
    clear hL hA hd hi
    go_enter Try.func15, Try.ntmps15
    go_wp2_with fail
    go_ret2
    refine .inl ⟨[], Ab, cb, by rw [← HI.out, List.drop_of_length_le (by rw [HN.out, HI.out]; exact Nat.le_refl _)]; exact ⟨rfl, rfl⟩, by rw [List.append_nil, HI.out]; simp, ?_, G0.out.bel⟩
    rw [List.append_nil]
    exact (HL.out.call G0.out.bel).wide (Nat.le_refl _) G0.out.bel.size
  | succ d ih =>
    intro x P Ab cb B w hd hx hxt hB hL hA
    have HX := Lib.hid hx
    have HA := Lib.hid hA
    have HL := Lib.hid hL
    have G0 := gs_new w a b (some ⟨b0, off, none⟩) n c
    have l0 := gs_0 G0
    have l1 := gs_1 G0
    have l2 := gs_2 G0
    obtain ⟨i, hi⟩ : ∃ i, P.length = i := ⟨_, rfl⟩
    have HI := Lib.hid hi
    rw [hi] at hd ⊢
    have hin : i < n := by omega
    have hine : ((i : Int) == (n : Int)) = false := by rw [beq_eq_false_iff_ne]; omega
    have hik : i < ks.length := by rw [HN.out]; exact hin
    obtain ⟨y, hy⟩ : ∃ y, ks.getD i [] = y := ⟨_, rfl⟩
    have HY := Lib.hid hy
    have HDC : Hid (ks.drop i = y :: ks.drop (i + 1)) := Lib.hid (by rw [drop_cons hik, hy])
    have HKY := Lib.hid (show knobB a b y = true by rw [← hy]; exact HK.out i hik)
    have HKD := Lib.hid (knobs_drop HK.out (i + 1))
    have hk1 : i + 1 ≤ n := by omega
    have hk2 : (0 : Int) ≤ (i : Int) + 1 := by omega
    have hk3 : (i : Int) + 1 ≤ (n : Int) := by omega
    have hwk : IntKind.i64.wrap ((i : Int) + 1) = ((i + 1 : Nat) : Int) := by rw [IntKind.wrap_i64]; omega
    obtain ⟨a1, ha1⟩ : ∃ a1 : Addr, (if c = i + 1 then some (⟨b0, off, none⟩ : Addr) else some ⟨b0, off + (i + 1), none⟩) = some a1 := by split <;> exact ⟨_, rfl⟩
    have HAD := Lib.hid (KnobsC.drop HA.out hk1 hcap ha1)
    clear hL hA hx hxt hi hy hik
    go_enter Try.func15, Try.ntmps15
    go_wp2_with fail
    go_cut [10] from 23 to 31 (fun v10 wx => v10 = .pointer (some ⟨w.heap.size + 1, 0, none⟩) ∧ Cells wx (w.heap.size + 1) 3 (gF a b (.slice (some a1) (n - (i + 1)) (c - (i + 1)))) ∧ GS w wx a b (some ⟨b0, off, none⟩) n c)
    case first =>
      go_region_law (fail)
      all_goals
        go_wp2_with fail
        try go_simp
        have GW := gs_drew (gs_alloc G0 (.cells #[.int .i64 a, .int .i64 b, .slice (some a1) (n - (i + 1)) (c - (i + 1))] 33))
        have CR : Cells ((w.alloc (.cells #[.int .i64 a, .int .i64 b, .slice (some ⟨b0, off, none⟩) n c] 33)).alloc (.cells #[.int .i64 a, .int .i64 b, .slice (some a1) (n - (i + 1)) (c - (i + 1))] 33)).drew (w.heap.size + 1) 3 (gF a b (.slice (some a1) (n - (i + 1)) (c - (i + 1)))) := (Cells.new (n := 3) (by simp) rfl).drew
        go_meet
        exact ⟨rfl, CR, GW.out⟩
    case rest =>
      obtain ⟨rfl, CR, GW⟩ := hcut
      go_wp2_with fail
      go_loopw [11] (fun v wr => ∃ j : Nat, (j : Int) ≤ b ∧ v = .int .i64 j ∧ (∀ j' : Nat, j' < j → ¬ ReachK b (ks.drop (i + 1)) (turnK b j' x y) t) ∧ Cells wr (w.heap.size + 1) 3 (gF a b (.slice (some a1) (n - (i + 1)) (c - (i + 1)))) ∧ GS w wr a b (some ⟨b0, off, none⟩) n c) (fun v _ => b.toNat - (intOf v).toNat)
      case atStart => exact ⟨0, by omega, rfl, fun _ h => absurd h (Nat.not_lt_zero _), CR, GW⟩
      case round =>
        clear CR GW G0 l0 l1 l2
        obtain ⟨j, hjb, rfl, hno, hC, hG⟩ := hrel
        have HNO := Lib.hid hno
        have HC := Lib.hid hC
        have G := Lib.hid hG
        have l0 := gs_0 G
        have l1 := gs_1 G
        have l2 := gs_2 G
        have r0 : wr.cell? ⟨w.heap.size + 1, 0, none⟩ = some (.int .i64 a) := HC.out.cell (show 0 < 3 by omega)
        have r1 : wr.cell? ⟨w.heap.size + 1, 1, none⟩ = some (.int .i64 b) := HC.out.cell (show 1 < 3 by omega)
        have r2 : wr.cell? ⟨w.heap.size + 1, 2, none⟩ = some (.slice (some a1) (n - (i + 1)) (c - (i + 1))) := HC.out.cell (show 2 < 3 by omega)
        clear hno hC hG
        by_cases hlt : (j : Int) < b
        · have HYN : Hid (numZ a b t = (nmN a b t : Int)) := Lib.hid (nmN_cast HTA.out).symm
          have hyn := nmN_lt HTA.out
          obtain ⟨yn, hyne⟩ : ∃ yn, nmN a b t = yn := ⟨_, rfl⟩
          obtain ⟨z, hz⟩ : ∃ z, turnK b (j : Int) x y = z := ⟨_, rfl⟩
          have HZE := Lib.hid hz
          have HZA : Hid (askB a b z = true) := Lib.hid (by rw [← hz]; exact turnK_ask HX.out HKY.out)
          obtain ⟨M, hMe⟩ : ∃ M, cntN a b = M := ⟨_, rfl⟩
          have HM := Lib.hid hMe
          have hcM : M ≤ 1000 := by rw [← hMe]; exact hc1
          obtain ⟨fv, hfv⟩ : ∃ fv, farV a b (allL a b (ks.drop (i + 1)) z) yn = fv := ⟨_, rfl⟩
          have HFV := Lib.hid hfv
          have HRF : Hid ((0 ≤ fv ∧ ReachK b (ks.drop (i + 1)) z t) ∨ (fv < 0 ∧ ¬ ReachK b (ks.drop (i + 1)) z t)) := Lib.hid (by
            rw [← hfv, ← hyne]
            by_cases hr : ReachK b (ks.drop (i + 1)) z t
            · exact .inl ⟨farV_in (allL_all HKD.out HZA.out).nodup (allL_ask HKD.out HZA.out) (((allL_all HKD.out HZA.out).reach rfl).2 hr), hr⟩
            · exact .inr ⟨by rw [farV_out (allL_ask HKD.out HZA.out) HTA.out (fun h => hr (((allL_all HKD.out HZA.out).reach rfl).1 h))]; omega, hr⟩)
          have HKYi := Lib.hid (show knobB a b (ks.getD i []) = true by rw [HY.out]; exact HKY.out)
          rw [hyne] at HYN hyn
          rw [hMe] at hyn
          clear hyne hz hMe hfv
          rcases HRF.out with ⟨hf, hr⟩ | ⟨hf, hr⟩
          · have HRZ := Lib.hid hr
            have IH := ih z (P ++ [(j : Int)])
            rw [show (P ++ [(j : Int)]).length = i + 1 by rw [List.length_append, HI.out]; rfl] at IH
            have HIH := Lib.hid IH
            have HPI : Hid (∀ W : World, Below w.heap.size w W → IntsA W Ab i P) := Lib.hid (fun W hb => by have h := (HL.out.call hb).ints; rw [HI.out] at h; exact h)
            have hdi : i + 1 + d = n := by omega
            have HZT : Hid (0 < d ∨ z = t) := Lib.hid (by
              rcases Nat.eq_zero_or_pos d with h0 | h0
              · right
                have h1 : ks.drop (i + 1) = [] := List.drop_of_length_le (by rw [HN.out]; omega)
                rw [h1] at hr
                exact ReachK.none.1 hr
              · exact .inl h0)
            obtain ⟨i0, hi0, hy0, hy1, hy2⟩ := info_parts info_int
            clear hr IH
            go_upto_region 8 with (go_at_call 27; refine (joTurn_any _ _ _ _ _ _ _ _ ks _ hin (HA.out.below G.out.bel) HX.out HKYi.out (by omega)).mono ?_; rw [HY.out, HZE.out]; rintro e w4 ⟨rfl, hb4⟩; have G4 := gs_call G hb4; have C4 := hc_call HC hb4; have k0 := gs_0 G4; have k1 := gs_1 G4; have k2 := gs_2 G4; have s0 : w4.cell? ⟨w.heap.size + 1, 0, none⟩ = some (.int .i64 a) := C4.out.cell (show 0 < 3 by omega); have s1 : w4.cell? ⟨w.heap.size + 1, 1, none⟩ = some (.int .i64 b) := C4.out.cell (show 1 < 3 by omega); have s2 : w4.cell? ⟨w.heap.size + 1, 2, none⟩ = some (.slice (some a1) (n - (i + 1)) (c - (i + 1))) := C4.out.cell (show 2 < 3 by omega); clear hb4)
            clear l0 l1 l2 r0 r1 r2
            go_cut [54] from 45 to 54 (fun v54 wx => v54 = .bool true ∧ Below w4.heap.size w4 wx)
            case first =>
              go_region_with (first
                | (go_at_call 28; refine (joFar_any _ _ _ _ _ _ (ks.drop (i + 1)) _ (by omega) (HAD.out.below (gs_drew G4).out.bel) HZA.out HKD.out (by rw [HM.out]; exact hcM)).mono ?_; rw [HM.out]; rintro e w5 ⟨g5, rfl, hg5, hC5, hb5⟩
                   have HB5 : Hid (Below w4.heap.size w4 w5) := Lib.hid (below_undrew hb5)
                   have G5 := gs_call G4 HB5.out
                   have q0 := gs_0 G5
                   have q1 := gs_1 G5
                   have HCA := Lib.hid hC5
                   have z1 := (HCA.out.cell hyn)
                   rw [HFV.out] at z1
                   clear hC5 hb5)
                | (go_at_call 29; refine (whNumber_any _ _ _ _ HTA.out).mono ?_; rw [HYN.out]; rintro e w6 ⟨rfl, hb6⟩
                   have z2 := (HCA.out.call hb6).cell hyn
                   rw [HFV.out] at z2))
              all_goals
                have HB6 := bel_call HB5.out hb6
                go_wp2_with fail
                go_meet
                exact ⟨by first | rfl | exact congrArg Value.bool (decide_eq_true (by omega)), HB6⟩
            case rest =>
              obtain ⟨rfl, hb6⟩ := hcut
              have GX := gs_call G4 hb6
              have p0 := gs_0 GX
              have p1 := gs_1 GX
              have p2 := gs_2 GX
              clear hb6 k0 k1 k2 s0 s1 s2
              go_wp2_with fail
              have GD := gs_drew GX
              have GA := gs_alloc GD (.cells #[.int .i64 (j : Int)] 3)
              have XA := Lib.hid (cellsI (w := wc.drew) (x := (j : Int)) (t := 3) (g := wc.heap.size) rfl)
              have ga0 := gs_0 GA
              have ga1 := gs_1 GA
              have ga2 := gs_2 GA
              have hwc := GX.out.bel.size
              have hx6 := GX.out.box.lt
              go_region_law (first
                | (go_simp; go_at_call 30; refine (l1OwnR_any _ _ _ P _ (by omega) (HPI.out _ GD.out.bel)).mono ?_; rintro e w7 ⟨v7, rfl, hO7, hz7, hb7⟩
                   have G7 := gs_call GD hb7
                   have G8 := gs_alloc G7 (.cells #[.int .i64 (j : Int)] 3)
                   have XX := Lib.hid (cellsI (w := w7) (x := (j : Int)) (t := 3) (g := w7.heap.size) rfl)
                   have u0 := gs_0 G7
                   have u1 := gs_1 G7
                   have u2 := gs_2 G7
                   have v0 := gs_0 G8
                   have v1 := gs_1 G8
                   have v2 := gs_2 G8
                   obtain ⟨bs, hbl, hbu, ho⟩ : ∃ bs, wc.heap.size ≤ bs ∧ bs ≤ (w7.alloc (.cells #[.int .i64 (j : Int)] 3)).heap.size ∧ (w7.alloc (.cells #[.int .i64 (j : Int)] 3)).ownsRow bs 3 1 v7 i (iv P) := ⟨_, Nat.le_refl _, Nat.le_trans hz7 (by rw [World.size_alloc]; exact Nat.le_succ _), hO7.alloc _⟩
                   have HO := Lib.hid ho
                   clear hO7 hz7 hb7 ho)
                | (go_simp; go_at_call 30; refine (l1OwnR_any _ _ _ P _ (by omega) (HPI.out _ GA.out.bel)).mono ?_; rintro e w7 ⟨v7, rfl, hO7, hz7, hb7⟩
                   have G8 := gs_call GA hb7
                   have XX := Lib.hid (XA.out.call hb7)
                   have u0 := gs_0 G8
                   have u1 := gs_1 G8
                   have u2 := gs_2 G8
                   obtain ⟨bs, hbl, hbu, ho⟩ : ∃ bs, wc.heap.size ≤ bs ∧ bs ≤ w7.heap.size ∧ w7.ownsRow bs 3 1 v7 i (iv P) := ⟨_, by rw [World.size_alloc]; exact Nat.le_succ _, hz7, hO7⟩
                   have HO := Lib.hid ho
                   clear hO7 hz7 hb7 ho)
                | (refine step_append_at rfl (.tmp 59) (.tmp 61) 28 rfl bs 3 i0 (.int .i64 0) 1 8 Try.underlying28 hi0 hy0 hy1 hy2 rfl (by decide) v7 i (iv P) rfl HO.out ⟨_, 0, none⟩ 1 1 [.int .i64 (j : Int)] rfl rfl (newsI XX.out) (by simp [Value.oneCell']) (by unfold maxLen; omega) (by omega) hbu ?_; intro v8 w8 hown8 hgrow8 hblk8
                   have hOb := HO.out.lt
                   have G9 := gs_grown G8 hgrow8 (fun e => by have := (hOb _ e.symm).1; omega) (fun g e => by have := (hOb g e).1; omega)
                   have x0 := gs_0 G9
                   have x1 := gs_1 G9
                   have x2 := gs_2 G9
                   obtain ⟨A8, c8, hv8, hL8⟩ := LI.of_row (xs := P ++ [(j : Int)]) (by rw [List.length_append, HI.out]; simpa [iv] using hown8) (by rw [List.length_append, HI.out]; simp; omega)
                   rw [show (P ++ [(j : Int)]).length = i + 1 by rw [List.length_append, HI.out]; rfl] at hv8
                   subst hv8
                   have L8 := Lib.hid (hL8.wide (lo2 := B) (by omega) (Nat.le_refl _))
                   clear hown8 hgrow8 hblk8 hOb hL8)
                | (go_simp; go_at_call 15; refine (HIH.out _ _ B _ hdi HZA.out HZT.out (by have := G9.out.bel.size; omega) L8.out (HA.out.below G9.out.bel)).mono ?_; intro e w9 h9
                   obtain ⟨L9, A9, c9, hTP9, rfl, hL9, hb9⟩ := h9.resolve_right (fun h => h.1 HRZ.out)
                   have TP9 := Lib.hid hTP9
                   have LF := Lib.hid hL9
                   have GF := gs_call G9 hb9
                   clear h9 hTP9 hL9 hb9))
              all_goals
                go_wp2_with fail
                go_ret2
                have happ : P ++ [(j : Int)] ++ L9 = P ++ (j : Int) :: L9 := by simp
                rw [happ] at LF
                exact GoesOn.put (m := P.length + (L9.length + 1)) (L := (j : Int) :: L9) (A := A9) (c := c9) (by rw [HDC.out]; exact ⟨j, L9, rfl, hlt, by rw [HZE.out]; exact HRZ.out, HNO.out, by rw [HZE.out]; exact TP9.out⟩) rfl (by simp) LF.out GF.out.bel
          · have HNR := Lib.hid hr
            clear hr
            go_wp2_with (go_at_call 27; refine (joTurn_any _ _ _ _ _ _ _ _ ks _ hin (HA.out.below G.out.bel) HX.out HKYi.out (by omega)).mono ?_; rw [HY.out, HZE.out]; rintro e w4 ⟨rfl, hb4⟩
                         have GX := gs_call G hb4
                         have CX := hc_call HC hb4
                         have k0 := gs_0 GX
                         have k1 := gs_1 GX
                         have k2 := gs_2 GX
                         have s0 : w4.cell? ⟨w.heap.size + 1, 0, none⟩ = some (.int .i64 a) := CX.out.cell (show 0 < 3 by omega)
                         have s1 : w4.cell? ⟨w.heap.size + 1, 1, none⟩ = some (.int .i64 b) := CX.out.cell (show 1 < 3 by omega)
                         have s2 : w4.cell? ⟨w.heap.size + 1, 2, none⟩ = some (.slice (some a1) (n - (i + 1)) (c - (i + 1))) := CX.out.cell (show 2 < 3 by omega)
                         clear hb4)
            go_region_with (first
              | (go_at_call 28; refine (joFar_any _ _ _ _ _ _ (ks.drop (i + 1)) _ (by omega) (HAD.out.below (by first | exact GX.out.bel | exact (gs_drew GX).out.bel)) HZA.out HKD.out (by rw [HM.out]; exact hcM)).mono ?_; rw [HM.out]; rintro e w5 ⟨g5, rfl, hg5, hC5, hb5⟩
                 have GY := gs_call (by first | exact GX | exact gs_drew GX) hb5
                 have CY := hc_call (by first | exact CX | exact hc_drew CX) hb5
                 clear GX CX
                 have GX := GY
                 have CX := CY
                 clear GY CY
                 have q0 := gs_0 GX
                 have q1 := gs_1 GX
                 have q2 := gs_2 GX
                 have HCA := Lib.hid hC5
                 have z1 := (HCA.out.cell hyn)
                 rw [HFV.out] at z1
                 clear hC5)
              | (go_at_call 29; refine (whNumber_any _ _ _ _ HTA.out).mono ?_; rw [HYN.out]; rintro e w6 ⟨rfl, hb6⟩
                 have GY := gs_call (by first | exact GX | exact gs_drew GX) hb6
                 have CY := hc_call (by first | exact CX | exact hc_drew CX) hb6
                 clear GX CX
                 have GX := GY
                 have CX := CY
                 clear GY CY
                 have p0 := gs_0 GX
                 have p1 := gs_1 GX
                 have p2 := gs_2 GX
                 have t0 : w6.cell? ⟨w.heap.size + 1, 0, none⟩ = some (.int .i64 a) := CX.out.cell (show 0 < 3 by omega)
                 have t1 : w6.cell? ⟨w.heap.size + 1, 1, none⟩ = some (.int .i64 b) := CX.out.cell (show 1 < 3 by omega)
                 have t2 : w6.cell? ⟨w.heap.size + 1, 2, none⟩ = some (.slice (some a1) (n - (i + 1)) (c - (i + 1))) := CX.out.cell (show 2 < 3 by omega)
                 try have z2 := ((hc_call (by first | exact HCA | exact hc_drew HCA) hb6).out.cell hyn); rw [HFV.out] at z2))
            all_goals
              go_wp2_with fail
              go_roundw
              case rel =>
                refine ⟨j + 1, by omega, by go_num, fun j' h => ?_, ?_, ?_⟩
                · by_cases e : j' = j
                  · rw [e, HZE.out]; exact HNR.out
                  · exact HNO.out j' (by omega)
                · first | exact CX.out | exact (hc_drew CX).out
                · first | exact GX.out | exact (gs_drew GX).out
              case measure => simp [intOf] <;> omega
        · have hje : (j : Int) = b := by omega
          have HNR : Hid (¬ ReachK b (ks.drop i) x t) := Lib.hid (fun h => by
            rw [HDC.out] at h
            have hk0 : KnobsB a b (y :: ks.drop (i + 1)) := by rw [← HDC.out]; exact knobs_drop HK.out i
            obtain ⟨m, h1, h2⟩ := ReachK.first hk0 HX.out h
            exact HNO.out m (by omega) h2)
          go_wp2_with fail
          go_ret2
          exact .inr ⟨HNR.out, rfl, G.out.bel⟩

theorem fk_of {a b : Int} {ks : List (List Int)} {s t : ByteArray} (h : gtB a b ks s t = true) (hr : ReachK b ks s t) : fkB a b ks s t = true := by
  obtain ⟨h1, h2⟩ := gt_yes h
  have hy := gcB_yes h1
  unfold fkB
  rw [h1, h2]
  cases hent : entT a b ks s t with
  | none => exact absurd (((allL_all (gears_knobs hy.1) hy.2).reach rfl).2 hr) (entT_none hent)
  | some e => rfl

set_option maxHeartbeats 4000000 in
theorem specTimesFor_any (a b : Int) (s t : ByteArray) (A : Option Addr) (n c : Nat) (hcap : n ≤ c) (ks : List (List Int)) (w : World) (hm : n + lensAt ks n ≤ 1048576) (hs : s.size ≤ maxLen) (ht : t.size ≤ maxLen) (hA : KnobsC w A n ks) :
    Calls Try.prog 5 #[.agg #[.int .i64 a, .int .i64 b, .slice A n c], .string s, .string t] w (IntsL w (tmZ a b ks s t) (fkB a b ks s t)) := by
  have HS := Lib.hid hs
  have HT := Lib.hid ht
  have HA := Lib.hid hA
  have HN := Lib.hid hA.len
  have G0 := gs_new w a b A n c
  clear hA hs ht
  obtain ⟨u, HU⟩ : ∃ u, Hid (gtB a b ks s t = u) := ⟨_, Lib.hid rfl⟩
  rcases u with _ | _
  · have HF := Lib.hid (gt_fk HU.out)
    have HZ : Hid (tmZ a b ks s t = []) := Lib.hid (by unfold tmZ; rw [HF.out]; rfl)
    go_enter Try.func5, Try.ntmps5
    go_wp2_with (go_at_call 14; refine (joTwo_any _ _ _ _ _ _ _ ks _ hm HS.out HT.out (HA.out.below G0.out.bel)).mono ?_; rw [HU.out]; rintro e w1 ⟨rfl, hb1⟩)
    go_ret2
    rw [HF.out, HZ.out]
    exact ints_none (bel_call G0.out.bel hb1)
  · have HGC := Lib.hid (gt_yes HU.out)
    have HGY := Lib.hid (gcB_yes HGC.out.1)
    have HK := Lib.hid (gears_knobs HGY.out.1)
    obtain ⟨hc1, _⟩ := gears_cnt HGY.out.1
    have hn5 : n ≤ 5 := by have := (gearsB_yes HGY.out.1).2.2.2.1; have := HN.out; omega
    have hn1 : 1 ≤ n := by have := (gearsB_yes HGY.out.1).2.2.1; have := HN.out; omega
    obtain ⟨b0, off, rfl, _⟩ := HA.out.at_.resolve_left (by omega)
    go_enter Try.func5, Try.ntmps5
    go_wp2_with (go_at_call 14; refine (joTwo_any _ _ _ _ _ _ _ ks _ hm HS.out HT.out (HA.out.below G0.out.bel)).mono ?_; rw [HU.out]; rintro e w1 ⟨rfl, hb1⟩; have G1 := gs_call G0 hb1; have l0 := gs_0 G1; have l1 := gs_1 G1; have l2 := gs_2 G1; clear hb1)
    refine (joTimes_any a b t b0 off n c hcap ks hn5 HN.out HK.out HGC.out.2 hc1 n s [] none 0 w1.heap.size w1 (by simp) HGY.out.2 (.inl hn1) (Nat.le_refl _) ⟨by simp, .inl rfl⟩ (HA.out.below G1.out.bel)).mono ?_
    intro e w2 h2
    rcases h2 with ⟨L, A2, c2, hTP, rfl, hL2, hb2⟩ | ⟨hnr, rfl, hb2⟩
    · have hTP : TP b ks s t L := hTP
      have hre := TP.reach HK.out HGY.out.2 hTP
      have HF := Lib.hid (fk_of HU.out hre)
      have HZ : Hid (tmZ a b ks s t = L) := Lib.hid (by unfold tmZ; rw [HF.out, if_pos rfl, tmL_eq hTP])
      have HL2 := Lib.hid hL2
      have X2 := Lib.hid (bel_call G1.out.bel hb2)
      have hwl := G1.out.bel.size
      clear hTP hre hL2 hb2 l0 l1 l2
      go_wp2_with fail
      go_ret2
      rw [HF.out, HZ.out]
      exact ⟨A2, c2, rfl, HL2.out.wide hwl (Nat.le_refl _), X2.out⟩
    · have HF : Hid (fkB a b ks s t = false) := Lib.hid (by
        rw [Bool.eq_false_iff]
        intro h
        exact hnr (fk_reach h).2.2.2)
      have HZ : Hid (tmZ a b ks s t = []) := Lib.hid (by unfold tmZ; rw [HF.out]; rfl)
      have X2 := Lib.hid (bel_call G1.out.bel hb2)
      clear hnr hb2 l0 l1 l2
      go_wp2_with fail
      go_ret2
      rw [HF.out, HZ.out]
      exact ints_none X2.out

end Go.Proofs.Ytkmgmlgjflnbeaa
