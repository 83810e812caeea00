/- The codes one turn away, as the model puts them into a list in order. No conditions. -/
import Derived.Test.YtjghodfdejdjoaaNext
import Derived.Deep.RegionLaw
import Derived.Deep.AppendSrc
namespace Go.Proofs.Ytjghodfdejdjoaa
open Go.ChangeShapes Go.WideShapes Go.ChangeAt Go.RowKit Go.Joins

/-- append onto a row of the call's own, as one step of a region that draws. -/
theorem step_append_own {P : Program} {ops : Array Oper} {o : Oper} {a : Act} {w : World} {K : Act → World → Prop} {Q : Exit → Act → World → Prop} {E : Prop}
    (hg : o.guard = none) (s x : Operand) (t : TypeId) (hop : o.op = Op.call { callee := Callee.builtin Builtin.append, args := #[s, x], argTypes := #[t, t] })
    (base : Nat) (e : TypeId) (i : TypeInfo) (z : Value) (size bytes : Nat) (h1 : P.underlying t = some (.slice e)) (h2 : P.info? e = some i) (h3 : i.zero = some z) (h4 : i.size = size) (h5 : i.bytes = bytes) (h6 : z.cells.size = size) (h7 : 0 < size)
    (v : Value) (n : Nat) (xs : List Value) (hs : a.eval s = v) (hown : w.ownsRow base e size v n xs)
    (ad : Addr) (m c : Nat) (news : List Value) (hx : a.eval x = .slice (some ad) m c) (hn : news.length = m * size) (hc : ∀ j u, news[j]? = some u → w.cell? (ad.add j) = some u) (h1c : ∀ u ∈ news, u.oneCell' = true)
    (b1 : n + m ≤ maxLen) (b2 : (n + m) * bytes ≤ 140737488355328) (hbase : base ≤ w.heap.size)
    (hK : ∀ v' w', w'.ownsRow base e size v' (n + m) (xs ++ news) → w.grownBy w' v.ownBlock → K (a.put o.dst v') w') :
    if Region.wanted o (yielded ops a.tmps) = true then Oper.wp P o a w K Q else E := by
  have hw : Region.wanted o (yielded ops a.tmps) = true := by simp [Region.wanted, hg]
  rw [if_pos hw]
  obtain ⟨v', w', hrun, r1, r2, _⟩ := run_append_own (P := P) w base t o.type e i z size bytes h1 h2 h3 h4 h5 h6 h7 v n xs hown ad m c news hn hc h1c b1 b2 hbase
  unfold Oper.wp
  simp [execOp, hop, resolve, invoke, builtin, hs, hx, hrun, Result.andThen]
  exact hK v' w' r1 r2

/-- append of nothing, likewise. -/
theorem step_append_nil {P : Program} {ops : Array Oper} {o : Oper} {a : Act} {w : World} {K : Act → World → Prop} {Q : Exit → Act → World → Prop} {E : Prop}
    (hg : o.guard = none) (s x : Operand) (t : TypeId) (hop : o.op = Op.call { callee := Callee.builtin Builtin.append, args := #[s, x], argTypes := #[t, t] })
    (e : TypeId) (i : TypeInfo) (h1 : P.underlying t = some (.slice e)) (h2 : P.info? e = some i)
    (b off n cap : Nat) (hs : a.eval s = .slice (some ⟨b, off, none⟩) n cap) (hcap : n ≤ cap) (c : Nat) (hx : a.eval x = .slice none 0 c)
    (hK : K (a.put o.dst (.slice (some ⟨b, off, none⟩) n cap)) w) :
    if Region.wanted o (yielded ops a.tmps) = true then Oper.wp P o a w K Q else E := by
  have hw : Region.wanted o (yielded ops a.tmps) = true := by simp [Region.wanted, hg]
  rw [if_pos hw]
  have hrun := run_append_room_src (P := P) w t t o.type e i h1 h2 b off n cap (.slice none 0 c) 0 [] (Src.ofNil w h1 c) (by omega) (by simp) (by simp)
  have h0 : w.setCells b (off + n * i.size) [] = w := by simp [World.setCells]
  rw [h0] at hrun
  unfold Oper.wp
  simp [execOp, hop, resolve, invoke, builtin, hs, hx, hrun, Result.andThen]
  exact hK

/-- The list that is built: none yet, or cells of a block that is known. -/
def NS (B : Nat) (w : World) (v : Value) (R : List ByteArray) : Prop :=
  (R = [] ∧ v = .slice none 0 0) ∨ (R ≠ [] ∧ ∃ g c, v = .slice (some ⟨g, 0, none⟩) R.length c ∧ R.length ≤ c ∧ B ≤ g ∧ Cells w g R.length (strF R))

theorem NS.keep {B : Nat} {w w' : World} {v : Value} {R : List ByteArray} (h : NS B w v R) (hb : Below w.heap.size w w') : NS B w' v R :=
  h.imp id fun ⟨h1, g, c, h2, h3, h4, h5⟩ => ⟨h1, g, c, h2, h3, h4, h5.call hb⟩

theorem NS.of_own {B : Nat} {w : World} {v : Value} {R : List ByteArray} {t : TypeId} {n : Nat} (h : w.ownsRow B t 1 v n (sv R)) (hR : R ≠ []) : NS B w v R := by
  have hl : R.length = n := by simpa [sv] using h.1
  subst hl
  rcases h.2 with ⟨_, h0⟩ | ⟨g, cap, cur, rfl, hb, hh, hn, hm, hs, ht⟩
  · exact absurd (List.eq_nil_of_length_eq_zero h0) hR
  · refine .inr ⟨hR, g, cap, rfl, hn, hb, (Array.getElem?_eq_some_iff.1 hh).1, fun j hj => ⟨?_, h.frozenAt j⟩⟩
    rw [h.cellAt j (by omega)]
    unfold sv; rw [List.getElem?_map, List.getElem?_eq_getElem (by omega)]
    simp [strF, List.getD, List.getElem?_eq_getElem (show j < R.length by omega)]

theorem sv_app (xs ys : List ByteArray) : sv (xs ++ ys) = sv xs ++ sv ys := by simp [sv]

theorem NS.base {B B' : Nat} {w : World} {v : Value} {R : List ByteArray} (h : NS B w v R) (hB : B' ≤ B) : NS B' w v R :=
  h.imp id fun ⟨h1, g, c, h2, h3, h4, h5⟩ => ⟨h1, g, c, h2, h3, by omega, h5⟩

theorem own_form {w : World} {base : Nat} {e : TypeId} {v : Value} {n : Nat} {xs : List Value} (h : w.ownsRow base e 1 v n xs) (hn : 0 < n) : ∃ g c, v = .slice (some ⟨g, 0, none⟩) n c ∧ n ≤ c := by
  rcases h.2 with ⟨_, h0⟩ | ⟨g, cap, cur, rfl, _, _, hc, _⟩
  · omega
  · exact ⟨g, cap, rfl, hc⟩

theorem cells_x {w : World} {x : ByteArray} {t : TypeId} {g : Nat} (hg : g = w.heap.size) : Cells (w.alloc (.cells #[.string x] t)) g 1 (fun _ => .string x) := by
  subst hg
  refine ⟨by simp, fun j hj => ?_⟩
  rw [World.cell?_alloc_new, World.frozen?_alloc_new]
  obtain rfl : j = 0 := by omega
  exact ⟨rfl, rfl⟩

theorem news_x {w : World} {x : ByteArray} {g : Nat} (h : Cells w g 1 (fun _ => .string x)) : ∀ j u, ([.string x] : List Value)[j]? = some u → w.cell? ((⟨g, 0, none⟩ : Addr).add j) = some u := by
  intro j u hu
  have hj : j < 1 := (List.getElem?_eq_some_iff.1 hu).1
  obtain rfl : j = 0 := by omega
  injection hu with hu
  subst hu
  have ha : (⟨g, 0, none⟩ : Addr).add 0 = ⟨g, 0, none⟩ := by unfold Addr.add; split <;> simp_all
  rw [ha, h.cell (by omega)]

theorem add_lit (g o j : Nat) : (⟨g, o, none⟩ : Addr).add j = ⟨g, o + j, none⟩ := by unfold Addr.add; split <;> simp_all

theorem sv_one (ts : List ByteArray) : ∀ u ∈ sv ts, u.oneCell' = true := by
  intro u hu
  obtain ⟨t, _, rfl⟩ := List.mem_map.1 hu
  rfl

/-- The part of a list ahead of a place, and the part behind it, as they are read. -/
theorem news_take {w : World} {g N j : Nat} {R : List ByteArray} (hN : R.length = N) (hj : j ≤ N) (h : Cells w g N (strF R)) : ∀ i u, (sv (R.take j))[i]? = some u → w.cell? ((⟨g, 0, none⟩ : Addr).add i) = some u := by
  intro i u hu
  unfold sv at hu
  rw [List.getElem?_map] at hu
  have hi : i < j := by
    rcases Nat.lt_or_ge i j with h | h
    · exact h
    · rw [List.getElem?_eq_none (by rw [List.length_take]; omega)] at hu; cases hu
  rw [List.getElem?_take, if_pos hi, List.getElem?_eq_getElem (by omega)] at hu
  injection hu with hu
  subst hu
  rw [add_lit, Nat.zero_add, h.cell (by omega)]
  simp [strF, List.getD, List.getElem?_eq_getElem (show i < R.length by omega)]

theorem news_drop {w : World} {g N j c : Nat} {R : List ByteArray} {A : Addr} (hN : R.length = N) (hj : j ≤ N) (hc : N ≤ c) (hA : (if c = j then some ⟨g, 0, none⟩ else some ⟨g, j, none⟩ : Option Addr) = some A) (h : Cells w g N (strF R)) : ∀ i u, (sv (R.drop j))[i]? = some u → w.cell? (A.add i) = some u := by
  intro i u hu
  unfold sv at hu
  rw [List.getElem?_map, List.getElem?_drop] at hu
  have hi : j + i < N := by
    rcases Nat.lt_or_ge (j + i) N with h | h
    · exact h
    · rw [List.getElem?_eq_none (by omega)] at hu; cases hu
  rw [if_neg (by omega)] at hA
  injection hA with hA
  subst hA
  rw [List.getElem?_eq_getElem (by omega)] at hu
  injection hu with hu
  subst hu
  rw [add_lit, h.cell (by omega)]
  simp [strF, List.getD, List.getElem?_eq_getElem (show j + i < R.length by omega)]

theorem ns_out {w w' : World} {v : Value} {R : List ByteArray} {B : Nat} (h : NS B w' v R) (hn : R.length ≤ 1000) (hB : w.heap.size ≤ B) (hb : Below w.heap.size w w') : StrsOut w R true (.returned (.tuple #[v, .bool true])) w' := by
  rcases h with ⟨rfl, rfl⟩ | ⟨_, g, c, rfl, _, hg, hC⟩
  · exact ⟨none, 0, rfl, ⟨rfl, by decide, .inl rfl⟩, hb⟩
  · exact ⟨_, c, rfl, ⟨rfl, by omega, .inr ⟨g, rfl, by omega, hC⟩⟩, hb⟩

theorem keyL_app (xs ys : List ByteArray) : keyL (xs ++ ys) = keyL xs ++ keyL ys := by simp [keyL]

theorem keyL_get {R : List ByteArray} {j : Nat} (h : j < (keyL R).length) : (keyL R)[j] = (R.getD j ByteArray.empty).data.toList := by
  rw [keyL_length] at h
  simp [keyL, List.getD, List.getElem?_eq_getElem h]

theorem put_strs {R : List ByteArray} {x : ByteArray} {k : Nat} (hR : Rising (keyL R)) (hk : k ≤ R.length) (hlow : ∀ j, j < k → (R.getD j ByteArray.empty).data.toList < x.data.toList)
    (hhigh : k < R.length → ¬ (R.getD k ByteArray.empty).data.toList < x.data.toList ∧ (R.getD k ByteArray.empty).data.toList ≠ x.data.toList) :
    Rising (keyL (R.take k ++ [x] ++ R.drop k)) ∧ ∀ y, y ∈ keyL (R.take k ++ [x] ++ R.drop k) ↔ y ∈ keyL R ∨ y = x.data.toList := by
  have e : keyL (R.take k ++ [x] ++ R.drop k) = (keyL R).take k ++ [x.data.toList] ++ (keyL R).drop k := by
    unfold keyL; rw [List.map_append, List.map_append, List.map_take, List.map_drop]; rfl
  rw [e]
  refine put_in hR (by rw [keyL_length]; exact hk) (fun j h => ?_) (fun h => ?_)
  · rw [keyL_get]; exact hlow j h
  · rw [keyL_get]; rw [keyL_length] at h; exact hhigh h

theorem nextL_of {a b : Int} {s : ByteArray} {R : List ByteArray} (h : askB a b s = true) (hR : Rising (keyL R)) (hm : ∀ y, y ∈ keyL R ↔ y ∈ keyL (nxC b (dg s) (2 * s.size))) : nextL a b s = R := by
  rw [nextL_yes h, ← ofKey_keyL R]
  congr 1
  exact rising_eq _ _ (tidy_rising _) hR (fun y => (tidy_mem _ y).trans (hm y).symm)

end Go.Proofs.Ytjghodfdejdjoaa
