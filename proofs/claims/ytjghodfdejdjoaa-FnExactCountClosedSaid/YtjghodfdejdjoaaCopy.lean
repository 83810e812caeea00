/- The builtin copy between rows whose elements have more than one cell. For a row that is known whole. -/
import Derived.Test.YtjghodfdejdjoaaMark
import Derived.Laws.CopyOwn
namespace Go.Proofs.Ytjghodfdejdjoaa
open Go Go.ChangeShapes Go.WideShapes Go.ChangeAt Go.RowKit Go.Joins

theorem run_copyN {P : Program} (w : World) (dT sT ty elem : TypeId) (sz g o dLen dCap : Nat) (a : Addr) (sLen sCap m : Nat) (cur : Array Value) (t : TypeId) (cs : List Value)
    (hu : P.underlying dT = some (.slice elem)) (hs : (P.info? elem).map (·.size) = some sz)
    (hg : w.heap[g]? = some (.cells cur t (0, 0))) (hm : m = Nat.min sLen dLen) (hn : cs.length = m * sz)
    (hsrc : ∀ j v, cs[j]? = some v → w.cell? (a.add j) = some v) (hfit : o + cs.length ≤ cur.size) (h1 : ∀ v ∈ cs, v.oneCell' = true) :
    (Builtin.copy_ #[dT, sT] ty #[.slice (some ⟨g, o, none⟩) dLen dCap, .slice (some a) sLen sCap]).run P w =
      .ok (goInt m) (w.setRow g (cur.toList.take o ++ cs ++ cur.toList.drop (o + cs.length)).toArray) := by
  subst hm
  have hl := run_loadCells_list (P := P) w a cs hsrc
  have hst := run_storeCells_at P g o t cs 0 cur w hg (by simpa using hfit) h1
  cases hq : P.info? elem with
  | none => simp [hq] at hs
  | some i =>
    have hi : i.size = sz := by simpa [hq] using hs
    simp [Builtin.copy_, run_underlying hu, Builtin.lenOf, Builtin.firstCells, sizeOf, typeInfo, hq, hi, ← hn, hl, hst]

theorem wpList_copyN {P : Program} {w : World} {ops : Array Oper} {rest : List Oper} {o : Oper} {a : Act} {Q : Exit → Act → World → Prop} (hgd : o.guard = none) (d s : Operand) (dT sT : TypeId)
    (ho : o.op = .call { callee := .builtin .copy, args := #[d, s], argTypes := #[dT, sT] }) (elem : TypeId) (hu : P.underlying dT = some (.slice elem)) (sz : Nat) (hsz : (P.info? elem).map (·.size) = some sz)
    (g off dLen dCap : Nat) (ad : Addr) (sLen sCap : Nat) (hd : a.eval d = .slice (some ⟨g, off, none⟩) dLen dCap) (hs : a.eval s = .slice (some ad) sLen sCap)
    (cur : List Value) (t : TypeId) (hg : w.heap[g]? = some (.cells cur.toArray t (0, 0))) (m : Nat) (hm : m = Nat.min sLen dLen) (cs : List Value) (hn : cs.length = m * sz)
    (hsrc : ∀ j v, cs[j]? = some v → w.cell? (ad.add j) = some v) (hfit : off + cs.length ≤ cur.length) (h1 : ∀ v ∈ cs, v.oneCell' = true)
    (h : ∀ w', w' = w.setRow g (cur.take off ++ cs ++ cur.drop (off + cs.length)).toArray → wpList P ops Q rest (a.put o.dst (goInt m)) w') : wpList P ops Q (o :: rest) a w := by
  refine wpList_plain hgd fun K hK => ?_
  have hrun := run_copyN (P := P) w dT sT o.type elem sz g off dLen dCap ad sLen sCap m cur.toArray t cs hu hsz hg hm hn hsrc (by simpa using hfit) h1
  unfold Oper.wp
  simp [execOp, ho, resolve, invoke, builtin, hd, hs, hrun, Result.andThen]
  exact hK _ _ (h _ (by simp))

/-- A row of k turns, the first n of them (x, y), the others nought. -/
def cellT (x y : Int) (j : Nat) : Value := if j % 2 = 0 then .int .i64 x else .int .i64 y

def rowT (x y : Int) (k n : Nat) : List Value := (List.range (2 * k)).map fun j => if j < 2 * n then cellT x y j else .int .i64 0

def partT (x y : Int) (m : Nat) : List Value := (List.range (2 * m)).map (cellT x y)

theorem rowT_length (x y : Int) (k n : Nat) : (rowT x y k n).length = 2 * k := by simp [rowT]

theorem partT_length (x y : Int) (m : Nat) : (partT x y m).length = m * 2 := by simp [partT]; omega

theorem rowT_at {x y : Int} {k n j : Nat} (hj : j < 2 * k) : (rowT x y k n)[j]? = some (if j < 2 * n then cellT x y j else .int .i64 0) := by simp [rowT, hj]

theorem partT_at {x y : Int} {m j : Nat} (hj : j < 2 * m) : (partT x y m)[j]? = some (cellT x y j) := by simp [partT, hj]

theorem rowT_step {x y : Int} {k n m : Nat} (h : n + m ≤ k) : (rowT x y k n).take (2 * n) ++ partT x y m ++ (rowT x y k n).drop (2 * n + (partT x y m).length) = rowT x y k (n + m) := by
  apply List.ext_getElem?
  intro j
  have l1 : ((rowT x y k n).take (2 * n)).length = 2 * n := by rw [List.length_take, rowT_length]; omega
  by_cases a1 : j < 2 * n
  · rw [List.append_assoc, List.getElem?_append_left (by omega), List.getElem?_take, if_pos a1, rowT_at (by omega), rowT_at (by omega), if_pos a1, if_pos (by omega)]
  · rw [List.append_assoc, List.getElem?_append_right (by omega), l1]
    by_cases a2 : j < 2 * (n + m)
    · rw [List.getElem?_append_left (by rw [partT_length]; omega), partT_at (by omega), rowT_at (by omega), if_pos a2]
      unfold cellT
      rw [show (j - 2 * n) % 2 = j % 2 by omega]
    · rw [List.getElem?_append_right (by rw [partT_length]; omega), List.getElem?_drop, partT_length, show 2 * n + m * 2 + (j - 2 * n - m * 2) = j by omega]
      by_cases a3 : j < 2 * k
      · rw [rowT_at a3, rowT_at a3, if_neg a1, if_neg a2]
      · rw [List.getElem?_eq_none (by rw [rowT_length]; omega), List.getElem?_eq_none (by rw [rowT_length]; omega)]

theorem partT_one (x y : Int) (m : Nat) : ∀ v ∈ partT x y m, v.oneCell' = true := by
  intro v hv
  obtain ⟨j, _, rfl⟩ := List.mem_map.1 hv
  unfold cellT
  split <;> rfl

theorem rowT_zero (x y : Int) (k : Nat) : (madeCells #[.int .i64 0, .int .i64 0] (2 * k)).toList = rowT x y k 0 := by
  apply List.ext_getElem?
  intro j
  by_cases hj : j < 2 * k
  · rw [rowT_at hj, if_neg (by omega)]
    have h1 : j < (madeCells #[Value.int .i64 0, .int .i64 0] (2 * k)).size := by rw [size_madeCells]; exact hj
    rw [Array.getElem?_toList, Array.getElem?_eq_getElem h1]
    simp only [madeCells, Array.getElem_map, Array.getElem_range]
    rcases Nat.mod_two_eq_zero_or_one j with h | h <;> simp [h]
  · rw [List.getElem?_eq_none (by rw [Array.length_toList, size_madeCells]; omega), List.getElem?_eq_none (by rw [rowT_length]; omega)]

theorem row_cells {w : World} {g k : Nat} {x y : Int} {t : TypeId} (hg : w.heap[g]? = some (.cells (rowT x y k k).toArray t (0, 0))) : Cells w g (k * 2) (turnF (List.replicate k (x, y))) :=
  ⟨(Array.getElem?_eq_some_iff.1 hg).1, fun j hj => by
    refine ⟨?_, by simp [World.frozen?, hg]⟩
    have : (rowT x y k k)[j]? = some (cellT x y j) := by rw [rowT_at (by omega), if_pos (by omega)]
    simp [World.cell?, hg, this]
    unfold cellT turnF
    simp [List.getD, show j / 2 < k by omega]⟩

end Go.Proofs.Ytjghodfdejdjoaa
