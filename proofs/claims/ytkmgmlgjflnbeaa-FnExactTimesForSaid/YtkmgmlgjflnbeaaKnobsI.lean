/- Codes behind turns of knobs, as the program makes them. For at most 1048576 numbers. -/
import Derived.Test.YtkmgmlgjflnbeaaStepsI
import Derived.Test.YtkmgmlgjflnbeaaReach
namespace Go.Proofs.Ytkmgmlgjflnbeaa
open Go.ChangeShapes Go.WideShapes Go.ChangeAt Go.RowKit Go.Joins

theorem set_new (w : World) (cs : Array Value) (t : TypeId) (q : Nat) (v : Value) : (w.alloc (.cells cs t)).setCell ⟨w.heap.size, q, none⟩ v = w.alloc (.cells (cs.setIfInBounds q v) t) := by simp [go_sem]

/-- A list of noughts but for one place. -/
def oneT (n q : Nat) (m : Int) : List Int := (List.replicate n 0).set q m

theorem oneT_length (n q : Nat) (m : Int) : (oneT n q m).length = n := by simp [oneT]

theorem oneT_at {n q j : Nat} {m : Int} (hq : q < n) : (oneT n q m).getD j 0 = if j = q then m else 0 := by
  unfold oneT
  by_cases h : j = q
  · subst h
    simp [List.getD, hq]
  · rw [if_neg h]
    simp only [List.getD, List.getElem?_set]
    rw [if_neg (fun e => h e.symm)]
    by_cases hj : j < n
    · simp [hj]
    · simp [hj]

theorem afterK_one {a b m : Int} {n q : Nat} {ks : List (List Int)} {s : ByteArray} (hs : askB a b s = true) (hq : q < n) (k : Nat) (hk : ∀ j, j < k → knobB a b (ks.getD j []) = true) :
    afterK b ks (oneT n q m) s k = if q < k then turnK b m s (ks.getD q []) else s := by
  induction k with
  | zero => rw [if_neg (by omega)]; rfl
  | succ k ih =>
    rw [afterK, ih fun j hj => hk j (by omega), oneT_at hq]
    by_cases h : q < k
    · rw [if_pos h, if_neg (by omega), if_pos (by omega)]
      exact turnK_zero (turnK_ask hs (hk q (by omega))) (hk k (by omega))
    · rw [if_neg h]
      by_cases h2 : k = q
      · subst h2
        rw [if_pos rfl, if_pos (by omega)]
      · rw [if_neg h2, if_neg (by omega)]
        exact turnK_zero hs (hk k (by omega))

theorem oneT_all {n q : Nat} {m : Int} (hq : q < n) : ((oneT n q m).all fun x => inB x (-1000) 1000) = inB m (-1000) 1000 := by
  rw [Bool.eq_iff_iff, List.all_eq_true]
  constructor
  · intro h
    refine h m ?_
    have : (oneT n q m)[q]? = some m := by simp [oneT, hq]
    exact List.mem_of_getElem? this
  · intro h x hx
    obtain ⟨j, hj, rfl⟩ := List.getElem_of_mem hx
    have := oneT_at (j := j) (m := m) hq
    simp only [List.getD, List.getElem?_eq_getElem hj, Option.getD_some] at this
    rw [this]
    split
    · exact h
    · decide

theorem one_cells {w : World} {g n q : Nat} {m : Int} (hq : q < n) (h : Cells w g n (fun _ => .int .i64 0)) : Cells (w.setCell ⟨g, q, none⟩ (.int .i64 m)) g n (digF (oneT n q m)) :=
  (h.set_ hq _).congr fun j _ => by
    rw [digF, oneT_at hq]
    split <;> rfl

end Go.Proofs.Ytkmgmlgjflnbeaa
