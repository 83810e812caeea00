/- Gears without a knob, as the model makes them: the walk. For at most 1048576 numbers. -/
import Derived.Test.YtealpmjkmioocaaDoorWithout
namespace Go.Proofs.YtealpmjkmioocaaDoor
open Go.ChangeShapes Go.WideShapes Go.ChangeAt Go.RowKit Go.Joins

/-- The first lists, without one. -/
def woAt (ks : List (List Int)) (q : Int) : Nat → List (List Int)
  | 0 => []
  | k + 1 => if (k : Int) = q then woAt ks q k else woAt ks q k ++ [ks.getD k []]

theorem woAt_length (ks : List (List Int)) (q : Int) (k : Nat) : (woAt ks q k).length ≤ k := by
  induction k with
  | zero => simp [woAt]
  | succ k ih =>
    rw [woAt]
    split
    · omega
    · rw [List.length_append, List.length_singleton]; omega

theorem info_list : (Tryd.prog.info? 36).map (fun i => (i.zero, i.size, i.bytes)) = some (some (.slice none 0 0), 1, 24) := by kernel_rfl

theorem row_succ {w : World} {base : Nat} {e : TypeId} {size n : Nat} {v : Value} {xs : List Value} (h : w.ownsRow base e size v (n + 1) xs) : ∃ g c, v = .slice (some ⟨g, 0, none⟩) (n + 1) c := by
  obtain ⟨g, c, e, _⟩ := h.form (by omega)
  exact ⟨g, c, e⟩

theorem news_one {W : World} {B : Nat} {x : Value} {t : TypeId} (hB : B = W.heap.size) : ∀ j u, ([x] : List Value)[j]? = some u → (W.alloc (.cells #[x] t)).cell? ((⟨B, 0, none⟩ : Addr).add j) = some u := by
  subst hB
  exact World.news_of_block (heap_alloc_new W _)

theorem own_kept {w w' : World} {base : Nat} {e : TypeId} {size : Nat} {v : Value} {n : Nat} {xs : List Value} (h : w.ownsRow base e size v n xs) (hb : Below w.heap.size w w') : w'.ownsRow base e size v n xs :=
  h.kept (row := none) ⟨hb.os, hb.tape, hb.output, hb.size, fun i hi _ => hb.block i hi⟩ (Classical.em _)

def gF (a b : Int) (v : Value) (j : Nat) : Value := (#[.int .i64 a, .int .i64 b, v] : Array Value).toList.getD j undef

end Go.Proofs.YtealpmjkmioocaaDoor
