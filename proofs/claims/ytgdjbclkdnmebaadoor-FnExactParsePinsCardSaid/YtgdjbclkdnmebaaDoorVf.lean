/- All depths below one, and the pins that all keys open, as the program makes them. For at most 9 depths and 7 places. -/
import Derived.Test.YtgdjbclkdnmebaaDoorVe
namespace Go.Proofs.YtgdjbclkdnmebaaDoor
open Go.ChangeShapes Go.WideShapes Go.ChangeAt Go.RowKit Go.Joins

/-- All numbers below n. -/
def upL (n : Nat) : List Int := lsN (fun _ => true) n

theorem upL_length (n : Nat) : (upL n).length = n := by
  unfold upL
  induction n with
  | zero => rfl
  | succ n ih => rw [lsN, if_pos rfl, List.length_append, ih]; rfl

theorem upL_succ (n : Nat) : upL (n + 1) = upL n ++ [(n : Int)] := by unfold upL; rw [lsN, if_pos rfl]

theorem upL_at {n i : Nat} (h : i < n) : (upL n).getD i 0 = (i : Int) := by
  induction n with
  | zero => omega
  | succ n ih =>
    rw [upL_succ]
    by_cases e : i = n
    · subst e; simp [List.getD, upL_length]
    · rw [List.getD, List.getElem?_append_left (by rw [upL_length]; omega)]; exact ih (by omega)

/-- A list of the call's own, or none. -/
def ListOut (w : World) (xs : List Int) (e : Ending) (w' : World) : Prop :=
  ∃ A c, e = .returned (.slice A xs.length c) ∧ (xs.length = 0 ∨ ∃ g, A = some ⟨g, 0, none⟩ ∧ w.heap.size ≤ g ∧ Cells w' g xs.length (digF xs)) ∧ Below w.heap.size w w'

theorem own_list {w : World} {base : Nat} {v : Value} {ds : List Int} {n : Nat} (hn : ds.length = n) (h : w.ownsRow base 3 1 v n (iv ds)) :
    ∃ A c, v = .slice A ds.length c ∧ (ds.length = 0 ∨ ∃ g, A = some ⟨g, 0, none⟩ ∧ base ≤ g ∧ Cells w g ds.length (digF ds)) := by
  subst hn
  rcases Nat.eq_zero_or_pos ds.length with h0 | h0
  · rcases h.2 with ⟨e, _⟩ | ⟨g, cap, cur, e, _⟩
    · exact ⟨none, 0, by rw [e, h0], .inl h0⟩
    · exact ⟨_, cap, e, .inl h0⟩
  · obtain ⟨g, c, e, hb, hC⟩ := own_cells h h0
    exact ⟨_, c, e, .inr ⟨g, rfl, hb, hC⟩⟩

/-- Pins handed back, of the call's own, and whether there are some. -/
def PinsOut (w : World) (d : Int) (ks : List (List Int)) (ok : Bool) (e : Ending) (w' : World) : Prop :=
  ∃ v, e = .returned (.tuple #[.agg #[.int .i64 d, v], .bool ok]) ∧ RowP w' w.heap.size v ks ∧ Below w.heap.size w w'

/-- The pins that all keys open. -/
def wholeL (d n : Nat) : List (List Int) := rwL (fun _ => upL d) n

def wpB (d n : Int) : Bool := inB d 1 9 && inB n 1 7

def wpD (d n : Int) : Int := if wpB d n then d else 0

def wpK (d n : Int) : List (List Int) := if wpB d n then wholeL d.toNat n.toNat else []

end Go.Proofs.YtgdjbclkdnmebaaDoor
