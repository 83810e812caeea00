/- All depths below one, and the pins that all keys open, as the program makes them. For at most 9 depths and 7 places. -/
import Derived.Test.YtaajklkldfgppaaVe
namespace Go.Proofs.Ytaajklkldfgppaa
open Go.ChangeShapes Go.WideShapes Go.ChangeAt Go.RowKit Go.Joins

/-- All numbers below n. -/
def upL (n : Nat) : List Int := lsN (fun _ => true) n

theorem upL_length (n : Nat) : (upL n).length = n := by
  unfold upL
  induction n with
  | zero => rfl
  | succ n ih => rw [lsN, if_pos rfl, List.length_append, ih]; rfl

theorem upL_succ (n : Nat) : upL (n + 1) = upL n ++ [(n : Int)] := by unfold upL; rw [lsN, if_pos rfl]

theorem upL_at {n i : Nat} (h : i < n) : (upL n).getD i 0 = (i : Int) := by
  induction n with
  | zero => omega
  | succ n ih =>
    rw [upL_succ]
    by_cases e : i = n
    · subst e; simp [List.getD, upL_length]
    · rw [List.getD, List.getElem?_append_left (by rw [upL_length]; omega)]; exact ih (by omega)

/-- A list of the call's own, or none. -/
def ListOut (w : World) (xs : List Int) (e : Ending) (w' : World) : Prop :=
  ∃ A c, e = .returned (.slice A xs.length c) ∧ (xs.length = 0 ∨ ∃ g, A = some ⟨g, 0, none⟩ ∧ w.heap.size ≤ g ∧ Cells w' g xs.length (digF xs)) ∧ Below w.heap.size w w'

theorem own_list {w : World} {base : Nat} {v : Value} {ds : List Int} {n : Nat} (hn : ds.length = n) (h : w.ownsRow base 3 1 v n (iv ds)) :
    ∃ A c, v = .slice A ds.length c ∧ (ds.length = 0 ∨ ∃ g, A = some ⟨g, 0, none⟩ ∧ base ≤ g ∧ Cells w g ds.length (digF ds)) := by
  subst hn
  rcases Nat.eq_zero_or_pos ds.length with h0 | h0
  · rcases h.2 with ⟨e, _⟩ | ⟨g, cap, cur, e, _⟩
    · exact ⟨none, 0, by rw [e, h0], .inl h0⟩
    · exact ⟨_, cap, e, .inl h0⟩
  · obtain ⟨g, c, e, hb, hC⟩ := own_cells h h0
    exact ⟨_, c, e, .inr ⟨g, rfl, hb, hC⟩⟩

theorem depthsBelow_any (n : Nat) (w : World) (hn : n ≤ 9) :
    Calls Try.prog 58 #[.int .i64 n] w (ListOut w (upL n)) := by
  obtain ⟨i0, hi, hy0, hy1, hy2⟩ := info_parts info_int
  go_enter Try.func58, Try.ntmps58
  go_wp2_with fail
  go_loopw [3, 6] (fun v i wr => ∃ k : Nat, k ≤ n ∧ i = .int .i64 k ∧ wr.ownsRow w.heap.size 3 1 v k (iv (upL k)) ∧ Below w.heap.size w wr) (fun _ i _ => n - (intOf i).toNat)
  case atStart => exact ⟨0, by omega, rfl, World.ownsRow_nil _ _ _ _, Below.refl _ _⟩
  case round =>
    obtain ⟨k, hk, rfl, hO, hB⟩ := hrel
    have HO := Lib.hid hO
    have HB := Lib.hid hB
    have hsz := HB.out.size
    clear hO hB
    by_cases hlt : k < n
    · have HS : Hid (iv (upL (k + 1)) = iv (upL k) ++ [.int .i64 (k : Int)]) := Lib.hid (by rw [upL_succ]; unfold iv; rw [List.map_append]; rfl)
      go_wp2_with (at_builtin; refine wpList_append_own _ rfl _ _ 49 rfl w.heap.size 3 i0 (.int .i64 0) 1 8 Try.underlying49 hi hy0 hy1 hy2 rfl (by decide) _ _ _ rfl (HO.out.alloc _) ⟨wr.heap.size, 0, none⟩ 1 1 [.int .i64 (k : Int)] rfl rfl (newv_one rfl) (by simp [Value.oneCell']) (by unfold maxLen; omega) (by omega) (by simp; omega) ?_; intro v9 w9 hown9 hgrow9 hiff9; clear hiff9)
      have HO9 : Hid (w9.ownsRow w.heap.size 3 1 v9 (k + 1) (iv (upL (k + 1)))) := Lib.hid (by rw [HS.out]; exact hown9)
      have HB9 : Hid (Below w.heap.size w w9) := Lib.hid ((HB.out.alloc hsz _).grown hgrow9 (by simp; omega) (fun j hj => (HO.out.lt j hj).1))
      clear hown9 hgrow9
      go_wp2_with fail
      go_roundw
      case rel => exact ⟨k + 1, by omega, by go_num, HO9.out, HB9.out⟩
      case measure => simp [intOf]; omega
    · obtain rfl : k = n := by omega
      go_wp2_with fail
      go_ret
      obtain ⟨A, c, rfl, h⟩ := own_list (upL_length k) HO.out
      exact ⟨A, c, rfl, h, HB.out⟩

/-- Pins handed back, of the call's own, and whether there are some. -/
def PinsOut (w : World) (d : Int) (ks : List (List Int)) (ok : Bool) (e : Ending) (w' : World) : Prop :=
  ∃ v, e = .returned (.tuple #[.agg #[.int .i64 d, v], .bool ok]) ∧ RowP w' w.heap.size v ks ∧ Below w.heap.size w w'

/-- The pins that all keys open. -/
def wholeL (d n : Nat) : List (List Int) := rwL (fun _ => upL d) n

def wpB (d n : Int) : Bool := inB d 1 9 && inB n 1 7

def wpD (d n : Int) : Int := if wpB d n then d else 0

def wpK (d n : Int) : List (List Int) := if wpB d n then wholeL d.toNat n.toNat else []

end Go.Proofs.Ytaajklkldfgppaa
