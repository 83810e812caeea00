/- Texts of turns, as both programs make them. No conditions. -/
import Derived.Test.YtjghodfdejdjoaaOpenTurns
namespace Go.Proofs.Ytjghodfdejdjoaa
open Go.ChangeShapes Go.WideShapes Go.ChangeAt Go.RowKit Go.Joins

def sgn (y : Int) : Int := if y = 1 then 43 else 45

/-- The letters of turns. -/
def showL (ts : List (Int × Int)) : List Int := ts.flatMap fun t => [48 + t.1, sgn t.2]

theorem showL_snoc {ts : List (Int × Int)} {k : Nat} (h : k < ts.length) : showL (ts.take (k + 1)) = showL (ts.take k) ++ [48 + (ts.getD k (0, 0)).1, sgn (ts.getD k (0, 0)).2] := by
  unfold showL
  rw [List.take_succ_eq_append_getElem h, List.flatMap_append]
  simp [List.getD, List.getElem?_eq_getElem h]

theorem showL_length (ts : List (Int × Int)) : (showL ts).length = 2 * ts.length := by
  unfold showL
  induction ts with
  | nil => rfl
  | cons t ts ih => rw [List.flatMap_cons, List.length_append, ih]; simp; omega

theorem str_append (xs ys : List Int) : strOfNums xs ++ strOfNums ys = strOfNums (xs ++ ys) := by
  unfold strOfNums
  rw [ByteArray.mk_append_mk]
  congr 1
  simp

theorem turns_at {a : Int} {ts : List (Int × Int)} (h : turnsB a ts = true) {k : Nat} (hk : k < ts.length) : turnB a (ts.getD k (0, 0)).1 (ts.getD k (0, 0)).2 = true := by
  unfold turnsB at h
  rw [Bool.and_eq_true, List.all_eq_true] at h
  have := h.2 ts[k] (List.getElem_mem _)
  simpa [List.getD, List.getElem?_eq_getElem hk] using this

theorem turns_len {a : Int} {ts : List (Int × Int)} (h : turnsB a ts = true) : ts.length ≤ 200 := by
  unfold turnsB at h
  rw [Bool.and_eq_true, decide_eq_true_eq] at h
  exact h.1

theorem turn_what {a x y : Int} (h : turnB a x y = true) : 0 ≤ x ∧ x < a ∧ (y = 1 ∨ y = -1) := by
  unfold turnB inB at h
  simp at h
  omega

theorem own_below {w w' : World} {base : Nat} {e : TypeId} {size : Nat} {v : Value} {n : Nat} {xs : List Value} (h : w.ownsRow base e size v n xs) (hb : Below w.heap.size w w') : w'.ownsRow base e size v n xs :=
  h.kept (row := none) ⟨hb.os, hb.tape, hb.output, hb.size, fun i hi _ => hb.block i hi⟩ (Classical.em _)

def bv (xs : List Int) : List Value := xs.map (.int .u8)

theorem conv_own {w : World} {base : Nat} {v : Value} {n : Nat} {xs : List Int} (h : w.ownsRow base 5 1 v n (bv xs)) : (convert 53 9 v).run Try.prog w = .ok (.string (strOfNums xs)) w := by
  have hl : xs.length = n := by simpa [bv] using h.1
  rcases Nat.eq_zero_or_pos n with h0 | h0
  · subst h0
    have hx : xs = [] := List.eq_nil_of_length_eq_zero hl
    subst hx
    rcases h.2 with ⟨rfl, _⟩ | ⟨g, cap, cur, rfl, _⟩
    · exact run_convert_bytes_nil w _ _ Try.underlying53 Try.underlying5 0 0 _ Try.underlying9
    · exact run_convert_bytes_arg w _ _ Try.underlying53 Try.underlying5 g 0 0 cap [] rfl (fun i hi => by omega) _ Try.underlying9
  · obtain ⟨g, c, rfl, _, _⟩ := h.form h0
    exact run_convert_bytes_arg w _ _ Try.underlying53 Try.underlying5 g 0 n c xs hl (fun i hi => by
      rw [Nat.zero_add, h.cellAt i (by omega)]
      unfold bv
      rw [List.getElem?_map, List.getElem?_eq_getElem (by omega)]
      simp [List.getD, List.getElem?_eq_getElem (show i < xs.length by omega)]) _ Try.underlying9

theorem info_byte : (Try.prog.info? 5).map (fun i => (i.zero, i.size, i.bytes)) = some (some (.int .u8 0), 1, 1) := by kernel_rfl

def ttZ (ts : List (Int × Int)) : ByteArray := if turnsB 6 ts then strOfNums (showL ts) else ⟨#[]⟩

theorem ttZ_yes {ts : List (Int × Int)} (h : turnsB 6 ts = true) : ttZ ts = strOfNums (showL ts) := by unfold ttZ; rw [h]; rfl

theorem ttZ_no {ts : List (Int × Int)} (h : turnsB 6 ts = false) : ttZ ts = ⟨#[]⟩ := by unfold ttZ; rw [h]; rfl

end Go.Proofs.Ytjghodfdejdjoaa
