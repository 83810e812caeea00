/- Turns read from a text, as the model reads them. No conditions. -/
import Derived.Test.YtjghodfdejdjoaaMark
import Derived.Test.YtjghodfdejdjoaaTurnsText
namespace Go.Proofs.Ytjghodfdejdjoaa
open Go.ChangeShapes Go.WideShapes Go.ChangeAt Go.RowKit Go.Joins

def tv (ts : List (Int × Int)) : List Value := ts.flatMap fun t => [.int .i64 t.1, .int .i64 t.2]

theorem tv_length (ts : List (Int × Int)) : (tv ts).length = ts.length * 2 := by
  unfold tv
  induction ts with
  | nil => rfl
  | cons t ts ih => rw [List.flatMap_cons, List.length_append, ih]; simp; omega

theorem tv_at (ts : List (Int × Int)) : ∀ j, j < ts.length * 2 → (tv ts)[j]? = some (turnF ts j) := by
  induction ts with
  | nil => intro j hj; simp at hj
  | cons t ts ih =>
    intro j hj
    have e : tv (t :: ts) = .int .i64 t.1 :: .int .i64 t.2 :: tv ts := rfl
    rw [e]
    match j, hj with
    | 0, _ => rfl
    | 1, _ => rfl
    | j + 2, hj =>
      simp only [List.length_cons] at hj
      have h := ih j (by omega)
      have f : turnF (t :: ts) (j + 2) = turnF ts j := by
        unfold turnF
        rw [show (j + 2) % 2 = j % 2 by omega, show (j + 2) / 2 = j / 2 + 1 by omega]
        rfl
      rw [f]
      exact h

theorem tv_snoc {ts : List (Int × Int)} {k : Nat} (h : k < ts.length) : tv (ts.take (k + 1)) = tv (ts.take k) ++ [.int .i64 (ts.getD k (0, 0)).1, .int .i64 (ts.getD k (0, 0)).2] := by
  unfold tv
  rw [List.take_succ_eq_append_getElem h, List.flatMap_append]
  simp [List.getD, List.getElem?_eq_getElem h]

theorem own_turns {w : World} {base : Nat} {t : TypeId} {v : Value} {ts : List (Int × Int)} {n : Nat} (h : w.ownsRow base t 2 v n (tv ts)) (hn : 0 < n) :
    ∃ g c, v = .slice (some ⟨g, 0, none⟩) n c ∧ base ≤ g ∧ Cells w g (n * 2) (turnF ts) := by
  obtain ⟨g, c, rfl, hb, hlt⟩ := h.form hn
  have hl : ts.length = n := by have := h.1; rw [tv_length] at this; omega
  refine ⟨g, c, rfl, hb, hlt, fun j hj => ⟨?_, h.frozenAt j⟩⟩
  rw [h.cellAt j hj, tv_at ts j (by omega)]

/-- The letter at a place. -/
def ch (s : ByteArray) (k : Nat) : Int := ((s.data.toList.getD k 0).toNat : Int)

theorem ch_at {s : ByteArray} {k : Nat} (hk : k < s.size) : (s[k].toNat : Int) = ch s k := by
  have h : k < s.data.toList.length := by simpa using hk
  have e : s[k] = s.data.toList[k] := rfl
  rw [e]
  simp only [ch, List.getD, List.getElem?_eq_getElem h, Option.getD_some]

theorem ch_bd (s : ByteArray) (k : Nat) : 0 ≤ ch s k ∧ ch s k ≤ 255 := by
  unfold ch
  have := (s.data.toList.getD k 0).toNat_lt
  omega

def pT (s : ByteArray) (k : Nat) : Int × Int := (ch s (2 * k) - 48, if ch s (2 * k + 1) = 45 then -1 else 1)

def parsT (s : ByteArray) : List (Int × Int) := (List.range (s.size / 2)).map (pT s)

theorem parsT_length (s : ByteArray) : (parsT s).length = s.size / 2 := by simp [parsT]

theorem parsT_at {s : ByteArray} {k : Nat} (hk : k < s.size / 2) : (parsT s).getD k (0, 0) = pT s k := by simp [parsT, List.getD, hk]

def pOk (s : ByteArray) (k : Nat) : Bool := inB (ch s (2 * k) - 48) 0 5 && (decide (ch s (2 * k + 1) = 43) || decide (ch s (2 * k + 1) = 45))

def pB (s : ByteArray) : Bool := decide (s.size % 2 = 0) && decide (s.size ≤ 400) && (List.range (s.size / 2)).all (pOk s)

theorem pB_no {s : ByteArray} {k : Nat} (hk : k < s.size / 2) (h : pOk s k = false) : pB s = false := by
  unfold pB
  rw [Bool.and_eq_false_iff]
  exact .inr (by rw [List.all_eq_false]; exact ⟨k, by simpa using hk, by rw [h]; decide⟩)

theorem pB_all {s : ByteArray} (h1 : s.size % 2 = 0) (h2 : s.size ≤ 400) (h : ∀ k, k < s.size / 2 → pOk s k = true) : pB s = true := by
  unfold pB
  rw [decide_eq_true h1, decide_eq_true h2, Bool.true_and, Bool.true_and, List.all_eq_true]
  exact fun k hk => h k (by simpa using hk)

/-- What has been read: so many turns, or none. -/
def gotT (s : ByteArray) : List (Int × Int) := if pB s then parsT s else []

def ParseOut (w : World) (s : ByteArray) (e : Ending) (w' : World) : Prop :=
  ∃ A c, e = .returned (.tuple #[.slice A (gotT s).length c, .bool (pB s)]) ∧ OwnT w' w.heap.size A (gotT s).length (gotT s) ∧ Below w.heap.size w w'

theorem parse_no {w w' : World} {s : ByteArray} (h : pB s = false) (hb : Below w.heap.size w w') : ParseOut w s (.returned (.tuple #[.slice none 0 0, .bool false])) w' := by
  have hg : gotT s = [] := by unfold gotT; rw [h]; rfl
  refine ⟨none, 0, by rw [hg, h]; rfl, ?_, hb⟩
  rw [hg]
  exact ⟨rfl, by decide, .inl rfl⟩

theorem parse_yes {w w' : World} {s : ByteArray} {t : TypeId} {v : Value} (h : pB s = true) (hs : s.size ≤ 400) (ho : w'.ownsRow w.heap.size t 2 v (s.size / 2) (tv (parsT s))) (hb : Below w.heap.size w w') : ParseOut w s (.returned (.tuple #[v, .bool true])) w' := by
  have hg : gotT s = parsT s := by unfold gotT; rw [h]; rfl
  have hl := parsT_length s
  rcases Nat.eq_zero_or_pos (s.size / 2) with h0 | h0
  · have hv : ∃ A c, v = .slice A 0 c := by
      rcases ho.2 with ⟨rfl, _⟩ | ⟨g, cap, cur, rfl, _⟩
      · exact ⟨none, 0, rfl⟩
      · exact ⟨_, cap, by rw [h0]⟩
    obtain ⟨A, c, rfl⟩ := hv
    refine ⟨A, c, by rw [hg, hl, h0, h], ?_, hb⟩
    rw [hg, hl, h0]
    exact ⟨by rw [hl, h0], by decide, .inl rfl⟩
  · obtain ⟨g, c, rfl, hgg, hC⟩ := own_turns ho h0
    refine ⟨some ⟨g, 0, none⟩, c, by rw [hg, hl, h], ?_, hb⟩
    rw [hg, hl]
    exact ⟨hl, by omega, .inr ⟨g, rfl, hgg, hC⟩⟩

def AllOk (s : ByteArray) (k : Nat) : Prop := ∀ j, j < k → pOk s j = true

theorem allOk_succ {s : ByteArray} {k : Nat} (h : AllOk s k) (hk : pOk s k = true) : AllOk s (k + 1) := fun j hj => by
  by_cases e : j = k
  · subst e; exact hk
  · exact h j (by omega)

theorem news_at {W : World} {B : Nat} {cs : Array Value} {t : TypeId} (hB : B = W.heap.size) : ∀ j u, cs.toList[j]? = some u → (W.alloc (.cells cs t)).cell? ((⟨B, 0, none⟩ : Addr).add j) = some u := by
  subst hB
  exact World.news_of_block (heap_alloc_new W _)

theorem pB_odd {s : ByteArray} (h : ¬ s.size % 2 = 0) : pB s = false := by unfold pB; rw [decide_eq_false h]; rfl

theorem pB_long {s : ByteArray} (h : ¬ s.size ≤ 400) : pB s = false := by unfold pB; rw [decide_eq_false h, Bool.and_false, Bool.false_and]

theorem parse_snoc {s : ByteArray} {k : Nat} {x y : Int} (hk : k < s.size / 2) (hx : ch s (2 * k) = x) (hy : (if ch s (2 * k + 1) = 45 then (-1 : Int) else 1) = y) :
    tv ((parsT s).take (k + 1)) = tv ((parsT s).take k) ++ [.int .i64 (x - 48), .int .i64 y] := by
  rw [tv_snoc (by rw [parsT_length]; exact hk), parsT_at hk, ← hx, ← hy]
  rfl

end Go.Proofs.Ytjghodfdejdjoaa
