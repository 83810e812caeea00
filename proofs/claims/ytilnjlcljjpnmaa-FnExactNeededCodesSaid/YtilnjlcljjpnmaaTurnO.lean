/- All turns of the wheels of a lock in their order, as the program lists them. For at most a thousand wheels. -/
import Derived.Test.YtilnjlcljjpnmaaStrs
import Derived.Test.YtilnjlcljjpnmaaOpenTurn
namespace Go.Proofs.Ytilnjlcljjpnmaa
open Go.ChangeShapes Go.WideShapes Go.ChangeAt Go.RowKit Go.Joins

/-- Turns as values. -/
def tvO (ts : List (Int × Int)) : List Value := ts.flatMap fun t => [.int .i64 t.1, .int .i64 t.2]

theorem tvO_length (ts : List (Int × Int)) : (tvO ts).length = ts.length * 2 := by
  unfold tvO
  induction ts with
  | nil => rfl
  | cons t ts ih => rw [List.flatMap_cons, List.length_append, ih]; simp; omega

theorem tvO_at (ts : List (Int × Int)) : ∀ j, j < ts.length * 2 → (tvO ts)[j]? = some (turnF ts j) := by
  induction ts with
  | nil => intro j hj; simp at hj
  | cons t ts ih =>
    intro j hj
    have e : tvO (t :: ts) = .int .i64 t.1 :: .int .i64 t.2 :: tvO ts := rfl
    rw [e]
    match j, hj with
    | 0, _ => rfl
    | 1, _ => rfl
    | j + 2, hj =>
      simp only [List.length_cons] at hj
      have h := ih j (by omega)
      have f : turnF (t :: ts) (j + 2) = turnF ts j := by
        unfold turnF
        rw [show (j + 2) % 2 = j % 2 by omega, show (j + 2) / 2 = j / 2 + 1 by omega]
        rfl
      rw [f]
      exact h

theorem tvO_app (xs ys : List (Int × Int)) : tvO (xs ++ ys) = tvO xs ++ tvO ys := by unfold tvO; rw [List.flatMap_append]

theorem ownO_turns {w : World} {base : Nat} {t : TypeId} {v : Value} {ts : List (Int × Int)} {n : Nat} (h : w.ownsRow base t 2 v n (tvO ts)) (hn : 0 < n) :
    ∃ g c, v = .slice (some ⟨g, 0, none⟩) n c ∧ base ≤ g ∧ Cells w g (n * 2) (turnF ts) := by
  obtain ⟨g, c, rfl, hb, hlt⟩ := h.form hn
  have hl : ts.length = n := by have := h.1; rw [tvO_length] at this; omega
  refine ⟨g, c, rfl, hb, hlt, fun j hj => ⟨?_, h.frozenAt j⟩⟩
  rw [h.cellAt j hj, tvO_at ts j (by omega)]

theorem ownO_any {w : World} {base : Nat} {e : TypeId} {size : Nat} {v : Value} {n : Nat} {xs : List Value} (h : w.ownsRow base e size v n xs) : ∃ A c, v = .slice A n c := by
  rcases h.2 with ⟨e, h0⟩ | ⟨g, cap, _, e, _⟩
  · exact ⟨none, 0, by rw [e, h0]⟩
  · exact ⟨_, cap, e⟩

/-- The way of the turn of number j: forth, then back, wheel by wheel. -/
def byO (j : Nat) : Int := if j % 2 = 0 then 1 else -1

/-- The turns of n wheels. -/
def turnsO (n : Nat) : List (Int × Int) := (List.range (2 * n)).map fun j => (((j / 2 : Nat) : Int), byO j)

theorem turnsO_length (n : Nat) : (turnsO n).length = 2 * n := by simp [turnsO]

theorem turnsO_at {n j : Nat} (hj : j < 2 * n) : (turnsO n).getD j (0, 0) = (((j / 2 : Nat) : Int), byO j) := by simp [turnsO, List.getD, hj]

theorem turnsO_succ (n : Nat) : turnsO (n + 1) = turnsO n ++ [((n : Int), 1), ((n : Int), -1)] := by
  unfold turnsO
  rw [show 2 * (n + 1) = 2 * n + 1 + 1 by omega, List.range_succ, List.range_succ, List.map_append, List.map_append, List.append_assoc]
  congr 1
  simp only [List.map_singleton, List.singleton_append]
  have e1 : byO (2 * n) = 1 := by unfold byO; rw [if_pos (by omega)]
  have e2 : byO (2 * n + 1) = -1 := by unfold byO; rw [if_neg (by omega)]
  rw [e1, e2, show 2 * n / 2 = n by omega, show (2 * n + 1) / 2 = n by omega]

/-- The list handed back. -/
def TurnsO (w : World) (n : Nat) (e : Ending) (w' : World) : Prop :=
  ∃ A c, e = .returned (.slice A (2 * n) c) ∧ (n = 0 ∨ ∃ g, A = some ⟨g, 0, none⟩ ∧ w.heap.size ≤ g ∧ Cells w' g (2 * n * 2) (turnF (turnsO n))) ∧ Below w.heap.size w w'

set_option maxHeartbeats 1000000 in
theorem turnsInOrderO_any (n : Nat) (w : World) (hn : n ≤ 1000) :
    Calls Try.prog 112 #[.int .i64 (n : Int)] w (TurnsO w n) := by
  obtain ⟨i0, hi, hz0, hz1, hz2⟩ := info_parts info_turn
  go_enter Try.func112, Try.ntmps112
  go_wp2_with fail
  go_loopw [3, 6] (fun v i wr => ∃ k : Nat, k ≤ n ∧ i = .int .i64 k ∧ wr.ownsRow w.heap.size 68 2 v (2 * k) (tvO (turnsO k)) ∧ Below w.heap.size w wr) (fun _ i _ => n - (intOf i).toNat)
  case atStart => exact ⟨0, by omega, rfl, World.ownsRow_nil _ _ _ _, Below.refl _ _⟩
  case round =>
    obtain ⟨k, hk, rfl, hO, hB⟩ := hrel
    have HOW := Lib.hid hO
    clear hO
    by_cases hlt : k < n
    · have HSn : Hid (tvO (turnsO (k + 1)) = tvO (turnsO k) ++ [.int .i64 (k : Int), .int .i64 1, .int .i64 (k : Int), .int .i64 (-1)]) := Lib.hid (by rw [turnsO_succ, tvO_app]; rfl)
      go_wp2_with (first
        | (go_at_call 127; refine (forth_any _ _).mono ?_; rintro e w2 ⟨rfl, hb2⟩)
        | (go_at_call 128; refine (back_any _ _).mono ?_; rintro e w3 ⟨rfl, hb3⟩; have hown3 := own_keeps (own_keeps HOW.out hb2) hb3)
        | (at_builtin; refine wpList_append_own _ rfl _ _ 36 rfl w.heap.size 68 i0 (.agg #[.int .i64 0, .int .i64 0]) 2 16 Try.underlying36 hi hz0 hz1 hz2 rfl (by decide) _ _ _ rfl (hown3.alloc _) ⟨w3.heap.size, 0, none⟩ 2 2 [.int .i64 (k : Int), .int .i64 1, .int .i64 (k : Int), .int .i64 (-1)] rfl rfl (news_of rfl) (by simp [Value.oneCell']) (by unfold maxLen; omega) (by omega) (by have h1 := hB.size; have h2 := hb2.size; have h3 := hb3.size; simp; omega) ?_; intro v' w4 hown' hgrow hiff; clear hiff))
      have HB4 := Lib.hid (((bel_call (bel_call hB hb2) hb3).alloc (Nat.le_trans (Nat.le_trans hB.size hb2.size) hb3.size) _).grown hgrow (by have h1 := hB.size; have h2 := hb2.size; have h3 := hb3.size; simp; omega) (fun j hj => (hown3.lt j hj).1))
      have HO4 : Hid (w4.ownsRow w.heap.size 68 2 v' (2 * (k + 1)) (tvO (turnsO (k + 1)))) := Lib.hid (by rw [HSn.out]; exact hown')
      clear hgrow hown' hown3 hb3 hb2
      go_wp2_with fail
      go_roundw
      case rel => exact ⟨k + 1, by omega, by go_num, HO4.out, HB4.out⟩
      case measure => simp [intOf]; omega
    · obtain rfl : k = n := by omega
      go_wp2_with fail
      go_ret
      obtain ⟨A, c, rfl⟩ := ownO_any HOW.out
      refine ⟨A, c, rfl, ?_, hB⟩
      by_cases h0 : k = 0
      · exact .inl h0
      · obtain ⟨g, c', e, hg, hC⟩ := ownO_turns HOW.out (by omega)
        cases e
        exact .inr ⟨g, rfl, hg, hC⟩

end Go.Proofs.Ytilnjlcljjpnmaa
