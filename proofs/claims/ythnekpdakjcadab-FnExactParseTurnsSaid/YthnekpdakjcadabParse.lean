/- Turns read from a text, as the model reads them. No conditions. -/
import Derived.Test.YthnekpdakjcadabMark
import Derived.Test.YthnekpdakjcadabTurnsText
namespace Go.Proofs.Ythnekpdakjcadab
open Go.ChangeShapes Go.WideShapes Go.ChangeAt Go.RowKit Go.Joins

def tv (ts : List (Int × Int)) : List Value := ts.flatMap fun t => [.int .i64 t.1, .int .i64 t.2]
theorem tv_length (ts : List (Int × Int)) : (tv ts).length = ts.length * 2 := by
  unfold tv
  induction ts with
  | nil => rfl
  | cons t ts ih => rw [List.flatMap_cons, List.length_append, ih]; simp; omega
theorem tv_at (ts : List (Int × Int)) : ∀ j, j < ts.length * 2 → (tv ts)[j]? = some (turnF ts j) := by
  induction ts with
  | nil => intro j hj; simp at hj
  | cons t ts ih =>
    intro j hj
    have e : tv (t :: ts) = .int .i64 t.1 :: .int .i64 t.2 :: tv ts := rfl
    rw [e]
    match j, hj with
    | 0, _ => rfl
    | 1, _ => rfl
    | j + 2, hj =>
      simp only [List.length_cons] at hj
      have h := ih j (by omega)
      have f : turnF (t :: ts) (j + 2) = turnF ts j := by
        unfold turnF
        rw [show (j + 2) % 2 = j % 2 by omega, show (j + 2) / 2 = j / 2 + 1 by omega]
        rfl
      rw [f]
      exact h
theorem tv_snoc {ts : List (Int × Int)} {k : Nat} (h : k < ts.length) : tv (ts.take (k + 1)) = tv (ts.take k) ++ [.int .i64 (ts.getD k (0, 0)).1, .int .i64 (ts.getD k (0, 0)).2] := by
  unfold tv
  rw [List.take_succ_eq_append_getElem h, List.flatMap_append]
  simp [List.getD, List.getElem?_eq_getElem h]
theorem own_turns {w : World} {base : Nat} {t : TypeId} {v : Value} {ts : List (Int × Int)} {n : Nat} (h : w.ownsRow base t 2 v n (tv ts)) (hn : 0 < n) :
    ∃ g c, v = .slice (some ⟨g, 0, none⟩) n c ∧ base ≤ g ∧ Cells w g (n * 2) (turnF ts) := by
  obtain ⟨g, c, rfl, hb, hlt⟩ := h.form hn
  have hl : ts.length = n := by have := h.1; rw [tv_length] at this; omega
  refine ⟨g, c, rfl, hb, hlt, fun j hj => ⟨?_, h.frozenAt j⟩⟩
  rw [h.cellAt j hj, tv_at ts j (by omega)]

/-- The letter at a place. -/
def ch (s : ByteArray) (k : Nat) : Int := ((s.data.toList.getD k 0).toNat : Int)
theorem ch_at {s : ByteArray} {k : Nat} (hk : k < s.size) : (s[k].toNat : Int) = ch s k := by
  have h : k < s.data.toList.length := by simpa using hk
  have e : s[k] = s.data.toList[k] := rfl
  rw [e]
  simp only [ch, List.getD, List.getElem?_eq_getElem h, Option.getD_some]
theorem ch_bd (s : ByteArray) (k : Nat) : 0 ≤ ch s k ∧ ch s k ≤ 255 := by
  unfold ch
  have := (s.data.toList.getD k 0).toNat_lt
  omega
def pT (s : ByteArray) (k : Nat) : Int × Int := (ch s (2 * k) - 48, if ch s (2 * k + 1) = 45 then -1 else 1)
def parsT (s : ByteArray) : List (Int × Int) := (List.range (s.size / 2)).map (pT s)
theorem parsT_length (s : ByteArray) : (parsT s).length = s.size / 2 := by simp [parsT]
theorem parsT_at {s : ByteArray} {k : Nat} (hk : k < s.size / 2) : (parsT s).getD k (0, 0) = pT s k := by simp [parsT, List.getD, hk]
def pOk (s : ByteArray) (k : Nat) : Bool := inB (ch s (2 * k) - 48) 0 5 && (decide (ch s (2 * k + 1) = 43) || decide (ch s (2 * k + 1) = 45))
def pB (s : ByteArray) : Bool := decide (s.size % 2 = 0) && decide (s.size ≤ 400) && (List.range (s.size / 2)).all (pOk s)
theorem pB_no {s : ByteArray} {k : Nat} (hk : k < s.size / 2) (h : pOk s k = false) : pB s = false := by
  unfold pB
  rw [Bool.and_eq_false_iff]
  exact .inr (by rw [List.all_eq_false]; exact ⟨k, by simpa using hk, by rw [h]; decide⟩)
theorem pB_all {s : ByteArray} (h1 : s.size % 2 = 0) (h2 : s.size ≤ 400) (h : ∀ k, k < s.size / 2 → pOk s k = true) : pB s = true := by
  unfold pB
  rw [decide_eq_true h1, decide_eq_true h2, Bool.true_and, Bool.true_and, List.all_eq_true]
  exact fun k hk => h k (by simpa using hk)

/-- What has been read: so many turns, or none. -/
def gotT (s : ByteArray) : List (Int × Int) := if pB s then parsT s else []
def ParseOut (w : World) (s : ByteArray) (e : Ending) (w' : World) : Prop :=
  ∃ A c, e = .returned (.tuple #[.slice A (gotT s).length c, .bool (pB s)]) ∧ OwnT w' w.heap.size A (gotT s).length (gotT s) ∧ Below w.heap.size w w'
theorem parse_no {w w' : World} {s : ByteArray} (h : pB s = false) (hb : Below w.heap.size w w') : ParseOut w s (.returned (.tuple #[.slice none 0 0, .bool false])) w' := by
  have hg : gotT s = [] := by unfold gotT; rw [h]; rfl
  refine ⟨none, 0, by rw [hg, h]; rfl, ?_, hb⟩
  rw [hg]
  exact ⟨rfl, by decide, .inl rfl⟩
theorem parse_yes {w w' : World} {s : ByteArray} {t : TypeId} {v : Value} (h : pB s = true) (hs : s.size ≤ 400) (ho : w'.ownsRow w.heap.size t 2 v (s.size / 2) (tv (parsT s))) (hb : Below w.heap.size w w') : ParseOut w s (.returned (.tuple #[v, .bool true])) w' := by
  have hg : gotT s = parsT s := by unfold gotT; rw [h]; rfl
  have hl := parsT_length s
  rcases Nat.eq_zero_or_pos (s.size / 2) with h0 | h0
  · have hv : ∃ A c, v = .slice A 0 c := by
      rcases ho.2 with ⟨rfl, _⟩ | ⟨g, cap, cur, rfl, _⟩
      · exact ⟨none, 0, rfl⟩
      · exact ⟨_, cap, by rw [h0]⟩
    obtain ⟨A, c, rfl⟩ := hv
    refine ⟨A, c, by rw [hg, hl, h0, h], ?_, hb⟩
    rw [hg, hl, h0]
    exact ⟨by rw [hl, h0], by decide, .inl rfl⟩
  · obtain ⟨g, c, rfl, hgg, hC⟩ := own_turns ho h0
    refine ⟨some ⟨g, 0, none⟩, c, by rw [hg, hl, h], ?_, hb⟩
    rw [hg, hl]
    exact ⟨hl, by omega, .inr ⟨g, rfl, hgg, hC⟩⟩

def AllOk (s : ByteArray) (k : Nat) : Prop := ∀ j, j < k → pOk s j = true
theorem allOk_succ {s : ByteArray} {k : Nat} (h : AllOk s k) (hk : pOk s k = true) : AllOk s (k + 1) := fun j hj => by
  by_cases e : j = k
  · subst e; exact hk
  · exact h j (by omega)
theorem news_at {W : World} {B : Nat} {cs : Array Value} {t : TypeId} (hB : B = W.heap.size) : ∀ j u, cs.toList[j]? = some u → (W.alloc (.cells cs t)).cell? ((⟨B, 0, none⟩ : Addr).add j) = some u := by
  subst hB
  exact World.news_of_block (heap_alloc_new W _)
theorem pB_odd {s : ByteArray} (h : ¬ s.size % 2 = 0) : pB s = false := by unfold pB; rw [decide_eq_false h]; rfl
theorem pB_long {s : ByteArray} (h : ¬ s.size ≤ 400) : pB s = false := by unfold pB; rw [decide_eq_false h, Bool.and_false, Bool.false_and]
theorem parse_snoc {s : ByteArray} {k : Nat} {x y : Int} (hk : k < s.size / 2) (hx : ch s (2 * k) = x) (hy : (if ch s (2 * k + 1) = 45 then (-1 : Int) else 1) = y) :
    tv ((parsT s).take (k + 1)) = tv ((parsT s).take k) ++ [.int .i64 (x - 48), .int .i64 y] := by
  rw [tv_snoc (by rw [parsT_length]; exact hk), parsT_at hk, ← hx, ← hy]
  rfl

set_option maxHeartbeats 1000000 in
theorem whParse_any (s : ByteArray) (w : World) (hs : s.size ≤ maxLen) :
    Calls Try.prog 69 #[.string s] w (ParseOut w s) := by
  unfold maxLen at hs
  obtain ⟨i0, hi, hz0, hz1, hz2⟩ := info_parts info_turn
  by_cases he : s.size % 2 = 0
  · by_cases h4 : s.size ≤ 400
    · have HE := Lib.hid he
      have hm : (s.size : Int) % 2 = 0 := by omega
      obtain ⟨m, hm2⟩ : ∃ m, m = s.size / 2 := ⟨_, rfl⟩
      have hms : s.size ≤ 2 * m ∧ 2 * m ≤ s.size := by omega
      obtain ⟨ms1, ms2⟩ := hms
      have HM := Lib.hid hm2
      clear he hm2
      go_enter Try.func69, Try.ntmps69
      go_wp2_with fail
      clear hm
      go_loopw [4, 5] (fun v i wr => ∃ k : Nat, k ≤ m ∧ i = .int .i64 (2 * (k : Int)) ∧ wr.ownsRow w.heap.size 78 2 v k (tv ((parsT s).take k)) ∧ AllOk s k ∧ Below w.heap.size w wr) (fun _ i _ => 2 * m - (intOf i).toNat)
      case atStart => exact ⟨0, by omega, rfl, World.ownsRow_nil _ _ _ _, fun j hj => by omega, Below.refl _ _⟩
      case round =>
        obtain ⟨k, hk, rfl, hown, hall, hB⟩ := hrel
        have HOW := Lib.hid hown
        have HALL := Lib.hid hall
        clear hown hall
        by_cases hlt : k < m
        · have HKM : Hid (k < s.size / 2) := Lib.hid (by rw [← HM.out]; exact hlt)
          have g0 : 2 * k < s.size := by omega
          have g1 : 2 * k + 1 < s.size := by omega
          have hx := ch_at g0
          have hy := ch_at g1
          obtain ⟨x0, x9⟩ := ch_bd s (2 * k)
          obtain ⟨y0, y9⟩ := ch_bd s (2 * k + 1)
          generalize hX : ch s (2 * k) = x at hx x0 x9
          generalize hY : ch s (2 * k + 1) = y at hy y0 y9
          have HX := Lib.hid hX
          have HY := Lib.hid hY
          clear hX hY
          by_cases h45 : y = 45
          · subst h45
            rcases hbi : inB (x - 48) 0 5 with _ | _
            · have HI := Lib.hid hbi
              clear hbi
              have HOK : Hid (pOk s k = false) := Lib.hid (by unfold pOk; rw [HX.out, HY.out, HI.out]; rfl)
              go_wp2_with (first | (go_at_call 52; refine (l1In_any _ _ _ _).mono ?_; rw [HI.out]; rintro e w1 ⟨rfl, rfl⟩))
              go_ret2
              exact parse_no (pB_no HKM.out HOK.out) (hB.alloc hB.size _)
            · have HI := Lib.hid hbi
              clear hbi
              have HSn := Lib.hid (parse_snoc (y := (-1)) HKM.out HX.out (by rw [HY.out]; rfl))
              go_wp2_with (first | (go_at_call 52; refine (l1In_any _ _ _ _).mono ?_; rw [HI.out]; rintro e w1 ⟨rfl, rfl⟩) | (at_builtin; refine wpList_append_own _ rfl _ _ 46 rfl w.heap.size 78 i0 (.agg #[.int .i64 0, .int .i64 0]) 2 16 Try.underlying46 hi hz0 hz1 hz2 rfl (by decide) _ _ _ rfl ((HOW.out.alloc _).alloc _) ⟨wr.heap.size + 1, 0, none⟩ 1 1 [.int .i64 (x - 48), .int .i64 (-1)] rfl rfl (news_at (by simp)) (by simp [Value.oneCell']) (by unfold maxLen; omega) (by omega) (by have h1 := hB.size; simp; omega) ?_; intro v' w4 hown' hgrow hiff; clear hiff))
              have HB4 := Lib.hid (((hB.alloc hB.size _).alloc (by have h1 := hB.size; simp; omega) _).grown hgrow (by have h1 := hB.size; simp; omega) (fun j hj => (HOW.out.lt j hj).1))
              have HO4 : Hid (w4.ownsRow w.heap.size 78 2 v' (k + 1) (tv ((parsT s).take (k + 1)))) := Lib.hid (by rw [HSn.out]; exact hown')
              have HOK : Hid (pOk s k = true) := Lib.hid (by unfold pOk; rw [HX.out, HY.out, HI.out]; rfl)
              clear hgrow hown'
              go_wp2_with fail
              go_roundw
              case rel => exact ⟨k + 1, by omega, congrArg (Value.int .i64) (by omega), HO4.out, allOk_succ HALL.out HOK.out, HB4.out⟩
              case measure => simp [intOf]; omega
          · by_cases h43 : y = 43
            · subst h43
              rcases hbi : inB (x - 48) 0 5 with _ | _
              · have HI := Lib.hid hbi
                clear hbi
                have HOK : Hid (pOk s k = false) := Lib.hid (by unfold pOk; rw [HX.out, HY.out, HI.out]; rfl)
                go_wp2_with (first | (go_at_call 52; refine (l1In_any _ _ _ _).mono ?_; rw [HI.out]; rintro e w1 ⟨rfl, rfl⟩))
                go_ret2
                exact parse_no (pB_no HKM.out HOK.out) (hB.alloc hB.size _)
              · have HI := Lib.hid hbi
                clear hbi
                have HSn := Lib.hid (parse_snoc (y := 1) HKM.out HX.out (by rw [HY.out]; rfl))
                go_wp2_with (first | (go_at_call 52; refine (l1In_any _ _ _ _).mono ?_; rw [HI.out]; rintro e w1 ⟨rfl, rfl⟩) | (at_builtin; refine wpList_append_own _ rfl _ _ 46 rfl w.heap.size 78 i0 (.agg #[.int .i64 0, .int .i64 0]) 2 16 Try.underlying46 hi hz0 hz1 hz2 rfl (by decide) _ _ _ rfl ((HOW.out.alloc _).alloc _) ⟨wr.heap.size + 1, 0, none⟩ 1 1 [.int .i64 (x - 48), .int .i64 1] rfl rfl (news_at (by simp)) (by simp [Value.oneCell']) (by unfold maxLen; omega) (by omega) (by have h1 := hB.size; simp; omega) ?_; intro v' w4 hown' hgrow hiff; clear hiff))
                have HB4 := Lib.hid (((hB.alloc hB.size _).alloc (by have h1 := hB.size; simp; omega) _).grown hgrow (by have h1 := hB.size; simp; omega) (fun j hj => (HOW.out.lt j hj).1))
                have HO4 : Hid (w4.ownsRow w.heap.size 78 2 v' (k + 1) (tv ((parsT s).take (k + 1)))) := Lib.hid (by rw [HSn.out]; exact hown')
                have HOK : Hid (pOk s k = true) := Lib.hid (by unfold pOk; rw [HX.out, HY.out, HI.out]; rfl)
                clear hgrow hown'
                go_wp2_with fail
                go_roundw
                case rel => exact ⟨k + 1, by omega, congrArg (Value.int .i64) (by omega), HO4.out, allOk_succ HALL.out HOK.out, HB4.out⟩
                case measure => simp [intOf]; omega
            · have f1 : (y == 45) = false := by simpa using h45
              have f2 : (y != 43) = true := by simpa using h43
              have f3 : (y != 45) = true := by simpa using h45
              have HOK : Hid (pOk s k = false) := Lib.hid (by unfold pOk; rw [HY.out, decide_eq_false h43, decide_eq_false h45]; exact Bool.and_false _)
              clear h45 h43
              rcases hbi : inB (x - 48) 0 5 with _ | _
              all_goals
                have HI := Lib.hid hbi
                clear hbi
                go_wp2_with (first | (go_at_call 52; refine (l1In_any _ _ _ _).mono ?_; rw [HI.out]; rintro e w1 ⟨rfl, rfl⟩))
                go_ret2
                exact parse_no (pB_no HKM.out HOK.out) (hB.alloc hB.size _)
        · go_wp2_with fail
          go_ret2
          have e0 : k = m := by omega
          have hok := pB_all HE.out h4 (fun j hj => HALL.out j (by rw [e0, HM.out]; exact hj))
          refine parse_yes (t := 78) hok h4 ?_ hB
          have := HOW.out
          rw [e0, HM.out, List.take_of_length_le (by rw [parsT_length]; omega)] at this
          exact this
    · go_enter Try.func69, Try.ntmps69
      go_wp2_with fail
      go_ret2
      exact parse_no (pB_long h4) (Below.refl _ _)
  · go_enter Try.func69, Try.ntmps69
    go_wp2_with fail
    go_ret2
    exact parse_no (pB_odd he) (Below.refl _ _)

end Go.Proofs.Ythnekpdakjcadab
