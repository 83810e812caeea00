/- Turns read from a text, as the program reads them. No conditions. -/
import Derived.Test.YthnekpdakjcadabParse
namespace Go.Proofs.Ythnekpdakjcadab
open Go.ChangeShapes Go.WideShapes Go.ChangeAt Go.RowKit Go.Joins

theorem specParse_any (s : ByteArray) (w : World) (hs : s.size ≤ maxLen) :
    Calls Try.prog 32 #[.string s] w (ParseOut w s) := by
  have HS := Lib.hid hs
  clear hs
  go_enter Try.func32, Try.ntmps32
  go_wp2_with (go_at_call 69; refine (whParse_any _ _ HS.out).mono ?_; rintro e w1 ⟨A, c, rfl, hO, hb⟩)
  go_ret2
  exact ⟨A, c, rfl, hO, hb⟩

def sgOk (s : ByteArray) (k : Nat) : Bool := decide (ch s (2 * k + 1) = 43) || decide (ch s (2 * k + 1) = 45)
def AllSg (s : ByteArray) (k : Nat) : Prop := ∀ j, j < k → sgOk s j = true
theorem allSg_succ {s : ByteArray} {k : Nat} (h : AllSg s k) (hk : sgOk s k = true) : AllSg s (k + 1) := fun j hj => by
  by_cases e : j = k
  · subst e; exact hk
  · exact h j (by omega)
theorem pB_sg {s : ByteArray} {k : Nat} (hk : k < s.size / 2) (h : sgOk s k = false) : pB s = false := pB_no hk (by unfold pOk; unfold sgOk at h; rw [h, Bool.and_false])
theorem turns_parse {s : ByteArray} (h1 : s.size % 2 = 0) (h2 : s.size ≤ 400) (h : AllSg s (s.size / 2)) : turnsB 6 (parsT s) = pB s := by
  have ht : ∀ k, k < s.size / 2 → turnB 6 (pT s k).1 (pT s k).2 = pOk s k := fun k hk => by
    have hsg := h k hk
    unfold sgOk at hsg
    unfold turnB pOk pT
    rw [hsg]
    congr 1
    show (decide ((if ch s (2 * k + 1) = 45 then (-1 : Int) else 1) = 1) || decide ((if ch s (2 * k + 1) = 45 then (-1 : Int) else 1) = -1)) = true
    split <;> simp
  unfold turnsB pB
  rw [parsT_length, decide_eq_true h1, decide_eq_true h2, decide_eq_true (by omega), Bool.true_and, Bool.true_and, Bool.true_and]
  rw [Bool.eq_iff_iff, List.all_eq_true, List.all_eq_true]
  unfold parsT
  constructor
  · intro H k hk
    rw [← ht k (by simpa using hk)]
    exact H _ (List.mem_map_of_mem hk)
  · intro H t hmem
    obtain ⟨k, hk, rfl⟩ := List.mem_map.1 hmem
    rw [ht k (by simpa using hk)]
    exact H k hk

theorem make_some (m : Nat) (hm : m ≤ 1000) (W : World) : (Instr.makeSlice 46 (.int .i64 0) (.int .i64 (m : Int))).run Try.prog W = .ok (.slice (some ⟨W.heap.size, 0, none⟩) 0 m) (W.alloc (.cells (madeCells #[.int .i64 0, .int .i64 0] (m * 2)) 78)) := by
  obtain ⟨i0, hi, hz0, hz1, hz2⟩ := info_parts info_turn
  have := run_make_rowN (P := Try.prog) 46 78 i0 _ Try.underlying46 hi hz0 .i64 .i64 0 m (Nat.zero_le _) (by rw [hz2]; omega) (by omega) W
  rw [hz1] at this
  exact this

set_option maxHeartbeats 1000000 in
theorem parse_any (s : ByteArray) (w : World) (hs : s.size ≤ maxLen) :
    Calls Try.prog 33 #[.string s] w (ParseOut w s) := by
  unfold maxLen at hs
  obtain ⟨i0, hi, hz0, hz1, hz2⟩ := info_parts info_turn
  by_cases he : s.size % 2 = 0
  · by_cases h4 : s.size ≤ 400
    · have HE := Lib.hid he
      have hm : (s.size : Int) % 2 = 0 := by omega
      obtain ⟨m, hm2⟩ : ∃ m, m = s.size / 2 := ⟨_, rfl⟩
      have hms : s.size ≤ 2 * m ∧ 2 * m ≤ s.size := by omega
      obtain ⟨ms1, ms2⟩ := hms
      have HM := Lib.hid hm2
      have hmk : ∀ W : World, (Instr.makeSlice 46 (.int .i64 0) (.int .i64 ((s.size : Int) / 2))).run Try.prog W = .ok (.slice (some ⟨W.heap.size, 0, none⟩) 0 m) (W.alloc (.cells (madeCells #[.int .i64 0, .int .i64 0] (m * 2)) 78)) := fun W => by
        rw [show (s.size : Int) / 2 = (m : Int) by omega]; exact make_some m (by omega) W
      have HOW0 := Lib.hid (World.ownsRow_made (base := w.heap.size) (e := 78) (size := 2) w (madeCells #[.int .i64 0, .int .i64 0] (m * 2)) m (Nat.le_refl _) (by unfold maxLen; omega) (by rw [size_madeCells]))
      clear he hm2
      go_enter Try.func33, Try.ntmps33
      go_wp2_with fail
      clear hm hmk
      by_cases m0 : m = 0
      · have hok : pB s = true := pB_all HE.out h4 (fun k hk => by have := HM.out; omega)
        have hp : parsT s = [] := List.eq_nil_of_length_eq_zero (by rw [parsT_length]; have := HM.out; omega)
        have HT : Hid (turnsB 6 [] = true) := Lib.hid rfl
        have HO0 := Lib.hid hok
        have HP := Lib.hid hp
        have m0' : m ≤ 0 := by omega
        clear hok hp m0
        go_loopw [4, 5] (fun v i wr => v = .slice (some ⟨w.heap.size, 0, none⟩) 0 m ∧ i = .int .i64 0 ∧ wr.ownsRow w.heap.size 78 2 (.slice (some ⟨w.heap.size, 0, none⟩) 0 m) 0 [] ∧ w.heap.size < wr.heap.size ∧ Below w.heap.size w wr) (fun _ _ _ => 0)
        case atStart => exact ⟨rfl, rfl, HOW0.out, by simp, by (repeat (first | assumption | exact Below.refl _ _ | (refine Below.alloc ?_ (by first | omega | (simp; done) | (simp; omega)) _) | (refine Below.setCell ?_ (by first | omega | (simp; done) | (simp; omega)) _) | refine bel_drewN ?_ _ | refine bel_drew ?_ | (refine bel_call ?_ (by assumption))))⟩
        case round =>
          obtain ⟨rfl, rfl, hown, hz, hB⟩ := hrel
          have HOW := Lib.hid hown
          clear hown
          go_wp2_with (go_at_call 66; refine (areText_any [] 0 _ _ _ rfl (by omega) ⟨hz, fun j hj => by omega⟩).mono ?_; rw [HT.out]; rintro e w3 ⟨rfl, hb3⟩)
          go_ret2
          refine parse_yes (t := 78) HO0.out h4 ?_ (bel_call hB hb3)
          rw [HP.out, show s.size / 2 = 0 by have := HM.out; omega]
          exact own_below HOW.out hb3
      · go_loopw [4, 5] (fun v i wr => ∃ k : Nat, k ≤ m ∧ i = .int .i64 (2 * (k : Int)) ∧ wr.ownsRow w.heap.size 78 2 v k (tv ((parsT s).take k)) ∧ AllSg s k ∧ Below w.heap.size w wr) (fun _ i _ => 2 * m - (intOf i).toNat)
        case atStart => exact ⟨0, by omega, rfl, HOW0.out, fun j hj => by omega, by (repeat (first | assumption | exact Below.refl _ _ | (refine Below.alloc ?_ (by first | omega | (simp; done) | (simp; omega)) _) | (refine Below.setCell ?_ (by first | omega | (simp; done) | (simp; omega)) _) | refine bel_drewN ?_ _ | refine bel_drew ?_ | (refine bel_call ?_ (by assumption))))⟩
        case round =>
          obtain ⟨k, hk, rfl, hown, hall, hB⟩ := hrel
          have HOW := Lib.hid hown
          have HALL := Lib.hid hall
          clear hown hall
          by_cases hlt : k < m
          · have HKM : Hid (k < s.size / 2) := Lib.hid (by rw [← HM.out]; exact hlt)
            have g0 : 2 * k < s.size := by omega
            have g1 : 2 * k + 1 < s.size := by omega
            have hx := ch_at g0
            have hy := ch_at g1
            obtain ⟨x0, x9⟩ := ch_bd s (2 * k)
            obtain ⟨y0, y9⟩ := ch_bd s (2 * k + 1)
            generalize hX : ch s (2 * k) = x at hx x0 x9
            generalize hY : ch s (2 * k + 1) = y at hy y0 y9
            have HX := Lib.hid hX
            have HY := Lib.hid hY
            clear hX hY
            by_cases h45 : y = 45
            · subst h45
              have HSn := Lib.hid (parse_snoc (y := (-1)) HKM.out HX.out (by rw [HY.out]; rfl))
              go_wp2_with (first | (go_at_call 70; refine (back_any _ _).mono ?_; rintro e w3 ⟨rfl, hb3⟩; have hown3 := own_below HOW.out hb3) | (at_builtin; refine wpList_append_own _ rfl _ _ 46 rfl w.heap.size 78 i0 (.agg #[.int .i64 0, .int .i64 0]) 2 16 Try.underlying46 hi hz0 hz1 hz2 rfl (by decide) _ _ _ rfl (hown3.alloc _) ⟨w3.heap.size, 0, none⟩ 1 1 [.int .i64 (x - 48), .int .i64 (-1)] rfl rfl (news_at rfl) (by simp [Value.oneCell']) (by unfold maxLen; omega) (by omega) (by have h1 := hB.size; have h2 := hb3.size; simp; omega) ?_; intro v' w4 hown' hgrow hiff; clear hiff))
              have HB4 := Lib.hid (((bel_call hB hb3).alloc (Nat.le_trans hB.size hb3.size) _).grown hgrow (by have h1 := hB.size; have h2 := hb3.size; simp; omega) (fun j hj => (hown3.lt j hj).1))
              have HO4 : Hid (w4.ownsRow w.heap.size 78 2 v' (k + 1) (tv ((parsT s).take (k + 1)))) := Lib.hid (by rw [HSn.out]; exact hown')
              have HOK : Hid (sgOk s k = true) := Lib.hid (by unfold sgOk; rw [HY.out]; rfl)
              clear hgrow hown' hown3 hb3
              go_wp2_with fail
              go_roundw
              case rel => exact ⟨k + 1, by omega, congrArg (Value.int .i64) (by omega), HO4.out, allSg_succ HALL.out HOK.out, HB4.out⟩
              case measure => simp [intOf]; omega
            · by_cases h43 : y = 43
              · subst h43
                have HSn := Lib.hid (parse_snoc (y := 1) HKM.out HX.out (by rw [HY.out]; rfl))
                go_wp2_with (first | (go_at_call 67; refine (forth_any _ _).mono ?_; rintro e w3 ⟨rfl, hb3⟩; have hown3 := own_below HOW.out hb3) | (at_builtin; refine wpList_append_own _ rfl _ _ 46 rfl w.heap.size 78 i0 (.agg #[.int .i64 0, .int .i64 0]) 2 16 Try.underlying46 hi hz0 hz1 hz2 rfl (by decide) _ _ _ rfl (hown3.alloc _) ⟨w3.heap.size, 0, none⟩ 1 1 [.int .i64 (x - 48), .int .i64 1] rfl rfl (news_at rfl) (by simp [Value.oneCell']) (by unfold maxLen; omega) (by omega) (by have h1 := hB.size; have h2 := hb3.size; simp; omega) ?_; intro v' w4 hown' hgrow hiff; clear hiff))
                have HB4 := Lib.hid (((bel_call hB hb3).alloc (Nat.le_trans hB.size hb3.size) _).grown hgrow (by have h1 := hB.size; have h2 := hb3.size; simp; omega) (fun j hj => (hown3.lt j hj).1))
                have HO4 : Hid (w4.ownsRow w.heap.size 78 2 v' (k + 1) (tv ((parsT s).take (k + 1)))) := Lib.hid (by rw [HSn.out]; exact hown')
                have HOK : Hid (sgOk s k = true) := Lib.hid (by unfold sgOk; rw [HY.out]; rfl)
                clear hgrow hown' hown3 hb3
                go_wp2_with fail
                go_roundw
                case rel => exact ⟨k + 1, by omega, congrArg (Value.int .i64) (by omega), HO4.out, allSg_succ HALL.out HOK.out, HB4.out⟩
                case measure => simp [intOf]; omega
              · have f1 : (y == 45) = false := by simpa using h45
                have f2 : (y == 43) = false := by simpa using h43
                have HOK : Hid (sgOk s k = false) := Lib.hid (by unfold sgOk; rw [HY.out, decide_eq_false h43, decide_eq_false h45]; rfl)
                clear h45 h43
                go_wp2_with fail
                go_ret2
                exact parse_no (pB_sg HKM.out HOK.out) hB
          · have e0 : k = m := by omega
            have how := HOW.out
            rw [e0, show (parsT s).take m = parsT s from List.take_of_length_le (by rw [parsT_length, HM.out]; omega)] at how
            have HOG := Lib.hid how
            obtain ⟨g, c, rfl, hgg, hC⟩ := own_turns how (by omega)
            have HC := Lib.hid hC
            have HALL2 : Hid (AllSg s (s.size / 2)) := Lib.hid (by rw [← HM.out, ← e0]; exact HALL.out)
            have HT := Lib.hid (turns_parse HE.out h4 HALL2.out)
            clear how hC
            rcases hpb : pB s with _ | _
            · have HPB := Lib.hid hpb
              clear hpb
              go_wp2_with (go_at_call 66; refine (areText_any (parsT s) m _ _ _ (by rw [parsT_length, HM.out]) (by omega) HC.out).mono ?_; rw [HT.out, HPB.out]; rintro e w3 ⟨rfl, hb3⟩)
              go_ret2
              exact parse_no HPB.out (bel_call hB hb3)
            · have HPB := Lib.hid hpb
              clear hpb
              go_wp2_with (go_at_call 66; refine (areText_any (parsT s) m _ _ _ (by rw [parsT_length, HM.out]) (by omega) HC.out).mono ?_; rw [HT.out, HPB.out]; rintro e w3 ⟨rfl, hb3⟩)
              go_ret2
              refine parse_yes (t := 78) HPB.out h4 ?_ (bel_call hB hb3)
              rw [← HM.out]
              exact own_below HOG.out hb3
    · go_enter Try.func33, Try.ntmps33
      go_wp2_with fail
      go_ret2
      exact parse_no (pB_long h4) (Below.refl _ _)
  · go_enter Try.func33, Try.ntmps33
    go_wp2_with fail
    go_ret2
    exact parse_no (pB_odd he) (Below.refl _ _)

end Go.Proofs.Ythnekpdakjcadab
