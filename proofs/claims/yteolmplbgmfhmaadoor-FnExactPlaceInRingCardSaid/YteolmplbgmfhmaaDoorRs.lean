/- The windows of a text and the codes among them, as the model lists and marks them. For texts of at most 1500 letters and locks of few codes. -/
import Derived.Test.YteolmplbgmfhmaaDoorRl
import Derived.Test.YteolmplbgmfhmaaDoorStrs
namespace Go.Proofs.YteolmplbgmfhmaaDoor
open Go.ChangeShapes Go.WideShapes Go.ChangeAt Go.RowKit Go.Joins

/-- The lesser one. -/
def lsI (x y : Int) : Int := if x < y then x else y

theorem l1Least_rg (x y : Int) (w : World) :
    Calls Tryd.prog 49 #[.int .i64 x, .int .i64 y] w fun e w' => e = .returned (.int .i64 (lsI x y)) ∧ w' = w := by
  by_cases h : x < y
  all_goals
    go_enter Tryd.func49, Tryd.ntmps49
    go_wp2
    go_ret
    exact ⟨ret_int (by simp [lsI, h] <;> omega), rfl⟩

/-- The text that is looked at: around or not. -/
def rdT (ar : Bool) (n : Nat) (s : ByteArray) : ByteArray := if ar then arT n s else s

theorem arT_one (s : ByteArray) : arT 1 s = s := by
  refine bytes_ext ?_
  rw [arT_list]
  simp

theorem codesT_snoc (r : ByteArray) (n k : Nat) (h : k < r.size + 1 - n) : (codesT r n).take (k + 1) = (codesT r n).take k ++ [r.extract k (k + n)] := by
  have hl := codesT_length r n
  rw [List.take_succ_eq_append_getElem (by rw [hl]; exact h)]
  congr 1
  have := codesT_at h
  rw [List.getElem?_eq_getElem (by rw [hl]; exact h)] at this
  rw [Option.some.inj this]
  rfl

set_option maxRecDepth 100000 in
set_option maxHeartbeats 4000000 in
theorem riCodes_any (n : Nat) (b : Int) (s : ByteArray) (ar : Bool) (w : World) (hg : goodB n b = true) (hs : s.size ≤ 1500) (hn : ar = true → n ≤ s.size + 1) :
    Calls Tryd.prog 33 #[.agg #[.int .i64 n, .int .i64 b], .string s, .bool ar] w fun e w' => ∃ A c, e = .returned (.slice A (codesT (rdT ar n s) n).length c) ∧ OwnS w' w.heap.size A (codesT (rdT ar n s) n).length (codesT (rdT ar n s) n) ∧ Below w.heap.size w w' := by
  obtain ⟨i0, hi, hz0, hz1, hz2⟩ := info_parts info_string
  obtain ⟨h1, h6, h2, h10⟩ := good_yes hg
  obtain ⟨r, hr⟩ : ∃ r, rdT ar n s = r := ⟨_, rfl⟩
  have HR := Lib.hid hr
  rw [hr]
  have hr1 : r.size ≤ 1506 := by
    rw [← hr]
    unfold rdT
    cases ar with
    | true => rw [if_pos rfl, arT_size (hn rfl)]; omega
    | false => rw [if_neg (by decide)]; omega
  have HLEN := Lib.hid (codesT_length r n)
  clear hr
  cases ar with
  | true =>
    have hn1 := hn rfl
    have HRA : Hid (arT n s = r) := Lib.hid (by rw [← HR.out]; rfl)
    have HAS := Lib.hid (arT_size hn1)
    clear hn HR
    go_enter Tryd.func33, Tryd.ntmps33
    go_wp2
    go_loopw [1] (fun u wr => ∃ t : ByteArray, u = .string t ∧ (t = r ∨ (t = s ∧ 1 < n)) ∧ wr.cell? ⟨w.heap.size, 0, none⟩ = some (.int .i64 n) ∧ wr.cell? ⟨w.heap.size, 1, none⟩ = some (.int .i64 b) ∧ Below w.heap.size w wr ∧ w.heap.size < wr.heap.size) (fun u _ => match u with | .string t => s.size + n - 1 - t.size | _ => 0)
    case atStart =>
      refine ⟨s, rfl, ?_, by simp, by simp, (Below.refl _ _).alloc (Nat.le_refl _) _, by simp⟩
      by_cases e : 1 < n
      · exact .inr ⟨rfl, e⟩
      · refine .inl ?_
        rw [← HRA.out, show n = 1 by omega, arT_one]
    case round =>
      obtain ⟨t, rfl, ht, c0, c1, hB, hz⟩ := hrel
      by_cases hin : t = s ∧ 1 < n
      · obtain ⟨rfl, hn2⟩ := hin
        clear ht
        have HL : Hid (lsI (t.size : Int) ((n : Int) - 1) = ((n - 1 : Nat) : Int)) := Lib.hid (by unfold lsI; split <;> omega)
        have hsl : (t.size : Int) + (n : Int) - 1 - (t.size : Int) = (n : Int) - 1 := by omega
        obtain ⟨k, HK⟩ : ∃ k : Nat, Hid (n - 1 = k) := ⟨_, Lib.hid rfl⟩
        have hk1 : k ≤ t.size := by have := HK.out; omega
        have hadd : ∀ W : World, (Op.stringOp .add t (t.extract 0 k)).run Tryd.prog W = .ok (.string r) W := fun W => by
          rw [run_string_add_sum _ _ _ (by rw [ByteArray.size_extract]; omega), ← HRA.out]
          unfold arT
          rw [HK.out]
        go_wp2_with (go_at_call 49; refine (l1Least_rg _ _ _).mono ?_; rw [HL.out, HK.out]; rintro e w1 ⟨rfl, rfl⟩)
        go_roundw
        case rel => exact ⟨r, rfl, .inl rfl, c0, c1, hB, hz⟩
        case measure =>
          have := HAS.out
          rw [HRA.out] at this
          simp
          omega
      · have htr : t = r := by
          rcases ht with h | h
          · exact h
          · exact absurd h hin
        subst htr
        have hts : t.size = s.size + (n - 1) := by rw [← HRA.out]; exact HAS.out
        have hge : ¬ (t.size : Int) < (s.size : Int) + (n : Int) - 1 := by omega
        clear hts
        go_wp2
        go_loopw [8, 9] (fun v i wr => ∃ k : Nat, k ≤ t.size + 1 - n ∧ i = .int .i64 k ∧ wr.ownsRow (w.heap.size + 1) 9 1 v k (sv ((codesT t n).take k)) ∧ wr.cell? ⟨w.heap.size, 0, none⟩ = some (.int .i64 n) ∧ wr.cell? ⟨w.heap.size, 1, none⟩ = some (.int .i64 b) ∧ Below w.heap.size w wr ∧ w.heap.size < wr.heap.size) (fun _ i _ => t.size + 1 - n - (intOf i).toNat)
        case atStart => exact ⟨0, by omega, rfl, World.ownsRow_nil _ _ _ _, c0, c1, hB, hz⟩
        case round =>
          clear c0 c1 hB hz
          obtain ⟨k, hk, rfl, hown, c0, c1, hB, hz⟩ := hrel
          by_cases hlt : k < t.size + 1 - n
          · have HT := Lib.hid (codesT_snoc t n k hlt)
            have hle : (k : Int) + (n : Int) ≤ (t.size : Int) := by omega
            obtain ⟨q, HQ⟩ : ∃ q, Hid (t.extract k (k + n) = q) := ⟨_, Lib.hid rfl⟩
            have e0 : (wr.alloc (.cells #[.string (t.extract k (k + n))] 9)).cell? ⟨w.heap.size, 0, none⟩ = some (.int .i64 n) := by rw [World.cell?_alloc_lt _ _ _ hz]; exact c0
            have e1 : (wr.alloc (.cells #[.string (t.extract k (k + n))] 9)).cell? ⟨w.heap.size, 1, none⟩ = some (.int .i64 b) := by rw [World.cell?_alloc_lt _ _ _ hz]; exact c1
            go_wp2_with (at_builtin; refine wpList_append_own _ rfl _ _ 34 rfl (w.heap.size + 1) 9 i0 (.string ByteArray.empty) 1 16 Tryd.underlying34 hi hz0 hz1 hz2 rfl (by decide) _ _ _ rfl (hown.alloc _) ⟨wr.heap.size, 0, none⟩ 1 1 [.string (t.extract k (k + n))] rfl rfl (news_of rfl) (by simp [Value.oneCell']) (by unfold maxLen; omega) (by omega) (by simp; omega) ?_)
            intro v' w1 hown' hgrow _
            have hlo := hown.lt
            have hB' : Below w.heap.size w w1 := (hB.alloc hB.size _).grown hgrow (by simp; omega) (fun j hj => by have := (hlo j hj).1; omega)
            have f0 : w1.cell? ⟨w.heap.size, 0, none⟩ = some (.int .i64 n) := hgrow.cell e0 (fun e => by have h' : w.heap.size + 1 ≤ w.heap.size := (hlo _ e.symm).1; omega)
            have f1 : w1.cell? ⟨w.heap.size, 1, none⟩ = some (.int .i64 b) := hgrow.cell e1 (fun e => by have h' : w.heap.size + 1 ≤ w.heap.size := (hlo _ e.symm).1; omega)
            have hz' : w.heap.size < w1.heap.size := by have := hgrow.size; simp at this; omega
            clear hgrow hown c0 c1 hB hz e0 e1
            go_wp2
            go_roundw
            case rel => exact ⟨k + 1, by omega, by go_num, by rw [HT.out, sv_snoc]; exact hown', f0, f1, hB', hz'⟩
            case measure => simp [intOf]; omega
          · obtain rfl : k = t.size + 1 - n := by omega
            have hle : ¬ ((t.size + 1 - n : Nat) : Int) + (n : Int) ≤ (t.size : Int) := by omega
            go_wp2
            go_ret
            rw [List.take_of_length_le (by rw [HLEN.out]; exact Nat.le_refl _)] at hown
            obtain ⟨A, c, rfl, hO⟩ := own_strs (ts := codesT t n) hown (by omega)
            rw [HLEN.out]
            first | exact ⟨A, c, rfl, hO.base (by omega), hB⟩ | exact ⟨A, ⟨c, rfl⟩, hO.base (by omega), hB⟩
  | false =>
    obtain rfl : s = r := HR.out
    have c0 : (w.alloc (.cells #[.int .i64 n, .int .i64 b] 26)).cell? ⟨w.heap.size, 0, none⟩ = some (.int .i64 n) := by simp
    have c1 : (w.alloc (.cells #[.int .i64 n, .int .i64 b] 26)).cell? ⟨w.heap.size, 1, none⟩ = some (.int .i64 b) := by simp
    have hB : Below w.heap.size w (w.alloc (.cells #[.int .i64 n, .int .i64 b] 26)) := (Below.refl _ _).alloc (Nat.le_refl _) _
    have hz : w.heap.size < (w.alloc (.cells #[.int .i64 n, .int .i64 b] 26)).heap.size := by simp
    go_enter Tryd.func33, Tryd.ntmps33
    go_wp2
    go_loopw [8, 9] (fun v i wr => ∃ k : Nat, k ≤ s.size + 1 - n ∧ i = .int .i64 k ∧ wr.ownsRow (w.heap.size + 1) 9 1 v k (sv ((codesT s n).take k)) ∧ wr.cell? ⟨w.heap.size, 0, none⟩ = some (.int .i64 n) ∧ wr.cell? ⟨w.heap.size, 1, none⟩ = some (.int .i64 b) ∧ Below w.heap.size w wr ∧ w.heap.size < wr.heap.size) (fun _ i _ => s.size + 1 - n - (intOf i).toNat)
    case atStart => exact ⟨0, by omega, rfl, World.ownsRow_nil _ _ _ _, c0, c1, hB, hz⟩
    case round =>
      clear c0 c1 hB hz
      obtain ⟨k, hk, rfl, hown, c0, c1, hB, hz⟩ := hrel
      by_cases hlt : k < s.size + 1 - n
      · have HT := Lib.hid (codesT_snoc s n k hlt)
        have hle : (k : Int) + (n : Int) ≤ (s.size : Int) := by omega
        obtain ⟨q, HQ⟩ : ∃ q, Hid (s.extract k (k + n) = q) := ⟨_, Lib.hid rfl⟩
        have e0 : (wr.alloc (.cells #[.string (s.extract k (k + n))] 9)).cell? ⟨w.heap.size, 0, none⟩ = some (.int .i64 n) := by rw [World.cell?_alloc_lt _ _ _ hz]; exact c0
        have e1 : (wr.alloc (.cells #[.string (s.extract k (k + n))] 9)).cell? ⟨w.heap.size, 1, none⟩ = some (.int .i64 b) := by rw [World.cell?_alloc_lt _ _ _ hz]; exact c1
        go_wp2_with (at_builtin; refine wpList_append_own _ rfl _ _ 34 rfl (w.heap.size + 1) 9 i0 (.string ByteArray.empty) 1 16 Tryd.underlying34 hi hz0 hz1 hz2 rfl (by decide) _ _ _ rfl (hown.alloc _) ⟨wr.heap.size, 0, none⟩ 1 1 [.string (s.extract k (k + n))] rfl rfl (news_of rfl) (by simp [Value.oneCell']) (by unfold maxLen; omega) (by omega) (by simp; omega) ?_)
        intro v' w1 hown' hgrow _
        have hlo := hown.lt
        have hB' : Below w.heap.size w w1 := (hB.alloc hB.size _).grown hgrow (by simp; omega) (fun j hj => by have := (hlo j hj).1; omega)
        have f0 : w1.cell? ⟨w.heap.size, 0, none⟩ = some (.int .i64 n) := hgrow.cell e0 (fun e => by have h' : w.heap.size + 1 ≤ w.heap.size := (hlo _ e.symm).1; omega)
        have f1 : w1.cell? ⟨w.heap.size, 1, none⟩ = some (.int .i64 b) := hgrow.cell e1 (fun e => by have h' : w.heap.size + 1 ≤ w.heap.size := (hlo _ e.symm).1; omega)
        have hz' : w.heap.size < w1.heap.size := by have := hgrow.size; simp at this; omega
        clear hgrow hown c0 c1 hB hz e0 e1
        go_wp2
        go_roundw
        case rel => exact ⟨k + 1, by omega, by go_num, by rw [HT.out, sv_snoc]; exact hown', f0, f1, hB', hz'⟩
        case measure => simp [intOf]; omega
      · obtain rfl : k = s.size + 1 - n := by omega
        have hle : ¬ ((s.size + 1 - n : Nat) : Int) + (n : Int) ≤ (s.size : Int) := by omega
        go_wp2
        go_ret
        rw [List.take_of_length_le (by rw [HLEN.out]; exact Nat.le_refl _)] at hown
        obtain ⟨A, c, rfl, hO⟩ := own_strs (ts := codesT s n) hown (by omega)
        rw [HLEN.out]
        first | exact ⟨A, c, rfl, hO.base (by omega), hB⟩ | exact ⟨A, ⟨c, rfl⟩, hO.base (by omega), hB⟩

theorem seen_snoc (a b : Int) (ts : List ByteArray) (k : Nat) (h : k < ts.length) (i : Nat) : seenB a b (ts.take (k + 1)) i = (seenB a b (ts.take k) i || nuN a b (ts.getD k ByteArray.empty) == i) := by
  unfold seenB
  rw [List.take_succ_eq_append_getElem h, List.any_append]
  simp [List.getD, List.getElem?_eq_getElem h]

end Go.Proofs.YteolmplbgmfhmaaDoor
