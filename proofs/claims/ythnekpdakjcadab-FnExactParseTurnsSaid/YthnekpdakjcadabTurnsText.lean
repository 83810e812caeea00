/- Texts of turns, as both programs make them. No conditions. -/
import Derived.Test.YthnekpdakjcadabOpenTurns
namespace Go.Proofs.Ythnekpdakjcadab
open Go.ChangeShapes Go.WideShapes Go.ChangeAt Go.RowKit Go.Joins

def sgn (y : Int) : Int := if y = 1 then 43 else 45
/-- The letters of turns. -/
def showL (ts : List (Int × Int)) : List Int := ts.flatMap fun t => [48 + t.1, sgn t.2]
theorem showL_snoc {ts : List (Int × Int)} {k : Nat} (h : k < ts.length) : showL (ts.take (k + 1)) = showL (ts.take k) ++ [48 + (ts.getD k (0, 0)).1, sgn (ts.getD k (0, 0)).2] := by
  unfold showL
  rw [List.take_succ_eq_append_getElem h, List.flatMap_append]
  simp [List.getD, List.getElem?_eq_getElem h]
theorem showL_length (ts : List (Int × Int)) : (showL ts).length = 2 * ts.length := by
  unfold showL
  induction ts with
  | nil => rfl
  | cons t ts ih => rw [List.flatMap_cons, List.length_append, ih]; simp; omega
theorem str_append (xs ys : List Int) : strOfNums xs ++ strOfNums ys = strOfNums (xs ++ ys) := by
  unfold strOfNums
  rw [ByteArray.mk_append_mk]
  congr 1
  simp
theorem turns_at {a : Int} {ts : List (Int × Int)} (h : turnsB a ts = true) {k : Nat} (hk : k < ts.length) : turnB a (ts.getD k (0, 0)).1 (ts.getD k (0, 0)).2 = true := by
  unfold turnsB at h
  rw [Bool.and_eq_true, List.all_eq_true] at h
  have := h.2 ts[k] (List.getElem_mem _)
  simpa [List.getD, List.getElem?_eq_getElem hk] using this
theorem turns_len {a : Int} {ts : List (Int × Int)} (h : turnsB a ts = true) : ts.length ≤ 200 := by
  unfold turnsB at h
  rw [Bool.and_eq_true, decide_eq_true_eq] at h
  exact h.1

theorem turn_what {a x y : Int} (h : turnB a x y = true) : 0 ≤ x ∧ x < a ∧ (y = 1 ∨ y = -1) := by
  unfold turnB inB at h
  simp at h
  omega

theorem whShown_any (ts : List (Int × Int)) (n g c : Nat) (w : World) (hl : ts.length = n) (hC : Cells w g (n * 2) (turnF ts)) (ht : turnsB 6 ts = true) :
    Calls Try.prog 64 #[.slice (some ⟨g, 0, none⟩) n c] w fun e w' => e = .returned (.string (strOfNums (showL ts))) ∧ Below w.heap.size w w' := by
  have HL := Lib.hid hl
  have HC := Lib.hid hC
  have HT := Lib.hid ht
  have hm : n ≤ 200 := by rw [← hl]; exact turns_len ht
  clear hl hC ht
  go_enter Try.func64, Try.ntmps64
  go_wp2_with fail
  go_loopw [3, 8] (fun s i wr => ∃ k : Nat, k ≤ n ∧ i = .int .i64 k ∧ s = .string (strOfNums (showL (ts.take k))) ∧ Cells wr g (n * 2) (turnF ts) ∧ Below w.heap.size w wr) (fun _ i _ => n - (intOf i).toNat)
  case atStart => exact ⟨0, by omega, rfl, rfl, HC.out, Below.refl _ _⟩
  case round =>
    obtain ⟨k, hk, rfl, rfl, hCr, hB⟩ := hrel
    have HR := Lib.hid hCr
    clear hCr
    by_cases hlt : k < n
    · have o0 : wr.cell? ⟨g, k * 2, none⟩ = some (.int .i64 (ts.getD k (0, 0)).1) := by rw [← turnF_0]; exact HR.out.cell (by omega)
      have o1 : wr.cell? ⟨g, k * 2 + 1, none⟩ = some (.int .i64 (ts.getD k (0, 0)).2) := by rw [← turnF_1]; exact HR.out.cell (by omega)
      have HS := Lib.hid (showL_snoc (show k < ts.length by rw [HL.out]; exact hlt))
      obtain ⟨x0, x1, hy⟩ := turn_what (turns_at HT.out (show k < ts.length by rw [HL.out]; exact hlt))
      have hlen : (showL (ts.take k)).length ≤ 400 := by rw [showL_length, List.length_take]; omega
      generalize (ts.getD k (0, 0)).1 = x at o0 HS x0 x1
      generalize (ts.getD k (0, 0)).2 = y at o1 HS hy
      generalize showL (ts.take k) = L at HS hlen
      have hadd : ∀ W : World, (Op.stringOp .add (strOfNums L) (strOfNums [48 + x])).run Try.prog W = .ok (.string (strOfNums (L ++ [48 + x]))) W := fun W => by
        rw [run_string_add_sum _ _ _ (by rw [strOfNums_size, strOne_size]; omega), str_append]
      have hplus : ∀ W : World, (Op.stringOp .add (strOfNums (L ++ [48 + x])) ⟨#[43]⟩).run Try.prog W = .ok (.string (strOfNums (L ++ [48 + x, 43]))) W := fun W => by
        rw [show (⟨#[43]⟩ : ByteArray) = strOfNums [43] from rfl, run_string_add_sum _ _ _ (by rw [strOfNums_size, strOne_size, List.length_append]; simp; omega), str_append, List.append_assoc]
        rfl
      have hminus : ∀ W : World, (Op.stringOp .add (strOfNums (L ++ [48 + x])) ⟨#[45]⟩).run Try.prog W = .ok (.string (strOfNums (L ++ [48 + x, 45]))) W := fun W => by
        rw [show (⟨#[45]⟩ : ByteArray) = strOfNums [45] from rfl, run_string_add_sum _ _ _ (by rw [strOfNums_size, strOne_size, List.length_append]; simp; omega), str_append, List.append_assoc]
        rfl
      rcases hy with rfl | rfl
      all_goals
        go_wp2_with (go_at_call 40; refine (l1Num_any _ _ (by omega) (by omega)).mono ?_; rintro e w1 ⟨rfl, hb⟩; obtain ⟨hc, hf, hz⟩ := bcell hb; have hz0 : wr.heap.size < w1.heap.size := by (try simp at hz); omega)
        have hW : Below wr.heap.size wr w1 := by
          clear hB
          (repeat (first | assumption | exact Below.refl _ _ | (refine Below.alloc ?_ (by first | omega | (simp; done) | (simp; omega)) _) | (refine Below.setCell ?_ (by first | omega | (simp; done) | (simp; omega)) _) | refine bel_drewN ?_ _ | refine bel_drew ?_ | (refine bel_call ?_ (by assumption))))
        have HW := Lib.hid hW
        clear hW hb
        go_roundw
        case rel => exact ⟨k + 1, by omega, by go_num, by rw [HS.out]; rfl, HR.out.call HW.out, bel_call hB HW.out⟩
        case measure => simp [intOf]; omega
    · go_wp2_with fail
      go_ret
      exact ⟨ret_str (by rw [List.take_of_length_le (by rw [HL.out]; omega)]), hB⟩

theorem own_below {w w' : World} {base : Nat} {e : TypeId} {size : Nat} {v : Value} {n : Nat} {xs : List Value} (h : w.ownsRow base e size v n xs) (hb : Below w.heap.size w w') : w'.ownsRow base e size v n xs :=
  h.kept (row := none) ⟨hb.os, hb.tape, hb.output, hb.size, fun i hi _ => hb.block i hi⟩ (Classical.em _)

def bv (xs : List Int) : List Value := xs.map (.int .u8)
theorem conv_own {w : World} {base : Nat} {v : Value} {n : Nat} {xs : List Int} (h : w.ownsRow base 5 1 v n (bv xs)) : (convert 82 9 v).run Try.prog w = .ok (.string (strOfNums xs)) w := by
  have hl : xs.length = n := by simpa [bv] using h.1
  rcases Nat.eq_zero_or_pos n with h0 | h0
  · subst h0
    have hx : xs = [] := List.eq_nil_of_length_eq_zero hl
    subst hx
    rcases h.2 with ⟨rfl, _⟩ | ⟨g, cap, cur, rfl, _⟩
    · exact run_convert_bytes_nil w _ _ Try.underlying82 Try.underlying5 0 0 _ Try.underlying9
    · exact run_convert_bytes_arg w _ _ Try.underlying82 Try.underlying5 g 0 0 cap [] rfl (fun i hi => by omega) _ Try.underlying9
  · obtain ⟨g, c, rfl, _, _⟩ := h.form h0
    exact run_convert_bytes_arg w _ _ Try.underlying82 Try.underlying5 g 0 n c xs hl (fun i hi => by
      rw [Nat.zero_add, h.cellAt i (by omega)]
      unfold bv
      rw [List.getElem?_map, List.getElem?_eq_getElem (by omega)]
      simp [List.getD, List.getElem?_eq_getElem (show i < xs.length by omega)]) _ Try.underlying9

theorem info_byte : (Try.prog.info? 5).map (fun i => (i.zero, i.size, i.bytes)) = some (some (.int .u8 0), 1, 1) := by kernel_rfl

def ttZ (ts : List (Int × Int)) : ByteArray := if turnsB 6 ts then strOfNums (showL ts) else ⟨#[]⟩
theorem ttZ_yes {ts : List (Int × Int)} (h : turnsB 6 ts = true) : ttZ ts = strOfNums (showL ts) := by unfold ttZ; rw [h]; rfl
theorem ttZ_no {ts : List (Int × Int)} (h : turnsB 6 ts = false) : ttZ ts = ⟨#[]⟩ := by unfold ttZ; rw [h]; rfl

theorem areText_any (ts : List (Int × Int)) (n g c : Nat) (w : World) (hl : ts.length = n) (hm : n ≤ 1048576) (hC : Cells w g (n * 2) (turnF ts)) :
    Calls Try.prog 66 #[.slice (some ⟨g, 0, none⟩) n c] w fun e w' => e = .returned (.bool (turnsB 6 ts)) ∧ Below w.heap.size w w' := by
  have HC := Lib.hid hC
  have HL := Lib.hid hl
  clear hC hl
  go_enter Try.func66, Try.ntmps66
  go_wp2_with (go_at_call 74; refine (hasTurns_any _ _ ts _ _ _ _ HL.out hm HC.out).mono ?_; rintro e w1 ⟨rfl, hb⟩)
  go_ret
  refine ⟨rfl, ?_⟩
  (repeat (first | assumption | exact Below.refl _ _ | (refine Below.alloc ?_ (by first | omega | (simp; done) | (simp; omega)) _) | (refine Below.setCell ?_ (by first | omega | (simp; done) | (simp; omega)) _) | refine bel_drewN ?_ _ | refine bel_drew ?_ | (refine bel_call ?_ (by assumption))))

theorem specTurnsText_any (ts : List (Int × Int)) (n g c : Nat) (w : World) (hl : ts.length = n) (hm : n ≤ 1048576) (hC : Cells w g (n * 2) (turnF ts)) :
    Calls Try.prog 28 #[.slice (some ⟨g, 0, none⟩) n c] w fun e w' => e = .returned (.tuple #[.string (ttZ ts), .bool (turnsB 6 ts)]) ∧ Below w.heap.size w w' := by
  have HC := Lib.hid hC
  have HL := Lib.hid hl
  clear hC hl
  by_cases ht : turnsB 6 ts = true
  · have HT := Lib.hid ht
    clear ht
    go_enter Try.func28, Try.ntmps28
    go_wp2_with (first | (go_at_call 63; refine (whTurns_any _ _ ts _ _ _ _ HL.out hm (by omega) (by omega) HC.out).mono ?_; rw [HT.out]; rintro e w1 ⟨rfl, hb⟩) | (go_at_call 64; refine (whShown_any ts _ _ _ _ HL.out (HC.out.call hb) HT.out).mono ?_; rintro e w2 ⟨rfl, hb2⟩))
    go_ret2
    refine ⟨by rw [HT.out, ttZ_yes HT.out]; rfl, ?_⟩
    (repeat (first | assumption | exact Below.refl _ _ | (refine Below.alloc ?_ (by first | omega | (simp; done) | (simp; omega)) _) | (refine Below.setCell ?_ (by first | omega | (simp; done) | (simp; omega)) _) | refine bel_drewN ?_ _ | refine bel_drew ?_ | (refine bel_call ?_ (by assumption))))
  · have HT := Lib.hid (Bool.eq_false_iff.2 ht)
    clear ht
    go_enter Try.func28, Try.ntmps28
    go_wp2_with (first | (go_at_call 63; refine (whTurns_any _ _ ts _ _ _ _ HL.out hm (by omega) (by omega) HC.out).mono ?_; rw [HT.out]; rintro e w1 ⟨rfl, hb⟩))
    go_ret2
    refine ⟨by rw [HT.out, ttZ_no HT.out]; rfl, ?_⟩
    (repeat (first | assumption | exact Below.refl _ _ | (refine Below.alloc ?_ (by first | omega | (simp; done) | (simp; omega)) _) | (refine Below.setCell ?_ (by first | omega | (simp; done) | (simp; omega)) _) | refine bel_drewN ?_ _ | refine bel_drew ?_ | (refine bel_call ?_ (by assumption))))

set_option maxHeartbeats 1000000 in
theorem turnsText_any (ts : List (Int × Int)) (n g c : Nat) (w : World) (hl : ts.length = n) (hm : n ≤ 1048576) (hC : Cells w g (n * 2) (turnF ts)) :
    Calls Try.prog 30 #[.slice (some ⟨g, 0, none⟩) n c] w fun e w' => e = .returned (.tuple #[.string (ttZ ts), .bool (turnsB 6 ts)]) ∧ Below w.heap.size w w' := by
  have HC := Lib.hid hC
  have HL := Lib.hid hl
  clear hC hl
  obtain ⟨i0, hi, hz0, hz1, hz2⟩ := info_parts info_byte
  by_cases ht : turnsB 6 ts = true
  · have HT := Lib.hid ht
    have hm2 : n ≤ 200 := by rw [← HL.out]; exact turns_len ht
    clear ht
    have hmk : ∀ W : World, (Instr.makeSlice 82 (.int .i64 0) (.int .i64 (2 * (n : Int)))).run Try.prog W = .ok (.slice (some ⟨W.heap.size, 0, none⟩) 0 (2 * n)) (W.alloc (.cells (madeCells #[.int .u8 0] (2 * n * 1)) 5)) := fun W => by
      have h := run_make_rowN (P := Try.prog) 82 5 i0 _ Try.underlying82 hi hz0 .i64 .i64 0 (2 * n) (by omega) (by rw [hz2]; omega) (by omega) W
      rw [hz1, show ((2 * n : Nat) : Int) = 2 * (n : Int) by omega] at h
      exact h
    go_enter Try.func30, Try.ntmps30
    go_wp2_with (go_at_call 66; refine (areText_any ts _ _ _ _ HL.out hm HC.out).mono ?_; rw [HT.out]; rintro e w1 ⟨rfl, hb⟩)
    have hown : (w1.alloc (.cells (madeCells #[.int .u8 0] (2 * n)) 5)).ownsRow w.heap.size 5 1 (.slice (some ⟨w1.heap.size, 0, none⟩) 0 (2 * n)) 0 (bv []) :=
      World.ownsRow_made w1 _ (2 * n) hb.size (by unfold maxLen; omega) (by rw [size_madeCells]; omega)
    have HB1 := Lib.hid hb
    have HOW := Lib.hid hown
    have HC1 := Lib.hid (HC.out.call hb)
    clear hown hmk hb
    go_loopw [4, 17] (fun v i wr => ∃ k : Nat, k ≤ n ∧ i = .int .i64 k ∧ wr.ownsRow w.heap.size 5 1 v (2 * k) (bv (showL (ts.take k))) ∧ Cells wr g (n * 2) (turnF ts) ∧ Below w.heap.size w wr) (fun _ i _ => n - (intOf i).toNat)
    case atStart => exact ⟨0, by omega, rfl, HOW.out, HC1.out.alloc _, HB1.out.alloc HB1.out.size _⟩
    case round =>
      obtain ⟨k, hk, rfl, hown, hCr, hB⟩ := hrel
      have HR := Lib.hid hCr
      clear hCr
      by_cases hlt : k < n
      · have o0 : wr.cell? ⟨g, k * 2, none⟩ = some (.int .i64 (ts.getD k (0, 0)).1) := by rw [← turnF_0]; exact HR.out.cell (by omega)
        have o1 : wr.cell? ⟨g, k * 2 + 1, none⟩ = some (.int .i64 (ts.getD k (0, 0)).2) := by rw [← turnF_1]; exact HR.out.cell (by omega)
        have HS := Lib.hid (showL_snoc (show k < ts.length by rw [HL.out]; exact hlt))
        obtain ⟨x0, x1, hy⟩ := turn_what (turns_at HT.out (show k < ts.length by rw [HL.out]; exact hlt))
        generalize (ts.getD k (0, 0)).1 = x at o0 HS x0 x1
        generalize (ts.getD k (0, 0)).2 = y at o1 HS hy
        have HOW2 := Lib.hid hown
        clear hown
        rcases hy with rfl | rfl
        · have e1 : ∀ W, (binOp .eql 78 (.agg #[.int .i64 x, .int .i64 1]) (.agg #[.int .i64 x, .int .i64 1])).run Try.prog W = .ok (.bool true) W := fun W => by
            rw [eql_turn]; congr 2; simp
          go_wp2_with fail
          go_region_with (go_at_call 67; refine (forth_any _ _).mono ?_; rintro e w3 ⟨rfl, hb3⟩; obtain ⟨hc, hf, hz⟩ := bcell hb3)
          all_goals
            have hW : Below wr.heap.size wr w3 := by (repeat (first | assumption | exact Below.refl _ _ | (refine Below.alloc ?_ (by first | omega | (simp; done) | (simp; omega)) _) | (refine Below.setCell ?_ (by first | omega | (simp; done) | (simp; omega)) _) | refine bel_drewN ?_ _ | refine bel_drew ?_ | (refine bel_call ?_ (by assumption))))
            have HW := Lib.hid hW
            have hown3 := own_below HOW2.out hW
            clear hW
            go_wp2_with (at_builtin; refine wpList_append_own _ rfl _ _ 82 rfl w.heap.size 5 i0 (.int .u8 0) 1 1 Try.underlying82 hi hz0 hz1 hz2 rfl (by decide) _ _ _ rfl (hown3.alloc _) ⟨w3.heap.size, 0, none⟩ 2 2 [.int .u8 (48 + x), .int .u8 43] rfl rfl (World.news_of_block (cs := #[.int .u8 (48 + x), .int .u8 43]) (t := 5) (fr := (0, 0)) (heap_alloc_new w3 _)) (by simp [Value.oneCell']) (by unfold maxLen; omega) (by omega) (by have h1 := hB.size; have h2 := HW.out.size; simp; omega) ?_; intro v' w4 hown' hgrow _)
            have HB4 := Lib.hid (((bel_call hB HW.out).alloc (Nat.le_trans hB.size HW.out.size) _).grown hgrow (by have h1 := hB.size; have h2 := HW.out.size; simp; omega) (fun j hj => (hown3.lt j hj).1))
            have HO4 : Hid (w4.ownsRow w.heap.size 5 1 v' (2 * (k + 1)) (bv (showL (ts.take (k + 1))))) := Lib.hid (by rw [HS.out]; unfold bv at hown' ⊢; rw [List.map_append]; exact hown')
            clear hgrow hown3 hown' hb3 hc hf hz
            go_wp2_with fail
            go_roundw
            case rel => exact ⟨k + 1, by omega, by go_num, HO4.out, HC.out.below HB4.out HC.out.lt, HB4.out⟩
            case measure => simp [intOf]; omega
        · have e1 : ∀ W, (binOp .eql 78 (.agg #[.int .i64 x, .int .i64 (-1)]) (.agg #[.int .i64 x, .int .i64 1])).run Try.prog W = .ok (.bool false) W := fun W => by
            rw [eql_turn]; congr 2; simp
          go_wp2_with fail
          go_region_with (go_at_call 67; refine (forth_any _ _).mono ?_; rintro e w3 ⟨rfl, hb3⟩; obtain ⟨hc, hf, hz⟩ := bcell hb3)
          all_goals
            have hW : Below wr.heap.size wr w3 := by (repeat (first | assumption | exact Below.refl _ _ | (refine Below.alloc ?_ (by first | omega | (simp; done) | (simp; omega)) _) | (refine Below.setCell ?_ (by first | omega | (simp; done) | (simp; omega)) _) | refine bel_drewN ?_ _ | refine bel_drew ?_ | (refine bel_call ?_ (by assumption))))
            have HW := Lib.hid hW
            have hown3 := own_below HOW2.out hW
            clear hW
            go_wp2_with (at_builtin; refine wpList_append_own _ rfl _ _ 82 rfl w.heap.size 5 i0 (.int .u8 0) 1 1 Try.underlying82 hi hz0 hz1 hz2 rfl (by decide) _ _ _ rfl (hown3.alloc _) ⟨w3.heap.size, 0, none⟩ 2 2 [.int .u8 (48 + x), .int .u8 45] rfl rfl (World.news_of_block (cs := #[.int .u8 (48 + x), .int .u8 45]) (t := 5) (fr := (0, 0)) (heap_alloc_new w3 _)) (by simp [Value.oneCell']) (by unfold maxLen; omega) (by omega) (by have h1 := hB.size; have h2 := HW.out.size; simp; omega) ?_; intro v' w4 hown' hgrow _)
            have HB4 := Lib.hid (((bel_call hB HW.out).alloc (Nat.le_trans hB.size HW.out.size) _).grown hgrow (by have h1 := hB.size; have h2 := HW.out.size; simp; omega) (fun j hj => (hown3.lt j hj).1))
            have HO4 : Hid (w4.ownsRow w.heap.size 5 1 v' (2 * (k + 1)) (bv (showL (ts.take (k + 1))))) := Lib.hid (by rw [HS.out]; unfold bv at hown' ⊢; rw [List.map_append]; exact hown')
            clear hgrow hown3 hown' hb3 hc hf hz
            go_wp2_with fail
            go_roundw
            case rel => exact ⟨k + 1, by omega, by go_num, HO4.out, HC.out.below HB4.out HC.out.lt, HB4.out⟩
            case measure => simp [intOf]; omega
      · have hcv := conv_own hown
        go_wp2_with fail
        go_ret2
        exact ⟨by rw [HT.out, ttZ_yes HT.out, List.take_of_length_le (by rw [HL.out]; omega)]; rfl, hB⟩
  · have HT := Lib.hid (Bool.eq_false_iff.2 ht)
    clear ht
    go_enter Try.func30, Try.ntmps30
    go_wp2_with (go_at_call 66; refine (areText_any ts _ _ _ _ HL.out hm HC.out).mono ?_; rw [HT.out]; rintro e w1 ⟨rfl, hb⟩)
    go_ret2
    refine ⟨by rw [HT.out, ttZ_no HT.out]; rfl, ?_⟩
    (repeat (first | assumption | exact Below.refl _ _ | (refine Below.alloc ?_ (by first | omega | (simp; done) | (simp; omega)) _) | (refine Below.setCell ?_ (by first | omega | (simp; done) | (simp; omega)) _) | refine bel_drewN ?_ _ | refine bel_drew ?_ | (refine bel_call ?_ (by assumption))))

end Go.Proofs.Ythnekpdakjcadab
