/- What a clue of a kind tells of a code, and whether a code fits a clue, as the model reckons them. For codes of locks of puzzles. -/
import Derived.Test.YtgopaflggbgplaaUe
namespace Go.Proofs.Ytgopaflggbgplaa
open Go.ChangeShapes Go.WideShapes Go.ChangeAt Go.RowKit Go.Joins

theorem cdN_text (n : Nat) (b : Int) (i : Nat) : cdN n b i = textOf (digL b (i : Int) n) := rfl

theorem pzValue_0 (a b : Int) (i : Nat) (s : ByteArray) (w : World) (hs : askB a b s = true) (hi : i < s.size) :
    Calls Try.prog 57 #[.agg #[.int .i64 a, .int .i64 b], .int .i64 0, .int .i64 (i : Int), .string s] w fun e w' => e = .returned (.int .i64 (pzV a b 0 i s)) ∧ Below w.heap.size w w' := by
  have hA := asked hs
  have h1 := digits_at hA.digits hi
  have HV : Hid (pzV a b 0 i s = (s[i].toNat : Int) - 48) := Lib.hid (by unfold pzV; rw [if_pos rfl, Int.toNat_natCast, dg_at hi])
  have n6 : s.size ≤ 6 := hA.n6
  clear hs hA
  go_enter Try.func57, Try.ntmps57
  go_wp2_with fail
  go_ret
  refine ⟨ret_int HV.out.symm, ?_⟩
  (repeat (first | assumption | exact Below.refl _ _ | (refine Below.alloc ?_ (by first | omega | (simp; done) | (simp; omega)) _) | (refine Below.setCell ?_ (by first | omega | (simp; done) | (simp; omega)) _) | refine bel_drewN ?_ _ | refine bel_drew ?_ | (refine bel_call ?_ (by assumption))))

set_option maxHeartbeats 1000000 in
theorem pzValue_1 (a b x : Int) (s : ByteArray) (w : World) (hs : askB a b s = true) :
    Calls Try.prog 57 #[.agg #[.int .i64 a, .int .i64 b], .int .i64 1, .int .i64 x, .string s] w fun e w' => e = .returned (.int .i64 (sumAt (dg s) s.size)) ∧ Below w.heap.size w w' := by
  have HA := Lib.hid (asked hs)
  have n6 := HA.out.n6
  clear hs
  go_enter Try.func57, Try.ntmps57
  go_wp2_with (go_at_call 73; refine (whDigits_any _ _ HA.out.digits (by omega) HA.out.n1).mono ?_; rintro e w1 ⟨g, c, rfl, hgg, hC, hb⟩)
  have hB : Below w.heap.size w w1 := by (repeat (first | assumption | exact Below.refl _ _ | (refine Below.alloc ?_ (by first | omega | (simp; done) | (simp; omega)) _) | (refine Below.setCell ?_ (by first | omega | (simp; done) | (simp; omega)) _) | refine bel_drewN ?_ _ | refine bel_drew ?_ | (refine bel_call ?_ (by assumption))))
  have HC := Lib.hid hC
  clear hC hb hgg
  go_loop [9, 27] (fun v i => ∃ k : Nat, k ≤ s.size ∧ i = .int .i64 k ∧ v = .int .i64 (sumAt (dg s) k)) (fun _ i => s.size - (intOf i).toNat)
  case atStart => exact ⟨0, by omega, rfl, rfl⟩
  case round =>
    obtain ⟨k, hk, rfl, rfl⟩ := hrel
    by_cases hlt : k < s.size
    · have hc : w1.cell? ⟨g, k, none⟩ = some (.int .i64 ((dg s).getD k 0)) := HC.out.cell hlt
      obtain ⟨d1, d2⟩ := HA.out.low k hlt
      have hb10 := HA.out.b10
      obtain ⟨q1, q2⟩ := sumAt_bd (ds := dg s) (n := s.size) (fun j hj => by have := HA.out.low j hj; have := HA.out.b10; omega) k hk
      have HE : Hid (sumAt (dg s) (k + 1) = sumAt (dg s) k + (dg s).getD k 0) := Lib.hid rfl
      generalize (dg s).getD k 0 = d at hc d1 d2 HE
      generalize hm : sumAt (dg s) k = m at q1 q2 HE
      clear hm
      go_wp2
      go_round
      case rel => exact ⟨k + 1, by omega, by go_num, by rw [HE.out]⟩
      case measure => simp [intOf]; omega
    · obtain rfl : k = s.size := by omega
      go_wp2
      go_ret
      exact ⟨rfl, hB⟩

theorem pzValue_2 (n : Nat) (b : Int) (i : Nat) (s : ByteArray) (w : World) (hs : askB n b s = true) (hi : i ≤ 1000000) :
    Calls Try.prog 57 #[.agg #[.int .i64 n, .int .i64 b], .int .i64 2, .int .i64 (i : Int), .string s] w fun e w' => e = .returned (.int .i64 (hiP (cdN n b i) s)) ∧ Below w.heap.size w w' := by
  have HG := Lib.hid (asked hs).good
  have HT := Lib.hid (two_cd (i := i) hs).2
  clear hs
  go_enter Try.func57, Try.ntmps57
  go_wp2_with (first | (go_at_call 75; refine (whOf_any _ _ _ _ HG.out (by omega) (by omega)).mono ?_; rw [← cdN_text]; rintro e w1 ⟨rfl, hb⟩; obtain ⟨hc, hf, hz⟩ := bcell hb; have hz0 : w.heap.size < w1.heap.size := by (try simp at hz); omega) | (go_at_call 74; refine (hiOf_any _ _ _ HT.out).mono ?_; rintro e w1 ⟨rfl, hb⟩; obtain ⟨hc, hf, hz⟩ := bcell hb; have hz0 : w.heap.size < w1.heap.size := by (try simp at hz); omega))
  go_ret
  refine ⟨rfl, ?_⟩
  (repeat (first | assumption | exact Below.refl _ _ | (refine Below.alloc ?_ (by first | omega | (simp; done) | (simp; omega)) _) | (refine Below.setCell ?_ (by first | omega | (simp; done) | (simp; omega)) _) | refine bel_drewN ?_ _ | refine bel_drew ?_ | (refine bel_call ?_ (by assumption))))

set_option maxHeartbeats 1000000 in
theorem pzValue_3 (n : Nat) (b : Int) (i : Nat) (s : ByteArray) (w : World) (hs : askB n b s = true) (hi : i ≤ 1000000) :
    Calls Try.prog 57 #[.agg #[.int .i64 n, .int .i64 b], .int .i64 3, .int .i64 (i : Int), .string s] w fun e w' => e = .returned (.int .i64 (fewZ n b (cdN n b i) s)) ∧ Below w.heap.size w w' := by
  have HG := Lib.hid (asked hs).good
  have HT := Lib.hid (two_cd (i := i) hs).1
  have X0 := Lib.hid (show Below w.heap.size w (w.alloc (.cells #[.int .i64 (n : Int), .int .i64 b] 30)) from (Below.refl _ _).alloc (Nat.le_refl _) _)
  have C0 := Lib.hid (Cells.new (W := w) (cs := #[.int .i64 (n : Int), .int .i64 b]) (t := 30) (g := w.heap.size) (n := 2) rfl rfl)
  clear hs
  go_enter Try.func57, Try.ntmps57
  go_wp2_with fail
  go_region_with (first | (go_at_call 75; refine (whOf_any _ _ _ _ HG.out (by omega) (by omega)).mono ?_; rw [← cdN_text]; rintro e w1 ⟨rfl, hb1⟩; have DD := Lib.hid (C0.out.call (below_undrew hb1)); have l0 : w1.cell? ⟨w.heap.size, 0, none⟩ = some (.int .i64 (n : Int)) := DD.out.cell (show 0 < 2 by omega); have l1 : w1.cell? ⟨w.heap.size, 1, none⟩ = some (.int .i64 b) := DD.out.cell (show 1 < 2 by omega)) | (go_at_call 76; refine (whDistance_any _ _ _ _ _ HT.out).mono ?_; rintro e w2 ⟨rfl, hb2⟩))
  all_goals
    have X2 := Lib.hid (bel_call (bel_call X0.out (below_undrew hb1)) hb2)
    clear hb1 hb2 l0 l1 DD
    go_wp2_with fail
    go_ret
    exact ⟨rfl, X2.out⟩

theorem pzValue_4 (a b : Int) (x : Int) (s : ByteArray) (w : World) (hs : askB a b s = true) (h2 : 2 ≤ x) (h9 : x ≤ 9) :
    Calls Try.prog 57 #[.agg #[.int .i64 a, .int .i64 b], .int .i64 4, .int .i64 x, .string s] w fun e w' => e = .returned (.int .i64 (numZ a b s % x)) ∧ Below w.heap.size w w' := by
  have HS := Lib.hid hs
  have hz := (numZ_bd hs).1
  have hA := asked hs
  have hp := (pw_bd6 hA.b2 hA.b10 (k := a.toNat) (by have := hA.size; have := hA.n6; omega)).2
  have hz2 : numZ a b s ≤ 1000000 := by have := (numZ_bd hs).2; omega
  clear hs hA hp
  generalize hq : numZ a b s = q at hz hz2
  have HQ := Lib.hid hq
  clear hq
  go_enter Try.func57, Try.ntmps57
  go_wp2_with (go_at_call 77; refine (whNumber_any _ _ _ _ HS.out).mono ?_; rw [HQ.out]; rintro e w1 ⟨rfl, hb⟩; obtain ⟨hc, hf, hz⟩ := bcell hb; have hz0 : w.heap.size < w1.heap.size := by (try simp at hz); omega)
  go_ret
  refine ⟨rfl, ?_⟩
  (repeat (first | assumption | exact Below.refl _ _ | (refine Below.alloc ?_ (by first | omega | (simp; done) | (simp; omega)) _) | (refine Below.setCell ?_ (by first | omega | (simp; done) | (simp; omega)) _) | refine bel_drewN ?_ _ | refine bel_drew ?_ | (refine bel_call ?_ (by assumption))))

end Go.Proofs.Ytgopaflggbgplaa
