/- The round order: the code with a rank, as both programs answer. No conditions. -/
import Derived.Test.YtpbnleohbegccaaOf
namespace Go.Proofs.Ytpbnleohbegccaa
open Go.ChangeShapes Go.WideShapes Go.ChangeAt Go.RowKit Go.Joins

theorem specRoundCode_any (a b x : Int) (w : World) :
    Calls Try.prog 24 #[.agg #[.int .i64 a, .int .i64 b], .int .i64 x] w fun e w' => e = .returned (.tuple #[.string (ocT roI a b x), .bool (hasNum a b x)]) ∧ Below w.heap.size w w' := by
  by_cases hy : hasNum a b x = true
  · have HY := Lib.hid hy
    obtain ⟨hg, ha, h0, hx⟩ := has_parts hy
    generalize a.toNat = n at ha hx
    subst ha
    have HG := Lib.hid hg
    have HX := Lib.hid hx
    clear hg hy
    go_enter Try.func24, Try.ntmps24
    go_wp2_with (first | (go_at_call 64; refine (orRank_any _ _ _ _).mono ?_; rw [HY.out]; rintro e w1 ⟨rfl, hb⟩; obtain ⟨hc, hf, hz⟩ := bcell hb; have hz0 : w.heap.size < w1.heap.size := by (try simp at hz); omega) | (go_at_call 74; refine (orRound_any _ _ _ _ HG.out h0 HX.out).mono ?_; rintro e w1 ⟨rfl, hb⟩; obtain ⟨hc, hf, hz⟩ := bcell hb; have hz0 : w.heap.size < w1.heap.size := by (try simp at hz); omega))
    go_ret2
    refine ⟨by rw [HY.out, ocT_yes HY.out]; first | done | rfl, ?_⟩
    (repeat (first | assumption | exact Below.refl _ _ | (refine Below.alloc ?_ (by first | omega | (simp; done) | (simp; omega)) _) | (refine Below.setCell ?_ (by first | omega | (simp; done) | (simp; omega)) _) | refine bel_drewN ?_ _ | refine bel_drew ?_ | (refine bel_call ?_ (by assumption))))
  · have HY := Lib.hid (Bool.eq_false_iff.2 hy)
    clear hy
    go_enter Try.func24, Try.ntmps24
    go_wp2_with (first | (go_at_call 64; refine (orRank_any _ _ _ _).mono ?_; rw [HY.out]; rintro e w1 ⟨rfl, hb⟩; obtain ⟨hc, hf, hz⟩ := bcell hb; have hz0 : w.heap.size < w1.heap.size := by (try simp at hz); omega))
    go_ret2
    refine ⟨by rw [HY.out, ocT_no HY.out]; first | done | rfl, ?_⟩
    (repeat (first | assumption | exact Below.refl _ _ | (refine Below.alloc ?_ (by first | omega | (simp; done) | (simp; omega)) _) | (refine Below.setCell ?_ (by first | omega | (simp; done) | (simp; omega)) _) | refine bel_drewN ?_ _ | refine bel_drew ?_ | (refine bel_call ?_ (by assumption))))

theorem cells_lit {w : World} {x : Int} {t : TypeId} {g : Nat} (hg : g = w.heap.size) : Cells (w.alloc (.cells #[.int .i64 x] t)) g 1 (digF [x]) := by
  subst hg
  refine ⟨by simp, fun j hj => ?_⟩
  rw [World.cell?_alloc_new, World.frozen?_alloc_new]
  have : j = 0 := by omega
  subst this
  exact ⟨rfl, rfl⟩

set_option maxRecDepth 100000 in
set_option maxHeartbeats 4000000 in
theorem roundYes_any (n : Nat) (b x : Int) (w : World) (hg : goodB n b = true) (h0 : 0 ≤ x) (hx : x < pw b n) :
    Calls Try.prog 25 #[.agg #[.int .i64 n, .int .i64 b], .int .i64 x] w fun e w' => e = .returned (.tuple #[.string (textOf (orL roI b x n)), .bool true]) ∧ Below w.heap.size w w' := by
  have HG := Lib.hid hg
  obtain ⟨h1, h6, h2, h10⟩ := good_yes hg
  have HY := Lib.hid (has_of hg h0 hx)
  have hDD := digL_digits (x := x) (n := n) h2 h10
  obtain ⟨s, hs⟩ : ∃ s, textOf (digL b x n) = s := ⟨_, rfl⟩
  obtain ⟨t, ht⟩ : ∃ t, textOf (befL (digL b x n) n) = t := ⟨_, rfl⟩
  have HS := Lib.hid (show ofZ n b x = s by rw [ofZ_yes HY.out, hs])
  have hsz : s.size = n := by rw [← hs, textOf_size, digL_length]
  have HAS : Hid (askB n b s = true) := Lib.hid (by rw [← hs]; exact ask_of hg ⟨by rw [digL_length], fun j hj => by
    rw [digL_length] at hj
    rw [digL_at hj]
    exact ⟨Int.emod_nonneg _ (by omega), Int.emod_lt_of_pos _ (by omega)⟩⟩)
  have HAT : Hid (askB n b t = true) := Lib.hid (by rw [← ht]; exact bef_good hg (by omega))
  have hbl := befL_length (digL_length b x n) (show 0 < n by omega)
  have HZ : Hid ((dg s).zipWith (subI b) (dg t) = orL roI b x n) := Lib.hid (by
    rw [← hs, ← ht, dg_textOf hDD, dg_textOf (fun j hj => by
      rw [hbl] at hj
      rw [befL_at (digL_length _ _ _) hj]
      split
      · omega
      · exact hDD _ (by rw [digL_length]; omega)), ro_zip h2 (by omega) h0 hx])
  have hadd : ∀ W : World, (Op.stringOp .add (textOf [0]) (s.extract 0 (n - 1))).run Try.prog W = .ok (.string t) W := fun W => by
    rw [run_string_add_sum _ _ _ (by rw [textOf_size, ByteArray.size_extract]; simp; omega), ← hs, bef_text, ht]
  have hd0 : Digits [0] := fun j hj => by
    have : j = 0 := by simp at hj; exact hj
    subst this; simp
  have HD0 := Lib.hid hd0
  have HSZ := Lib.hid hsz
  clear hDD hs ht hsz hbl hd0
  have hw1 : IntKind.i64.wrap ((n : Int) - 1) = ((n - 1 : Nat) : Int) := by rw [show (n : Int) - 1 = ((n - 1 : Nat) : Int) by omega]; exact IntWalk.i64_in _ (by omega)
  go_enter Try.func25, Try.ntmps25
  go_wp2_with (first | (go_at_call 75; refine (ofNumber_any _ _ _ _).mono ?_; rw [HY.out, HS.out]; rintro e w1 ⟨rfl, hb1⟩; have z1 : w.heap.size < w1.heap.size := (by have := hb1.size; simp at this; omega); have m0 : w1.cell? ⟨w.heap.size, 0, none⟩ = some (.int .i64 n) := (hb1.cell (p := ⟨w.heap.size, 0, none⟩) (by simp)).trans (by simp); have m1 : w1.cell? ⟨w.heap.size, 1, none⟩ = some (.int .i64 b) := (hb1.cell (p := ⟨w.heap.size, 1, none⟩) (by simp)).trans (by simp); have HB1 := Lib.hid (show Below w.heap.size w w1 from bel_call ((Below.refl _ _).alloc (Nat.le_refl _) _) hb1); clear hb1))
  have hle : n - 1 ≤ s.size := by rw [HSZ.out]; omega
  have hsz := HSZ.out
  go_region_with (first
    | (go_at_call 68; refine (codeOf_n (n := 1) _ _ [0] rfl _ (cells_lit rfl).drew HD0.out (by omega)).mono ?_; rintro e w2 ⟨rfl, hb2⟩; have hb12 : Below w1.heap.size w1 w2 := bel_call (bel_drew ((Below.refl _ _).alloc (Nat.le_refl _) _)) hb2; have HB2 := Lib.hid (bel_call HB1.out hb12); have z2 : w.heap.size < w2.heap.size := Nat.lt_of_lt_of_le z1 hb12.size; have n0 := (hb12.cell (p := ⟨w.heap.size, 0, none⟩) z1).trans m0; have n1 := (hb12.cell (p := ⟨w.heap.size, 1, none⟩) z1).trans m1; clear hb2 hb12))
  all_goals
    go_wp2_with (first
      | (go_at_call 76; refine (pairDiff_any _ _ _ _ _ HAS.out HAT.out).mono ?_; rw [HZ.out, hsz]; rintro e w3 ⟨g3, c3, rfl, hg3, hC3, hb3⟩; have HC3 := Lib.hid hC3; have HB3 := Lib.hid (bel_call HB2.out hb3); clear hC3 hb3)
      | (go_at_call 68; refine (codeOf_n _ _ (orL roI b x n) (orL_length _ _ _ _) _ HC3.out (orL_digits h10 (roI_bd h2)) (by omega)).mono ?_; rintro e w4 ⟨rfl, hb4⟩))
    go_ret2
    exact ⟨rfl, bel_call HB3.out hb4⟩

theorem roundCode_any (a b x : Int) (w : World) :
    Calls Try.prog 25 #[.agg #[.int .i64 a, .int .i64 b], .int .i64 x] w fun e w' => e = .returned (.tuple #[.string (ocT roI a b x), .bool (hasNum a b x)]) ∧ Below w.heap.size w w' := by
  by_cases hy : hasNum a b x = true
  · obtain ⟨hg, ha, h0, hx⟩ := has_parts hy
    rw [hy]
    generalize a.toNat = n at ha hx
    subst ha
    rw [ocT_yes hy]
    exact roundYes_any n b x w hg h0 hx
  · have HY := Lib.hid (Bool.eq_false_iff.2 hy)
    clear hy
    go_enter Try.func25, Try.ntmps25
    go_wp2_with (first | (go_at_call 75; refine (ofNumber_any _ _ _ _).mono ?_; rw [HY.out, ofZ_no HY.out]; rintro e w1 ⟨rfl, hb⟩; obtain ⟨hc, hf, hz⟩ := bcell hb; have hz0 : w.heap.size < w1.heap.size := by (try simp at hz); omega))
    go_ret2
    refine ⟨by rw [HY.out, ocT_no HY.out]; first | done | rfl, ?_⟩
    (repeat (first | assumption | exact Below.refl _ _ | (refine Below.alloc ?_ (by first | omega | (simp; done) | (simp; omega)) _) | (refine Below.setCell ?_ (by first | omega | (simp; done) | (simp; omega)) _) | refine bel_drewN ?_ _ | refine bel_drew ?_ | (refine bel_call ?_ (by assumption))))

end Go.Proofs.Ytpbnleohbegccaa
