/- How many codes have a distance from a code, as both programs reckon it. No conditions. -/
import Derived.Test.YthnekpdakjcadaaAtDist2
namespace Go.Proofs.Ythnekpdakjcadaa
open Go.ChangeShapes Go.WideShapes Go.ChangeAt Go.RowKit Go.Joins

def atB (a b x : Int) : Bool := goodB a b && inB x 0 100
def atZ (a b x : Int) : Int := if atB a b x then (roundsL b a.toNat).getD x.toNat 0 else 0
theorem atZ_yes {n : Nat} {b : Int} {t : Nat} (h : atB n b t = true) : atZ n b t = (roundsL b n).getD t 0 := by unfold atZ; rw [h]; rfl
theorem atZ_no {a b x : Int} (h : atB a b x = false) : atZ a b x = 0 := by unfold atZ; rw [h]; rfl

theorem pad_step {b : Int} (h2 : 2 ≤ b) (h10 : b ≤ 10) {k : Nat} (hk : k < 6) : cwP b (pad (roundsL b k)) b.toNat = pad (roundsL b (k + 1)) := by
  have h := pad_ok
  rw [List.all_eq_true] at h
  have h1 := h (b - 2).toNat (by rw [List.mem_range]; omega)
  rw [List.all_eq_true] at h1
  have h2 := h1 k (by rw [List.mem_range]; omega)
  rw [show (((b - 2).toNat : Nat) : Int) + 2 = b by omega] at h2
  exact eq_of_beq h2

theorem specAtDistance_any (a b x : Int) (w : World) :
    Calls Try.prog 47 #[.agg #[.int .i64 a, .int .i64 b], .int .i64 x] w fun e w' => e = .returned (.tuple #[.int .i64 (atZ a b x), .bool (atB a b x)]) ∧ Below w.heap.size w w' := by
  by_cases hg : goodB a b = true
  · have HG := Lib.hid hg
    obtain ⟨h1, h6, _, _⟩ := good_yes hg
    obtain ⟨n, rfl⟩ : ∃ n : Nat, a = n := ⟨a.toNat, by omega⟩
    clear hg
    by_cases hi : inB x 0 100 = true
    · have HI := Lib.hid hi
      have HY : Hid (atB n b x = true) := Lib.hid (by unfold atB; rw [HG.out, hi]; rfl)
      have hx : 0 ≤ x ∧ x ≤ 100 := of_decide_eq_true hi
      obtain ⟨t, rfl⟩ : ∃ t : Nat, x = t := ⟨x.toNat, by omega⟩
      have t100 : t ≤ 100 := by omega
      clear hi hx
      obtain ⟨len, HLn⟩ : ∃ len, Hid ((roundsL b n).length = len) := ⟨_, Lib.hid rfl⟩
      by_cases htl : t < len
      · go_enter Try.func47, Try.ntmps47
        go_wp2_with (first | (go_at_call 49; refine (whGood_any _ _ _).mono ?_; rw [HG.out]; rintro e w1 ⟨rfl, hb⟩; obtain ⟨hc, hf, hz⟩ := bcell hb; have hz0 : w.heap.size < w1.heap.size := by (try simp at hz); omega) | (go_at_call 78; refine (l1In_any _ _ _ _).mono ?_; rw [HI.out]; rintro e w2 ⟨rfl, rfl⟩))
        refine (whRounds_any _ _ _ HG.out).mono ?_
        rintro e w3 ⟨g, c, rfl, hgg, hC, hb3⟩
        have o1 := hC.cell (show t < (roundsL b n).length by rw [HLn.out]; exact htl)
        rw [HLn.out]
        have HC := Lib.hid hC
        unfold digF at o1
        rw [← atZ_yes HY.out] at o1
        clear hC
        go_wp2_with fail
        go_ret2
        refine ⟨by rw [HY.out]; rfl, ?_⟩
        (repeat (first | assumption | exact Below.refl _ _ | (refine Below.alloc ?_ (by first | omega | (simp; done) | (simp; omega)) _) | (refine Below.setCell ?_ (by first | omega | (simp; done) | (simp; omega)) _) | refine bel_drewN ?_ _ | refine bel_drew ?_ | (refine bel_call ?_ (by assumption))))
      · go_enter Try.func47, Try.ntmps47
        go_wp2_with (first | (go_at_call 49; refine (whGood_any _ _ _).mono ?_; rw [HG.out]; rintro e w1 ⟨rfl, hb⟩; obtain ⟨hc, hf, hz⟩ := bcell hb; have hz0 : w.heap.size < w1.heap.size := by (try simp at hz); omega) | (go_at_call 78; refine (l1In_any _ _ _ _).mono ?_; rw [HI.out]; rintro e w2 ⟨rfl, rfl⟩))
        refine (whRounds_any _ _ _ HG.out).mono ?_
        rintro e w3 ⟨g, c, rfl, hgg, hC, hb3⟩
        rw [HLn.out]
        clear hC
        go_wp2_with fail
        go_ret2
        refine ⟨by rw [HY.out, atZ_yes HY.out, List.getD, List.getElem?_eq_none (by rw [HLn.out]; omega)]; rfl, ?_⟩
        (repeat (first | assumption | exact Below.refl _ _ | (refine Below.alloc ?_ (by first | omega | (simp; done) | (simp; omega)) _) | (refine Below.setCell ?_ (by first | omega | (simp; done) | (simp; omega)) _) | refine bel_drewN ?_ _ | refine bel_drew ?_ | (refine bel_call ?_ (by assumption))))
    · have HI := Lib.hid (Bool.eq_false_iff.2 hi)
      have HY : Hid (atB n b x = false) := Lib.hid (by unfold atB; rw [HG.out, HI.out]; rfl)
      clear hi
      go_enter Try.func47, Try.ntmps47
      go_wp2_with (first | (go_at_call 49; refine (whGood_any _ _ _).mono ?_; rw [HG.out]; rintro e w1 ⟨rfl, hb⟩; obtain ⟨hc, hf, hz⟩ := bcell hb; have hz0 : w.heap.size < w1.heap.size := by (try simp at hz); omega) | (go_at_call 78; refine (l1In_any _ _ _ _).mono ?_; rw [HI.out]; rintro e w2 ⟨rfl, rfl⟩))
      go_ret2
      refine ⟨by rw [HY.out, atZ_no HY.out]; rfl, ?_⟩
      (repeat (first | assumption | exact Below.refl _ _ | (refine Below.alloc ?_ (by first | omega | (simp; done) | (simp; omega)) _) | (refine Below.setCell ?_ (by first | omega | (simp; done) | (simp; omega)) _) | refine bel_drewN ?_ _ | refine bel_drew ?_ | (refine bel_call ?_ (by assumption))))
  · have HG := Lib.hid (Bool.eq_false_iff.2 hg)
    have HY : Hid (atB a b x = false) := Lib.hid (by unfold atB; rw [HG.out]; rfl)
    clear hg
    go_enter Try.func47, Try.ntmps47
    go_wp2_with (first | (go_at_call 49; refine (whGood_any _ _ _).mono ?_; rw [HG.out]; rintro e w1 ⟨rfl, hb⟩; obtain ⟨hc, hf, hz⟩ := bcell hb; have hz0 : w.heap.size < w1.heap.size := by (try simp at hz); omega))
    go_ret2
    refine ⟨by rw [HY.out, atZ_no HY.out]; rfl, ?_⟩
    (repeat (first | assumption | exact Below.refl _ _ | (refine Below.alloc ?_ (by first | omega | (simp; done) | (simp; omega)) _) | (refine Below.setCell ?_ (by first | omega | (simp; done) | (simp; omega)) _) | refine bel_drewN ?_ _ | refine bel_drew ?_ | (refine bel_call ?_ (by assumption))))

theorem first_row (w : World) (b : Int) : Cells (w.alloc (.cells ((madeCells #[.int .i64 0] 101).setIfInBounds 0 (.int .i64 1)) 3)) w.heap.size 101 (digF (pad (roundsL b 0))) :=
  ⟨by simp, fun j hj => by
    rw [World.cell?_alloc_new, World.frozen?_alloc_new]
    refine ⟨?_, rfl⟩
    have hm : ∀ i, i < 101 → (madeCells #[Value.int .i64 0] 101)[i]? = some (.int .i64 0) := fun i hi => by
      have h1 : i < (madeCells #[Value.int .i64 0] 101).size := by rw [size_madeCells]; exact hi
      rw [Array.getElem?_eq_getElem h1]
      simp [madeCells, Nat.mod_one]
    unfold digF
    rw [pad_at hj]
    by_cases e : j = 0
    · subst e
      rw [Array.getElem?_setIfInBounds_self_of_lt (by rw [size_madeCells]; omega)]
      rfl
    · rw [Array.getElem?_setIfInBounds_ne (by omega), hm j hj, roundsL, List.getD, List.getElem?_eq_none (by simp; omega)]
      rfl⟩

set_option maxHeartbeats 1000000 in
theorem atDistance_any (a b x : Int) (w : World) :
    Calls Try.prog 48 #[.agg #[.int .i64 a, .int .i64 b], .int .i64 x] w fun e w' => e = .returned (.tuple #[.int .i64 (atZ a b x), .bool (atB a b x)]) ∧ Below w.heap.size w w' := by
  by_cases hg : goodB a b = true
  · have HG := Lib.hid hg
    obtain ⟨h1, h6, b2, b10⟩ := good_yes hg
    obtain ⟨n, rfl⟩ : ∃ n : Nat, a = n := ⟨a.toNat, by omega⟩
    clear hg
    by_cases hi : 0 ≤ x ∧ x ≤ 100
    · have HY : Hid (atB n b x = true) := Lib.hid (by unfold atB inB; rw [HG.out, decide_eq_true hi]; rfl)
      obtain ⟨t, rfl⟩ : ∃ t : Nat, x = t := ⟨x.toNat, by omega⟩
      have t100 : t ≤ 100 := by omega
      clear hi
      have hmk : ∀ W : World, (Instr.makeSlice 66 (.int .i64 101) (.int .i64 101)).run Try.prog W = .ok (.slice (some ⟨W.heap.size, 0, none⟩) 101 101) (W.alloc (.cells (madeCells #[.int .i64 0] 101) 3)) := fun W => make_ints 101 (by omega) W
      have h00 : (madeCells #[Value.int .i64 0] 101)[0]? = some (.int .i64 0) := by kernel_rfl
      go_enter Try.func48, Try.ntmps48
      go_wp2_with (go_at_call 17; refine (isLock_any _ _ _).mono ?_; rw [HG.out]; rintro e w1 ⟨rfl, hb⟩; obtain ⟨hc, hf, hz⟩ := bcell hb; have hz0 : w.heap.size < w1.heap.size := by (try simp at hz); omega)
      have HN := Lib.hid (first_row w1 b)
      have m0 : w1.cell? ⟨w.heap.size, 0, none⟩ = some (.int .i64 n) := by rw [hc _ _ (by simp)]; simp
      have m1 : w1.cell? ⟨w.heap.size, 1, none⟩ = some (.int .i64 b) := by rw [hc _ _ (by simp)]; simp
      have HB1 := Lib.hid (show Below w.heap.size w w1 by (repeat (first | assumption | exact Below.refl _ _ | (refine Below.alloc ?_ (by first | omega | (simp; done) | (simp; omega)) _) | (refine Below.setCell ?_ (by first | omega | (simp; done) | (simp; omega)) _) | refine bel_drewN ?_ _ | refine bel_drew ?_ | (refine bel_call ?_ (by assumption)))))
      clear hmk h00 hc hf hz hb
      go_loopw [6, 23] (fun v i wr => ∃ (k g c : Nat), k ≤ n ∧ i = .int .i64 k ∧ v = .slice (some ⟨g, 0, none⟩) 101 c ∧ Cells wr g 101 (digF (pad (roundsL b k))) ∧ wr.cell? ⟨w.heap.size, 0, none⟩ = some (.int .i64 n) ∧ wr.cell? ⟨w.heap.size, 1, none⟩ = some (.int .i64 b) ∧ w.heap.size < wr.heap.size ∧ Below w.heap.size w wr) (fun _ i _ => n - (intOf i).toNat)
      case atStart => exact ⟨0, w1.heap.size, 101, by omega, rfl, rfl, HN.out, by rw [World.cell?_alloc_lt _ _ _ hz0]; exact m0, by rw [World.cell?_alloc_lt _ _ _ hz0]; exact m1, by simp; omega, HB1.out.alloc (Nat.le_of_lt hz0) _⟩
      case round =>
        clear m0 m1 hz0
        obtain ⟨k, g, c, hk, rfl, rfl, hC, l0, l1, z4, hB⟩ := hrel
        have HC := Lib.hid hC
        clear hC
        by_cases hlt : k < n
        · have HPS := Lib.hid (pad_step b2 b10 (k := k) (by omega))
          have HBP := Lib.hid (pad_bnd (rounds_bnd b2 b10 (k := k) (by omega)))
          go_wp2_with (go_at_call 80; refine (counts_any _ _ _ _ _ _ b2 b10 HC.out HBP.out).mono ?_; rw [HPS.out]; rintro e w4 ⟨g4, c4, rfl, hg4, hC4, hb4⟩; have HC4 := Lib.hid hC4; clear hC4)
          go_roundw
          case rel => exact ⟨k + 1, g4, c4, by omega, by go_num, rfl, HC4.out, by rw [hb4.cell (p := ⟨w.heap.size, 0, none⟩) z4, l0], by rw [hb4.cell (p := ⟨w.heap.size, 1, none⟩) z4, l1], Nat.lt_of_lt_of_le z4 hb4.size, bel_call hB hb4⟩
          case measure => simp [intOf]; omega
        · have hkn : k = n := by omega
          have o1 := HC.out.cell (show t < 101 by omega)
          unfold digF at o1
          rw [pad_at (by omega), hkn, ← atZ_yes HY.out] at o1
          clear hkn
          go_wp2_with fail
          go_ret2
          exact ⟨by rw [HY.out]; rfl, hB⟩
    · have HY : Hid (atB n b x = false) := Lib.hid (by unfold atB inB; rw [HG.out, decide_eq_false hi]; rfl)
      by_cases hx : x < 0
      all_goals
        go_enter Try.func48, Try.ntmps48
        go_wp2_with (go_at_call 17; refine (isLock_any _ _ _).mono ?_; rw [HG.out]; rintro e w1 ⟨rfl, hb⟩; obtain ⟨hc, hf, hz⟩ := bcell hb; have hz0 : w.heap.size < w1.heap.size := by (try simp at hz); omega)
        go_ret2
        refine ⟨by rw [HY.out, atZ_no HY.out]; rfl, ?_⟩
        (repeat (first | assumption | exact Below.refl _ _ | (refine Below.alloc ?_ (by first | omega | (simp; done) | (simp; omega)) _) | (refine Below.setCell ?_ (by first | omega | (simp; done) | (simp; omega)) _) | refine bel_drewN ?_ _ | refine bel_drew ?_ | (refine bel_call ?_ (by assumption))))
  · have HG := Lib.hid (Bool.eq_false_iff.2 hg)
    have HY : Hid (atB a b x = false) := Lib.hid (by unfold atB; rw [HG.out]; rfl)
    clear hg
    go_enter Try.func48, Try.ntmps48
    go_wp2_with (go_at_call 17; refine (isLock_any _ _ _).mono ?_; rw [HG.out]; rintro e w1 ⟨rfl, hb⟩; obtain ⟨hc, hf, hz⟩ := bcell hb; have hz0 : w.heap.size < w1.heap.size := by (try simp at hz); omega)
    go_ret2
    refine ⟨by rw [HY.out, atZ_no HY.out]; rfl, ?_⟩
    (repeat (first | assumption | exact Below.refl _ _ | (refine Below.alloc ?_ (by first | omega | (simp; done) | (simp; omega)) _) | (refine Below.setCell ?_ (by first | omega | (simp; done) | (simp; omega)) _) | refine bel_drewN ?_ _ | refine bel_drew ?_ | (refine bel_call ?_ (by assumption))))

end Go.Proofs.Ythnekpdakjcadaa
