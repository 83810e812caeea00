/- Smooth keys ranked, by the model: its guards. For texts of at most 2^20 bytes. -/
import Derived.Test.YtaajklkldfgppaaZg
namespace Go.Proofs.Ytaajklkldfgppaa
set_option maxRecDepth 100000
open Go.ChangeShapes Go.WideShapes Go.ChangeAt Go.RowKit Go.Joins

/-- A key has a rank just if the model's three questions say so. -/
theorem rsB_model (d m : Int) (s : ByteArray) : rsB d m s = (cmB d s.size m && allK d s && smS m s) := by
  unfold rsB keyB cmB wpB
  rw [Bool.eq_iff_iff]
  simp only [Bool.and_eq_true]
  constructor
  · rintro ⟨⟨⟨⟨h1, h2⟩, h3⟩, h4⟩, h5⟩; exact ⟨⟨⟨⟨h1, h2⟩, h4⟩, h3⟩, h5⟩
  · rintro ⟨⟨⟨⟨h1, h2⟩, h4⟩, h3⟩, h5⟩; exact ⟨⟨⟨⟨h1, h2⟩, h3⟩, h4⟩, h5⟩

theorem cmB_yes {d n m : Int} (h : cmB d n m = true) : 1 ≤ d ∧ d ≤ 9 ∧ 1 ≤ n ∧ n ≤ 7 ∧ 0 ≤ m ∧ m ≤ 9 := by
  unfold cmB wpB inB at h
  simp only [Bool.and_eq_true, decide_eq_true_eq] at h
  exact ⟨h.1.1.1, h.1.1.2, h.1.2.1, h.1.2.2, h.2.1, h.2.2⟩

/-- The model's sum at place k through the depths below t. -/
def rtN (m : Int) (dn n : Nat) (x : Nat → Nat) (k t : Nat) : Nat := toS (fun e => if folB m x k e then gwN m dn (n - 1 - k) e else 0) 0 (min t (x k))

theorem rtN_zero {m : Int} {dn n k : Nat} {x : Nat → Nat} : rtN m dn n x k 0 = 0 := by unfold rtN; rw [Nat.zero_min]; rfl

theorem rtN_whole {m : Int} {dn n k t : Nat} {x : Nat → Nat} (h : x k ≤ t) : rtN m dn n x k t = rkN m dn n x k := by unfold rtN rkN; rw [Nat.min_eq_right h]

theorem rtN_over {m : Int} {dn n k t : Nat} {x : Nat → Nat} (h : ¬ t < x k) : rtN m dn n x k (t + 1) = rtN m dn n x k t := by unfold rtN; rw [Nat.min_eq_right (by omega), Nat.min_eq_right (by omega)]

theorem rtN_step {m : Int} {dn n k t : Nat} {x : Nat → Nat} (h : t < x k) : rtN m dn n x k (t + 1) = rtN m dn n x k t + if folB m x k t then gwN m dn (n - 1 - k) t else 0 := by
  unfold rtN
  rw [Nat.min_eq_left (by omega), Nat.min_eq_left (by omega), toS, Nat.zero_add]

set_option maxHeartbeats 4000000 in
/-- The model's answer where there is no rank. -/
theorem specRank_no (d m : Int) (s : ByteArray) (w : World) (hs : s.size ≤ 1048576) (h : rsB d m s = false) :
    Calls Try.prog 24 #[.int .i64 d, .int .i64 m, .string s] w fun e w' => e = .returned (.tuple #[.int .i64 (rsZ d m s), .bool (rsB d m s)]) ∧ Below w.heap.size w w' := by
  have HV : Hid (rsZ d m s = 0 ∧ rsB d m s = false) := Lib.hid ⟨by unfold rsZ; rw [h]; rfl, h⟩
  rw [rsB_model] at h
  obtain ⟨x, hx⟩ : ∃ x, cmB d s.size m = x := ⟨_, rfl⟩
  have HX := Lib.hid hx
  rcases x with _ | _
  · clear h hx
    go_enter Try.func24, Try.ntmps24
    go_wp2_with (go_at_call 45; refine (keSize_any _ _ _ _).mono ?_; rw [HX.out]; rintro e wq ⟨rfl, hwq⟩; replace hwq := hwq.symm; subst hwq)
    go_ret2
    rw [HV.out.1, HV.out.2]
    exact ⟨rfl, Below.refl _ _⟩
  obtain ⟨d1, d9, n1, n7, m0, m9⟩ := cmB_yes hx
  obtain ⟨y, hy⟩ : ∃ y, allK d s = y := ⟨_, rfl⟩
  have HY := Lib.hid hy
  rcases y with _ | _
  · clear h hx hy
    go_enter Try.func24, Try.ntmps24
    go_wp2_with (first
      | (go_at_call 53; refine (keKey_any d s _ (by unfold maxLen; omega) ⟨d1, d9⟩).mono ?_; rw [HY.out]; rintro e w1 ⟨rfl, hb1⟩)
      | (go_at_call 45; refine (keSize_any _ _ _ _).mono ?_; rw [HX.out]; rintro e wq ⟨rfl, hwq⟩; replace hwq := hwq.symm; subst hwq))
    go_ret2
    rw [HV.out.1, HV.out.2]
    exact ⟨rfl, hb1⟩
  have hz : smS m s = false := by rw [hx, hy] at h; simpa using h
  have HZ := Lib.hid hz
  clear h hx hy hz
  go_enter Try.func24, Try.ntmps24
  go_wp2_with (first
    | (go_at_call 54; refine (keIsSmooth_any s m _ hs).mono ?_; rw [HZ.out]; rintro e w2 ⟨rfl, _, hb2⟩)
    | (go_at_call 53; refine (keKey_any d s _ (by unfold maxLen; omega) ⟨d1, d9⟩).mono ?_; rw [HY.out]; rintro e w1 ⟨rfl, hb1⟩)
    | (go_at_call 45; refine (keSize_any _ _ _ _).mono ?_; rw [HX.out]; rintro e wq ⟨rfl, hwq⟩; replace hwq := hwq.symm; subst hwq))
  go_ret2
  rw [HV.out.1, HV.out.2]
  exact ⟨rfl, bel_call hb1 hb2⟩

end Go.Proofs.Ytaajklkldfgppaa
