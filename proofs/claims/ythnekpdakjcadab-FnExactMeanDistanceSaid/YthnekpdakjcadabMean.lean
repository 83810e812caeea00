/- The mean distance, as both programs reckon it. No conditions. -/
import Derived.Test.YthnekpdakjcadabRounds2
namespace Go.Proofs.Ythnekpdakjcadab
open Go.ChangeShapes Go.WideShapes Go.ChangeAt Go.RowKit Go.Joins

/-- The sum of distances times how many codes have them. -/
def sumD (R : List Int) : Nat → Int
  | 0 => 0
  | d + 1 => sumD R d + (d : Int) * R.getD d 0
theorem sumD_bd {R : List Int} (h : Bnd R 1000000) (d : Nat) : d ≤ 31 → 0 ≤ sumD R d ∧ sumD R d ≤ 31000000 * d := by
  induction d with
  | zero => intro _; simp [sumD]
  | succ d ih =>
    intro hd
    have i := ih (by omega)
    obtain ⟨x0, x1⟩ := h d
    have m0 := Int.mul_nonneg (show (0 : Int) ≤ (d : Int) by omega) x0
    have m1 : (d : Int) * R.getD d 0 ≤ 31 * 1000000 := Int.mul_le_mul (by omega) x1 x0 (by omega)
    rw [sumD]
    omega
/-- The distances of the first digits from 0, once for each wheel. -/
def totT (b n : Int) : Nat → Int
  | 0 => 0
  | q + 1 => totT b n q + n * farI b 0 q
theorem totT_bd {b n : Int} (h2 : 2 ≤ b) (h10 : b ≤ 10) (n0 : 0 ≤ n) (n6 : n ≤ 6) (q : Nat) : 0 ≤ totT b n q ∧ totT b n q ≤ 60 * q := by
  induction q with
  | zero => simp [totT]
  | succ q ih =>
    have f := farI_bd h2 0 q
    have m0 := Int.mul_nonneg n0 f.1
    have m1 : n * farI b 0 q ≤ 6 * 10 := Int.mul_le_mul n6 (by omega) f.1 (by omega)
    rw [totT]
    omega

def gcdI (x y : Int) : Int := (Nat.gcd x.toNat y.toNat : Int)
def meanNum (a b : Int) : Int := totT b a b.toNat / gcdI (totT b a b.toNat) b
def meanDen (a b : Int) : Int := b / gcdI (totT b a b.toNat) b
def okMean (b : Int) (n : Nat) : Bool :=
  sumD (roundsL b n) (roundsL b n).length / gcdI (sumD (roundsL b n) (roundsL b n).length) (pw b n) == meanNum n b && pw b n / gcdI (sumD (roundsL b n) (roundsL b n).length) (pw b n) == meanDen n b
theorem mean_ok : ((List.range 9).all fun i => (List.range 7).all fun k => k == 0 || okMean ((i : Int) + 2) k) = true := by decide +kernel
theorem mean_eq {n : Nat} {b : Int} (hg : goodB n b = true) :
    sumD (roundsL b n) (roundsL b n).length / gcdI (sumD (roundsL b n) (roundsL b n).length) (pw b n) = meanNum n b ∧ pw b n / gcdI (sumD (roundsL b n) (roundsL b n).length) (pw b n) = meanDen n b := by
  obtain ⟨h1, h6, b2, b10⟩ := good_yes hg
  have h := mean_ok
  rw [List.all_eq_true] at h
  have h1 := h (b - 2).toNat (by rw [List.mem_range]; omega)
  rw [List.all_eq_true] at h1
  have h2 := h1 n (by rw [List.mem_range]; omega)
  rw [show (((b - 2).toNat : Nat) : Int) + 2 = b by omega, Bool.or_eq_true] at h2
  rcases h2 with h2 | h2
  · have := eq_of_beq h2; omega
  · unfold okMean at h2
    rw [Bool.and_eq_true] at h2
    exact ⟨eq_of_beq h2.1, eq_of_beq h2.2⟩

def mnZ (a b : Int) : Int := if goodB a b then meanNum a b else 0
def mdZ (a b : Int) : Int := if goodB a b then meanDen a b else 0
theorem mean_yes {a b : Int} (h : goodB a b = true) : mnZ a b = meanNum a b ∧ mdZ a b = meanDen a b := by unfold mnZ mdZ; rw [h]; exact ⟨rfl, rfl⟩
theorem mean_no {a b : Int} (h : goodB a b = false) : mnZ a b = 0 ∧ mdZ a b = 0 := by unfold mnZ mdZ; rw [h]; exact ⟨rfl, rfl⟩

theorem commonDivisor_any (x y : Nat) (w : World) (hx : x ≤ 1000000000) (hy : y ≤ 1000000000) :
    Calls Try.prog 50 #[.int .i64 (x : Int), .int .i64 (y : Int)] w fun e w' => e = .returned (.int .i64 ((Nat.gcd x y : Nat) : Int)) ∧ Below w.heap.size w w' := by
  go_enter Try.func50, Try.ntmps50
  go_wp2_with fail
  go_loopw [0, 1] (fun u v wr => ∃ (c d : Nat), c ≤ 1000000000 ∧ d ≤ 1000000000 ∧ u = .int .i64 (c : Int) ∧ v = .int .i64 (d : Int) ∧ Nat.gcd c d = Nat.gcd x y ∧ Below w.heap.size w wr) (fun _ v _ => (intOf v).toNat)
  case atStart => exact ⟨x, y, hx, hy, rfl, rfl, rfl, Below.refl _ _⟩
  case round =>
    obtain ⟨c, d, hc, hd, rfl, rfl, hg, hB⟩ := hrel
    have HG := Lib.hid hg
    clear hg
    by_cases hz : d = 0
    · subst hz
      go_wp2_with fail
      go_ret
      exact ⟨ret_int (by rw [← HG.out, Nat.gcd_zero_right]), hB⟩
    · have hne : ((d : Int) != 0) = true := by simp; exact hz
      have d1 : (1 : Int) ≤ (d : Int) := by omega
      have hlt := Nat.mod_lt c (show 0 < d by omega)
      have HE : Hid (((c : Int) % (d : Int)) = ((c % d : Nat) : Int)) := Lib.hid (Int.natCast_emod c d).symm
      have HGG : Hid (Nat.gcd d (c % d) = Nat.gcd x y) := Lib.hid (by rw [← HG.out, Nat.gcd_comm c d, Nat.gcd_rec d c, Nat.gcd_comm])
      clear hz
      go_wp2_with fail
      go_quiet (fail)
      go_wp2_with fail
      go_roundw
      case rel => exact ⟨d, c % d, hd, by omega, rfl, congrArg (Value.int .i64) HE.out, HGG.out, bel_drewN hB _⟩
      case measure => simp [intOf]; omega

end Go.Proofs.Ythnekpdakjcadab
