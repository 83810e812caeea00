/- The law on CountCodes: for every lock both programs answer alike: as many codes as the digits' number to the power of the wheels' number. No conditions. -/
import Derived.Test.YtgdjbclkdnmebaaDoorIsCode
namespace Go.Proofs.YtgdjbclkdnmebaaDoor
open Go.ChangeShapes Go.WideShapes Go.ChangeAt Go.RowKit Go.Joins

def pw (b : Int) (k : Nat) : Int := b ^ k

theorem pw_zero (b : Int) : pw b 0 = 1 := Int.pow_zero b

theorem pw_succ (b : Int) (k : Nat) : pw b (k + 1) = pw b k * b := Int.pow_succ b k

theorem pw_bd {b : Int} (h1 : 2 ≤ b) (h2 : b ≤ 10) (k : Nat) : k ≤ 6 → 1 ≤ pw b k ∧ pw b k ≤ 10 ^ k := by
  induction k with
  | zero => intro _; simp [pw]
  | succ k ih =>
    intro hk
    obtain ⟨i1, i2⟩ := ih (by omega)
    rw [pw_succ]
    refine ⟨?_, ?_⟩
    · have := Int.mul_le_mul i1 (show (1 : Int) ≤ b by omega) (by omega) (by omega)
      omega
    · rw [Int.pow_succ]
      exact Int.mul_le_mul i2 h2 (by omega) (by omega)

theorem ten_pow {k : Nat} (h : k ≤ 6) : (10 : Int) ^ k ≤ 1000000 := by
  have : k = 0 ∨ k = 1 ∨ k = 2 ∨ k = 3 ∨ k = 4 ∨ k = 5 ∨ k = 6 := by omega
  rcases this with rfl | rfl | rfl | rfl | rfl | rfl | rfl <;> decide

theorem pw_bd6 {b : Int} (h1 : 2 ≤ b) (h2 : b ≤ 10) {k : Nat} (hk : k ≤ 6) : 1 ≤ pw b k ∧ pw b k ≤ 1000000 :=
  ⟨(pw_bd h1 h2 k hk).1, Int.le_trans (pw_bd h1 h2 k hk).2 (ten_pow hk)⟩

/-- How many codes there are; 0 where there is no lock. -/
def countZ (a b : Int) : Int := if goodB a b then pw b a.toNat else 0

theorem countZ_yes {n : Nat} {b : Int} (h : goodB n b = true) : countZ n b = pw b n := by unfold countZ; rw [h]; rfl

theorem countZ_no {a b : Int} (h : goodB a b = false) : countZ a b = 0 := by unfold countZ; rw [h]; rfl

theorem whCount_any (n : Nat) (b : Int) (w : World) (hg : goodB n b = true) :
    Calls Tryd.prog 100 #[.agg #[.int .i64 n, .int .i64 b]] w fun e w' => e = .returned (.int .i64 (pw b n)) ∧ Below w.heap.size w w' := by
  have hg' := good_yes hg
  clear hg
  obtain ⟨h1, h2, h3, h4⟩ := hg'
  go_enter Tryd.func100, Tryd.ntmps100
  go_wp2
  go_loop [3, 4] (fun c j => ∃ k : Nat, k ≤ n ∧ j = .int .i64 k ∧ c = .int .i64 (pw b (n - k))) (fun _ j => (intOf j).toNat)
  case atStart => exact ⟨n, by omega, rfl, by simp [pw]⟩
  case round =>
    obtain ⟨k, hk, rfl, rfl⟩ := hrel
    by_cases hlt : 0 < k
    · obtain ⟨p1, p2⟩ := pw_bd6 h3 h4 (k := n - k + 1) (by omega)
      rw [pw_succ] at p1 p2
      go_wp2
      go_round
      case rel => exact ⟨k - 1, by omega, by congr 1; omega, by rw [show n - (k - 1) = n - k + 1 by omega, pw_succ]⟩
      case measure => simp [intOf]; omega
    · go_wp2
      go_ret
      refine ⟨ret_int (by rw [show n - k = n by omega]), ?_⟩
      (repeat (first | assumption | exact Below.refl _ _ | (refine Below.alloc ?_ (by first | omega | (simp; done) | (simp; omega)) _) | (refine Below.setCell ?_ (by first | omega | (simp; done) | (simp; omega)) _) | refine bel_drewN ?_ _ | refine bel_drew ?_ | (refine bel_call ?_ (by assumption))))

theorem count_any (a b : Int) (w : World) :
    Calls Tryd.prog 101 #[.agg #[.int .i64 a, .int .i64 b]] w fun e w' => e = .returned (.tuple #[.int .i64 (countZ a b), .bool (goodB a b)]) ∧ Below w.heap.size w w' := by
  by_cases hg : goodB a b = true
  · have HG := Lib.hid hg
    have hg' := good_yes hg
    obtain ⟨n, rfl⟩ : ∃ n : Nat, a = n := ⟨a.toNat, by omega⟩
    clear hg
    obtain ⟨h1, h2, h3, h4⟩ := hg'
    go_enter Tryd.func101, Tryd.ntmps101
    go_wp2_with (first | (go_at_call 85; refine (isLock_any _ _ _).mono ?_; rw [HG.out]; rintro e w1 ⟨rfl, hb⟩; obtain ⟨hc, hf, hz⟩ := bcell hb; have hz0 : w.heap.size < w1.heap.size := by (try simp at hz); omega))
    have hB : Below w.heap.size w w1 := by (repeat (first | assumption | exact Below.refl _ _ | (refine Below.alloc ?_ (by first | omega | (simp; done) | (simp; omega)) _) | (refine Below.setCell ?_ (by first | omega | (simp; done) | (simp; omega)) _) | refine bel_drewN ?_ _ | refine bel_drew ?_ | (refine bel_call ?_ (by assumption))))
    go_loop [4, 10] (fun c j => ∃ k : Nat, k ≤ n ∧ j = .int .i64 k ∧ c = .int .i64 (pw b k)) (fun _ j => n - (intOf j).toNat)
    case atStart => exact ⟨0, by omega, rfl, by simp [pw]⟩
    case round =>
      obtain ⟨k, hk, rfl, rfl⟩ := hrel
      by_cases hlt : k < n
      · obtain ⟨p1, p2⟩ := pw_bd6 h3 h4 (k := k + 1) (by omega)
        rw [pw_succ] at p1 p2
        go_wp2
        go_round
        case rel => exact ⟨k + 1, by omega, by go_num, by rw [pw_succ]⟩
        case measure => simp [intOf]; omega
      · go_wp2
        go_ret2
        exact ⟨by rw [HG.out, countZ_yes HG.out, show k = n by omega]; rfl, hB⟩
  · have HG := Lib.hid (Bool.eq_false_iff.2 hg)
    clear hg
    go_enter Tryd.func101, Tryd.ntmps101
    go_wp2_with (first | (go_at_call 85; refine (isLock_any _ _ _).mono ?_; rw [HG.out]; rintro e w1 ⟨rfl, hb⟩; obtain ⟨hc, hf, hz⟩ := bcell hb; have hz0 : w.heap.size < w1.heap.size := by (try simp at hz); omega))
    go_ret2
    refine ⟨by rw [HG.out, countZ_no HG.out]; rfl, ?_⟩
    (repeat (first | assumption | exact Below.refl _ _ | (refine Below.alloc ?_ (by first | omega | (simp; done) | (simp; omega)) _) | (refine Below.setCell ?_ (by first | omega | (simp; done) | (simp; omega)) _) | refine bel_drewN ?_ _ | refine bel_drew ?_ | (refine bel_call ?_ (by assumption))))

end Go.Proofs.YtgdjbclkdnmebaaDoor
