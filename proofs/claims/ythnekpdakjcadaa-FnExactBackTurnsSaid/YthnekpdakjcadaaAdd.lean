/- Sums of codes and opposite codes, as both programs make them. No conditions. -/
import Derived.Test.YthnekpdakjcadaaPair
namespace Go.Proofs.Ythnekpdakjcadaa
open Go.ChangeShapes Go.WideShapes Go.ChangeAt Go.RowKit Go.Joins

def twoB (a b : Int) (s t : ByteArray) : Bool := askB a b s && askB a b t
theorem two_yes {a b : Int} {s t : ByteArray} (h : twoB a b s t = true) : askB a b s = true ∧ askB a b t = true := by simpa [twoB] using h

theorem whTwo_any (a b : Int) (s t : ByteArray) (w : World) (hs : s.size ≤ maxLen) (ht : t.size ≤ maxLen) :
    Calls Try.prog 64 #[.agg #[.int .i64 a, .int .i64 b], .string s, .string t] w fun e w' => e = .returned (.bool (twoB a b s t)) ∧ Below w.heap.size w w' := by
  have HS := Lib.hid hs
  have HT := Lib.hid ht
  clear hs ht
  by_cases hg : askB a b s = true
  · have HG := Lib.hid hg
    clear hg
    go_enter Try.func64, Try.ntmps64
    go_wp2_with (first | (go_at_call 55; refine (whAsked_any _ _ _ _ HS.out).mono ?_; rw [HG.out]; rintro e w1 ⟨rfl, hb⟩; obtain ⟨hc, hf, hz⟩ := bcell hb; have hz0 : w.heap.size < w1.heap.size := by (try simp at hz); omega) | (go_at_call 50; refine (whCode_any _ _ _ _ HT.out (asked HG.out).good).mono ?_; rintro e w1 ⟨rfl, hb⟩; obtain ⟨hc, hf, hz⟩ := bcell hb; have hz0 : w.heap.size < w1.heap.size := by (try simp at hz); omega))
    go_ret
    refine ⟨ret_bool (by unfold twoB; rw [HG.out]; unfold askB; rw [(asked HG.out).good]; rfl), ?_⟩
    (repeat (first | assumption | exact Below.refl _ _ | (refine Below.alloc ?_ (by first | omega | (simp; done) | (simp; omega)) _) | (refine Below.setCell ?_ (by first | omega | (simp; done) | (simp; omega)) _) | refine bel_drewN ?_ _ | refine bel_drew ?_ | (refine bel_call ?_ (by assumption))))
  · have HG := Lib.hid (Bool.eq_false_iff.2 hg)
    clear hg
    go_enter Try.func64, Try.ntmps64
    go_wp2_with (first | (go_at_call 55; refine (whAsked_any _ _ _ _ HS.out).mono ?_; rw [HG.out]; rintro e w1 ⟨rfl, hb⟩; obtain ⟨hc, hf, hz⟩ := bcell hb; have hz0 : w.heap.size < w1.heap.size := by (try simp at hz); omega))
    go_ret
    refine ⟨ret_bool (by unfold twoB; rw [HG.out]; rfl), ?_⟩
    (repeat (first | assumption | exact Below.refl _ _ | (refine Below.alloc ?_ (by first | omega | (simp; done) | (simp; omega)) _) | (refine Below.setCell ?_ (by first | omega | (simp; done) | (simp; omega)) _) | refine bel_drewN ?_ _ | refine bel_drew ?_ | (refine bel_call ?_ (by assumption))))

def modI (b x : Int) : Int := x % b
theorem tmod_bd {b : Int} (h2 : 2 ≤ b) (h10 : b ≤ 10) (x : Int) : -10 ≤ x.tmod b ∧ x.tmod b ≤ 10 ∧ 0 ≤ x.tmod b + b ∧ (x.tmod b + b) % b = x % b := by
  have h := Int.emod_add_mul_ediv x b
  have t := Int.tmod_add_mul_tdiv x b
  have l : x.tmod b < b := Int.tmod_lt_of_pos x (by omega)
  have g : -b < x.tmod b := Int.lt_tmod_of_pos x (by omega)
  refine ⟨by omega, by omega, by omega, ?_⟩
  rw [Int.add_emod_right]
  exact ((congrArg (· % b) t).symm.trans (Int.add_mul_emod_self_left _ _ _)).symm

theorem l1Mod_any (x b : Int) (w : World) (h2 : 2 ≤ b) (h10 : b ≤ 10) :
    Calls Try.prog 82 #[.int .i64 x, .int .i64 b] w fun e w' => e = .returned (.int .i64 (modI b x)) ∧ w = w' := by
  obtain ⟨t1, t2, t3, t4⟩ := tmod_bd h2 h10 x
  have HT := Lib.hid t4
  clear t4
  by_cases hx : 0 ≤ x
  · have l := Int.emod_nonneg x (show b ≠ 0 by omega)
    have g := Int.emod_lt_of_pos x (show 0 < b by omega)
    go_enter Try.func82, Try.ntmps82
    go_wp2
    go_ret
    exact ⟨ret_int (by unfold modI; simp), rfl⟩
  · go_enter Try.func82, Try.ntmps82
    go_wp2
    go_ret
    exact ⟨ret_int (by have := HT.out; simpa [modI] using this), rfl⟩

end Go.Proofs.Ythnekpdakjcadaa
