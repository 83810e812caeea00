/- Places and other digits of a guess for a code: what both programs answer. No conditions. -/
import Derived.Test.YtgdjbclkdnmebaaDoorHk
import Derived.Test.YtgdjbclkdnmebaaDoorDead
import Derived.OwnWalk
namespace Go.Proofs.YtgdjbclkdnmebaaDoor
open Go.ChangeShapes Go.WideShapes Go.ChangeAt Go.RowKit Go.Joins

/-- There is a lock with at most m codes. -/
def limB (m a b : Int) : Bool := goodB a b && decide (countZ a b ≤ m)

theorem limB_search (a b : Int) : limB 1000 a b = searchB a b := rfl

theorem hiLock_any (a b m : Int) (w : World) :
    Calls Tryd.prog 99 #[.agg #[.int .i64 a, .int .i64 b], .int .i64 m] w fun e w' => e = .returned (.bool (limB m a b)) ∧ Below w.heap.size w w' := by
  by_cases hg : goodB a b = true
  · have HG := Lib.hid hg
    have hg' := good_yes hg
    obtain ⟨n, rfl⟩ : ∃ n : Nat, a = n := ⟨a.toNat, by omega⟩
    have HV : Hid (limB m n b = decide (pw b n ≤ m)) := Lib.hid (by unfold limB; rw [hg, countZ_yes hg]; rfl)
    clear hg hg'
    go_enter Tryd.func99, Tryd.ntmps99
    go_wp2_with (first | (go_at_call 120; refine (whGood_any _ _ _).mono ?_; rw [HG.out]; rintro e w1 ⟨rfl, hb⟩; obtain ⟨hc, hf, hz⟩ := bcell hb; have hz0 : w.heap.size < w1.heap.size := by (try simp at hz); omega) | (go_at_call 100; refine (whCount_any _ _ _ HG.out).mono ?_; rintro e w1 ⟨rfl, hb⟩; obtain ⟨hc, hf, hz⟩ := bcell hb; have hz0 : w.heap.size < w1.heap.size := by (try simp at hz); omega))
    go_ret
    refine ⟨ret_bool HV.out.symm, ?_⟩
    (repeat (first | assumption | exact Below.refl _ _ | (refine Below.alloc ?_ (by first | omega | (simp; done) | (simp; omega)) _) | (refine Below.setCell ?_ (by first | omega | (simp; done) | (simp; omega)) _) | refine bel_drewN ?_ _ | refine bel_drew ?_ | (refine bel_call ?_ (by assumption))))
  · have HG := Lib.hid (Bool.eq_false_iff.2 hg)
    have HV : Hid (limB m a b = false) := Lib.hid (by unfold limB; rw [HG.out]; rfl)
    clear hg
    go_enter Tryd.func99, Tryd.ntmps99
    go_wp2_with (first | (go_at_call 120; refine (whGood_any _ _ _).mono ?_; rw [HG.out]; rintro e w1 ⟨rfl, hb⟩; obtain ⟨hc, hf, hz⟩ := bcell hb; have hz0 : w.heap.size < w1.heap.size := by (try simp at hz); omega))
    go_ret
    refine ⟨ret_bool HV.out.symm, ?_⟩
    (repeat (first | assumption | exact Below.refl _ _ | (refine Below.alloc ?_ (by first | omega | (simp; done) | (simp; omega)) _) | (refine Below.setCell ?_ (by first | omega | (simp; done) | (simp; omega)) _) | refine bel_drewN ?_ _ | refine bel_drew ?_ | (refine bel_call ?_ (by assumption))))

/-- There are a lock of few codes and two codes of it. -/
def h2B (a b : Int) (s t : ByteArray) : Bool := searchB a b && isCodeB a b s && isCodeB a b t

theorem h2B_two {a b : Int} {s t : ByteArray} (h : searchB a b = true) (hs : isCodeB a b s = true) (ht : isCodeB a b t = true) : TwoD s t := by
  have hg := (searchB_good h).1
  exact twoD_of (asked (by unfold askB; rw [hg, hs]; rfl)) (asked (by unfold askB; rw [hg, ht]; rfl))

/-- What HintOf answers. -/
def hoP (a b : Int) (s t : ByteArray) : Int := if h2B a b s t then hiP s t else 0
def hoO (a b : Int) (s t : ByteArray) : Int := if h2B a b s t then hiO s t else 0
def hoV (a b : Int) (s t : ByteArray) : Value := .tuple #[.int .i64 (hoP a b s t), .int .i64 (hoO a b s t), .bool (h2B a b s t)]

theorem hoV_no {a b : Int} {s t : ByteArray} (h : h2B a b s t = false) : hoV a b s t = .tuple #[.int .i64 0, .int .i64 0, .bool false] := by
  unfold hoV hoP hoO; rw [h]; rfl

theorem hoV_yes {a b : Int} {s t : ByteArray} (h : h2B a b s t = true) : hoV a b s t = .tuple #[.int .i64 (hiP s t), .int .i64 (hiO s t), .bool true] := by
  unfold hoV hoP hoO; rw [h]; rfl

end Go.Proofs.YtgdjbclkdnmebaaDoor
