/- What the two programs answer for IsCode, and the law on it: for every lock and text both answer alike. No conditions. -/
import Derived.Test.YtgdjbclkdnmebaaDoorLock
import Derived.Deep.QuietTactic
import Derived.BigQuiet
import Derived.LoopTactic
import Derived.Lib.Hide
namespace Go.Proofs.YtgdjbclkdnmebaaDoor
open Go.ChangeShapes Go.WideShapes Go.ChangeAt Go.RowKit Go.Joins

def inB (n lo hi : Int) : Bool := decide (lo ≤ n ∧ n ≤ hi)

theorem l1In_any (n lo hi : Int) (w : World) :
    Calls Tryd.prog 57 #[.int .i64 n, .int .i64 lo, .int .i64 hi] w fun e w' => e = .returned (.bool (inB n lo hi)) ∧ w' = w := by
  go_enter Tryd.func57, Tryd.ntmps57
  go_wp2
  all_goals go_ret
  all_goals refine ⟨ret_bool ?_, rfl⟩
  all_goals (unfold inB; rw [Bool.eq_iff_iff]; simp; try omega)

/-- One letter is a digit below b. -/
def digitB (b : Int) (c : UInt8) : Bool := decide (48 ≤ (c.toNat : Int) ∧ (c.toNat : Int) - 48 < b)

def isCodeB (a b : Int) (s : ByteArray) : Bool := decide ((s.size : Int) = a) && s.data.toList.all (digitB b)

theorem all_snoc {s : ByteArray} {k : Nat} {p : UInt8 → Bool} {h : k < s.size} (ha : (s.data.toList.take k).all p = true) (hd : p s[k] = true) : (s.data.toList.take (k + 1)).all p = true := by
  rw [List.take_succ_eq_append_getElem (by simpa using h), List.all_append, ha]
  have hd' : p (s.data[k]'(by simpa using h)) = true := hd
  simpa using hd'

theorem all_not {s : ByteArray} {k : Nat} {p : UInt8 → Bool} (h : k < s.size) (hd : ¬ p s[k] = true) : s.data.toList.all p = false := by
  rw [List.all_eq_false]
  have e : s[k] = s.data.toList[k]'(by simpa using h) := rfl
  exact ⟨s[k], by rw [e]; exact List.getElem_mem _, hd⟩
end Go.Proofs.YtgdjbclkdnmebaaDoor
