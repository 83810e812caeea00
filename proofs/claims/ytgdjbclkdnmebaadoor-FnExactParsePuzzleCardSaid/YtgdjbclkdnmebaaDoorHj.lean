/- Places and other digits of a guess for a code, as the model reckons them. For two texts of digits. -/
import Derived.Test.YtgdjbclkdnmebaaDoorHi
import Derived.Test.YtgdjbclkdnmebaaDoorFar
import Derived.Lib.OthersKept
import Derived.LoopTactic
import Derived.Deep.QuietTactic
import Derived.BigQuiet
namespace Go.Proofs.YtgdjbclkdnmebaaDoor
open Go.ChangeShapes Go.WideShapes Go.ChangeAt Go.RowKit Go.Joins

theorem hj_pos {w : World} {k pos : Nat} {s : ByteArray} (h : w.heap[k]? = some (.stringIter s pos)) : w.iterPos k = pos := by simp [World.iterPos, h]

theorem hj_ascii {s : ByteArray} (hd : Digits (dg s)) {k : Nat} (hk : k < s.size) : (s[k]'hk).toNat < 128 := by
  have := digits_at hd hk
  omega

theorem lst_min (x y : Nat) : lstI (x : Int) (y : Int) = ((min x y : Nat) : Int) := by
  unfold lstI
  split <;> omega

end Go.Proofs.YtgdjbclkdnmebaaDoor
