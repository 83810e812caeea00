/- Whether a text goes on with an order. Mathematics alone. No conditions. -/
import Derived.Test.YtpbnleohbegccaaOo
namespace Go.Proofs.Ytpbnleohbegccaa

theorem ok_code {a b : Int} {ts : List ByteArray} {k : Nat} (h : askB a b (ts.getD k ByteArray.empty) = false) : okAt a b ts k = false := by unfold okAt; rw [h]; rfl

theorem ok_met {a b : Int} {ts : List ByteArray} {k : Nat} (h : hsS (ts.take k) (ts.getD k ByteArray.empty) = true) : okAt a b ts k = false := by unfold okAt; rw [h]; simp

theorem ok_first {a b : Int} {ts : List ByteArray} (h : askB a b (ts.getD 0 ByteArray.empty) = true) : okAt a b ts 0 = true := by unfold okAt; rw [h]; simp [hsS]

theorem ok_next {a b : Int} {ts : List ByteArray} {k : Nat} (h : askB a b (ts.getD (k + 1) ByteArray.empty) = true) (h2 : hsS (ts.take (k + 1)) (ts.getD (k + 1) ByteArray.empty) = false) : okAt a b ts (k + 1) = otB a b (ts.getD k ByteArray.empty) (ts.getD (k + 1) ByteArray.empty) := by
  unfold okAt; rw [h, h2]; simp

end Go.Proofs.Ytpbnleohbegccaa
