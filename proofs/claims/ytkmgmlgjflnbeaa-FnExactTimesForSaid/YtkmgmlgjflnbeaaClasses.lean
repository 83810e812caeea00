/- How many classes there are, as both programs tell it. No conditions. -/
import Derived.Test.YtkmgmlgjflnbeaaReachI
import Derived.Test.YtkmgmlgjflnbeaaZero
import Derived.Test.YtkmgmlgjflnbeaaGS
namespace Go.Proofs.Ytkmgmlgjflnbeaa
open Go.ChangeShapes Go.WideShapes Go.ChangeAt Go.RowKit Go.Joins

theorem digL_zeroN (b : Int) (n : Nat) : digL b 0 n = List.replicate n 0 := by
  unfold digL
  apply List.ext_getElem
  · simp
  · intro i h1 h2
    simp

theorem zero_ask {n : Nat} {b : Int} (hg : goodB n b = true) : askB n b (textOf (List.replicate n 0)) = true := by
  have h := good_yes hg
  refine knob_ask hg ?_
  unfold knobB
  rw [List.length_replicate, decide_eq_true rfl, Bool.true_and, List.all_eq_true]
  intro x hx
  rw [(List.mem_replicate.1 hx).2]
  unfold inB
  exact decide_eq_true (by omega)

def ccZ (a b : Int) (ks : List (List Int)) : Int := if gearsB a b ks then wrap64 ((cntN a b : Int) / (allL a b ks (textOf (List.replicate a.toNat 0))).length) else 0

theorem allL_pos (a b : Int) {ks : List (List Int)} {s : ByteArray} (hk : KnobsB a b ks) (hs : askB a b s = true) : 1 ≤ (allL a b ks s).length := by
  have := (allL_all hk hs).head
  exact (List.getElem?_eq_some_iff.1 this).1

end Go.Proofs.Ytkmgmlgjflnbeaa
