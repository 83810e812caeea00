/- Which gears there are: both contracts, for lists handed in by the law. For at most 1048576 numbers. -/
import Derived.Test.YtkmgmlgjflnbeaaStepsI
namespace Go.Proofs.Ytkmgmlgjflnbeaa
open Go.ChangeShapes Go.WideShapes Go.ChangeAt Go.RowKit Go.Joins

theorem areGearsC_any (a b : Int) (A : Option Addr) (n c : Nat) (ks : List (List Int)) (w : World) (hm : n + lensAt ks n ≤ 1048576) (hA : KnobsC w A n ks) :
    Calls Try.prog 44 #[.agg #[.int .i64 a, .int .i64 b, .slice A n c]] w fun e w' => e = .returned (.bool (gearsB a b ks)) ∧ Below w.heap.size w w' := areGears_any a b A n c ks w hm (hA.knobs hm)

end Go.Proofs.Ytkmgmlgjflnbeaa
