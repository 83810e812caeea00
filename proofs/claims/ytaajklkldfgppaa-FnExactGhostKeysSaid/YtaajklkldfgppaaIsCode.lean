/- The law on IsCode: for every lock and text both programs answer alike. No conditions. -/
import Derived.Test.YtaajklkldfgppaaCode
import Derived.Deep.RegionHeld3
namespace Go.Proofs.Ytaajklkldfgppaa
open Go.ChangeShapes Go.WideShapes Go.ChangeAt Go.RowKit Go.Joins

end Go.Proofs.Ytaajklkldfgppaa
