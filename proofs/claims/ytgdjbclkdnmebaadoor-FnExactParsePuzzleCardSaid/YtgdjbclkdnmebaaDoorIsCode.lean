/- The law on IsCode: for every lock and text both programs answer alike. No conditions. -/
import Derived.Test.YtgdjbclkdnmebaaDoorCode
import Derived.Deep.RegionHeld3
namespace Go.Proofs.YtgdjbclkdnmebaaDoor
open Go.ChangeShapes Go.WideShapes Go.ChangeAt Go.RowKit Go.Joins

end Go.Proofs.YtgdjbclkdnmebaaDoor
