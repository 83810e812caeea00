/- The law on IsCode: for every lock and text both programs answer alike. No conditions. -/
import Derived.Test.YtkmgmlgjflnbeaaCode
import Derived.Deep.RegionHeld3
namespace Go.Proofs.Ytkmgmlgjflnbeaa
open Go.ChangeShapes Go.WideShapes Go.ChangeAt Go.RowKit Go.Joins

end Go.Proofs.Ytkmgmlgjflnbeaa
