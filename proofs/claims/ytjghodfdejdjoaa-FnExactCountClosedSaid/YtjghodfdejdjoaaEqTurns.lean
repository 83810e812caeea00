/- Equal lists of turns, as the law compares them. For lists that hold the same turns. -/
import Derived.Test.YtjghodfdejdjoaaOpenTurns
namespace Go.Proofs.Ytjghodfdejdjoaa
open Go.ChangeShapes Go.WideShapes Go.ChangeAt Go.RowKit Go.Joins

end Go.Proofs.Ytjghodfdejdjoaa
