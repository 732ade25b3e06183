/-
  What this text proves: an argument that is a slice of codes is read as a row of triples of integers, a line as four integers.
-/
import Derived.Test.YtbmjigneekodnaaVLs
import Derived.Test.YtbmjigneekodnaaOpr
set_option linter.unusedVariables false
set_option linter.unusedSimpArgs false
set_option maxRecDepth 100000
namespace Go.Proofs.Ytbmjigneekodnaa
open Go.Pv Go.RowKit Go.ChangeShapes Go.WideShapes Go.ChangeAt Go.Joins Go.Deep

end Go.Proofs.Ytbmjigneekodnaa
