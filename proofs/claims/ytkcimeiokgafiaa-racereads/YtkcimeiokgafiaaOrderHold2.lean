/- What order's holds answers (under way). -/
import Derived.Test.YtkcimeiokgafiaaOrderHold
namespace Go.Proofs.Ytkcimeiokgafiaa
set_option linter.unusedVariables false
set_option linter.unusedSimpArgs false
set_option maxRecDepth 100000
open Go.ChangeShapes Go.WideShapes Go.ChangeAt Go.RowKit

end Go.Proofs.Ytkcimeiokgafiaa
