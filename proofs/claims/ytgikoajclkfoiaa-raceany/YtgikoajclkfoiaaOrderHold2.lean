/- What order's holds answers (under way). -/
import Derived.Test.YtgikoajclkfoiaaOrderHold
namespace Go.Proofs.Ytgikoajclkfoiaa
set_option linter.unusedVariables false
set_option linter.unusedSimpArgs false
set_option maxRecDepth 100000
open Go.ChangeShapes Go.WideShapes Go.ChangeAt Go.RowKit

end Go.Proofs.Ytgikoajclkfoiaa
