/- What the plain calls of package bits return, for every input: fits, one, Has, All. -/
import Derived.Test.YtfcfdneganknjaaProg
import Derived.Test.YtfcfdneganknjaaBitsMath
import Derived.WalkKit
import Derived.Lib.Hide
import Derived.WalkSpells
import Derived.Laws.BitsAllLaws
namespace Go.Proofs.Ytfcfdneganknjaa
set_option linter.unusedVariables false
set_option linter.unusedSimpArgs false
open Go.RowKit


end Go.Proofs.Ytfcfdneganknjaa
