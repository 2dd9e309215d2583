/- What the plain calls of package bits return, for every input: fits, one, Has, All. -/
import Derived.Test.YtaiaipejmggbeaaProg
import Derived.Test.YtaiaipejmggbeaaBitsMath
import Derived.WalkKit
import Derived.Lib.Hide
import Derived.WalkSpells
import Derived.Laws.BitsAllLaws
namespace Go.Proofs.Ytaiaipejmggbeaa
set_option linter.unusedVariables false
set_option linter.unusedSimpArgs false
open Go.RowKit


end Go.Proofs.Ytaiaipejmggbeaa
