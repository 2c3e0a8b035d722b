/- The document's own: SameVars, Same. -/
import Derived.Test.YtnanjacllmdenaaDoorKc06
import Derived.Laws.StructEq
import Derived.ChangeKeysEq
set_option linter.unusedSimpArgs false
set_option linter.unusedVariables false
/- The document's own: SameVars, Same. -/
namespace Go.Proofs.YtnanjacllmdenaaDoor
open Go.RowKit
set_option linter.unusedVariables false

end Go.Proofs.YtnanjacllmdenaaDoor
