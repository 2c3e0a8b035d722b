/- The library's Cut at a text of one byte. -/
import Derived.Test.YthgidehapcfciaaDoorProg
import Derived.Lib.Strings
import Derived.Lib.Slices
import Derived.Lib.Walk
import Derived.Lib.Bytealg
import Derived.Deep.QuietTactic
import Derived.BigQuiet
set_option linter.unusedSimpArgs false
set_option linter.unusedVariables false
/- The library's Cut at a text of one byte. -/
namespace Go.Proofs.YthgidehapcfciaaDoor.Rt
set_option maxRecDepth 100000
--
set_option linter.unusedVariables false

end Go.Proofs.YthgidehapcfciaaDoor.Rt
