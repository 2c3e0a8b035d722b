/- The library contract of strconv.AppendUint at this program. -/
import Derived.Shelf.LaysM
import Derived.Shelf.Strconv.AppendUint10
import Derived.Shelf.Strconv.AppendInt10
import Derived.Test.YtnanjacllmdenaaDoorProg
set_option linter.unusedSimpArgs false
set_option linter.unusedVariables false
/- The library contract of strconv.AppendUint at this program. -/
namespace Go.Proofs
open Go.Shelf
end Go.Proofs
