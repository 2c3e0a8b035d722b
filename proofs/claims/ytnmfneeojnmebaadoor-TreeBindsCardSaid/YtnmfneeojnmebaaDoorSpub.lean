/- The sponge's inverse of elements; Perm and Inverse: what the calls return. -/
import Derived.Test.YtnmfneeojnmebaaDoorSun
namespace Go.Proofs.YtnmfneeojnmebaaDoor
open Go.RowKit
set_option linter.unusedVariables false

end Go.Proofs.YtnmfneeojnmebaaDoor
