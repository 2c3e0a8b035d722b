/- The sponge's inverse of elements; Perm and Inverse: what the calls return. -/
import Derived.Test.YtcbmeegmdgllkaaDoorSun
namespace Go.Proofs.YtcbmeegmdgllkaaDoor
open Go.RowKit
set_option linter.unusedVariables false

end Go.Proofs.YtcbmeegmdgllkaaDoor
