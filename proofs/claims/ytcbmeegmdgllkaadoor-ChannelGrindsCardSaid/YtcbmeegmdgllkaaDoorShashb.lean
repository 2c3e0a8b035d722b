/- The sponge's Hash, with a field or without: what the call returns. -/
import Derived.Test.YtcbmeegmdgllkaaDoorShash
namespace Go.Proofs.YtcbmeegmdgllkaaDoor
open Go.RowKit
set_option linter.unusedVariables false

end Go.Proofs.YtcbmeegmdgllkaaDoor
