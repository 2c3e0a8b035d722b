/- Package system: valueOf, text: what the calls return. -/
import Derived.Test.YtnanjacllmdenaaDoorKc15
import Derived.Test.YtnanjacllmdenaaDoorKc19
import Derived.Test.YtnanjacllmdenaaDoorKc02
import Derived.Lib.BufferRead
import Derived.Lib.Slices
import Derived.Laws.IdiomStrings
import Derived.WalkKit
import Derived.BigCall
set_option linter.unusedSimpArgs false
set_option linter.unusedVariables false
/- Package system: valueOf, text: what the calls return. -/
namespace Go.Proofs.YtnanjacllmdenaaDoor
open Go.Shelf Go.RowKit Go.Lib Go.Sort
set_option linter.unusedVariables false

/-- The library's table of powers of ten. -/
def Pwz (w : World) : Prop := Lib.TabIs Tryd.prog w "internal/strconv.uint64pow10" .u64 Lib.pow10Tab
theorem Pwz.below {w : World} (h : Pwz w) : Lib.TabBelow Tryd.prog w.heap.size w "internal/strconv.uint64pow10" .u64 Lib.pow10Tab := Lib.tabBelow_of_tabIs h
theorem Pwz.on {W w : World} (h : Pwz W) (k : On W w) : Pwz w := h.below w k.2
end Go.Proofs.YtnanjacllmdenaaDoor
