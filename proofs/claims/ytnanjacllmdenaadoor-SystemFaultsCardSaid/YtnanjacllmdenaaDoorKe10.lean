/- The operations of a region that only keeps its class of worlds, one at a time; what follows stands behind a variable. -/
import Derived.Test.YtnanjacllmdenaaDoorKe08
import Derived.Test.YtnanjacllmdenaaDoorKe09
import Derived.Lib.Hide
set_option linter.unusedSimpArgs false
set_option linter.unusedVariables false
/- The operations of a region that only keeps its class of worlds, one at a time; what follows stands behind a variable. -/
namespace Go.Proofs.YtnanjacllmdenaaDoor
open Go Go.RowKit
variable {P : Program} {ops : Array Oper} {C : World → Prop} {Q : Act → Prop} {o : Oper} {rest L : List Oper} {a : Act}
theorem quiet_start (h : ∀ L, Hid (L = rest) → wpQuiet P ops C Q L a) : wpQuiet P ops C Q rest a := h rest rfl
theorem quiet_take {v : Value} (hL : Hid (L = o :: rest)) (hw : Region.wanted o (yielded ops a.tmps) = true) (hy : ∀ w, C w → o.quietAt P a C w v) (h : ∀ L', Hid (L' = rest) → wpQuiet P ops C Q L' (a.put o.dst v)) : wpQuiet P ops C Q L a := by
  rw [hL.out]
  exact BigFrame.wpQuiet_want hw fun _ hK => ⟨v, hy, hK _ (h rest rfl)⟩
theorem quiet_skip (hL : Hid (L = o :: rest)) (hw : Region.wanted o (yielded ops a.tmps) = false) (h : ∀ L', Hid (L' = rest) → wpQuiet P ops C Q L' (a.put o.dst undef)) : wpQuiet P ops C Q L a := by
  rw [hL.out]
  exact BigFrame.wpQuiet_skip hw (h rest rfl)
theorem quiet_nil (hL : Hid (L = [])) (h : Q a) : wpQuiet P ops C Q L a := by
  rw [hL.out]; exact wpQuiet_nil h
end Go.Proofs.YtnanjacllmdenaaDoor

namespace Go.Proofs.YtnanjacllmdenaaDoor
open Go
section
variable {P : Program} {ops : Array Oper} {md : Region.Mode} {S : World → Prop} {Q : Exit → Act → World → Prop}
end
end Go.Proofs.YtnanjacllmdenaaDoor
