/- SystemKnown: the table of powers out of what is tied. -/
import Derived.Test.YtnanjacllmdenaaDoorKe29
import Derived.Test.YtnanjacllmdenaaDoorKe21
set_option linter.unusedSimpArgs false
set_option linter.unusedVariables false
/- SystemKnown: the table of powers out of what is tied. -/
namespace Go.Proofs.YtnanjacllmdenaaDoor
open Go.ChangeShapes Go.WideShapes Go.ChangeAt Go.RowKit
set_option linter.unusedVariables false
set_option linter.constructorNameAsVariable false

theorem gPowk : Tryd.prog.globalNamed "internal/strconv.uint64pow10" = some 1 := by kernel_rfl
theorem tPowk : (Tryd.prog.globals[1]?).map (·.type) = some 204 := by kernel_rfl
theorem cellsPowk : Tryd.prog.cellsOf 204 = 20 := by kernel_rfl
theorem laidPowk_eq {H : Type} : (Rows.laid_internal_strconv_uint64pow10 : DataW H) = Lib.tabData .u64 Lib.pow10Tab := rfl
set_option maxRecDepth 100000 in
theorem pwk_of_laid {W : World} (h : laidMetH Tryd.prog laidL W) : Pwz W := by
  rw [MakeChecks.laidMetH_plain _ _ _ (by kernel_rfl)] at h
  obtain ⟨ps, ⟨_, _, _, _, _, _, _, _, _, _, ⟨_, _, _, _, _, _, _, _, _, _, ⟨_, _, _, _, _, _, _, _, _, _, ⟨g, t, cs, fuel, p, q, hg, ht, hv, hd, _, _⟩, _⟩, _⟩, _⟩, _, _⟩ := h
  obtain rfl := Option.some.inj (gPowk.symm.trans hg)
  obtain rfl := Option.some.inj (tPowk.symm.trans ht)
  rw [laidPowk_eq] at hd
  unfold Pwz Lib.TabIs
  rw [hv, ← Lib.cells_of_tab Tryd.underlying204 Tryd.underlying42 cellsU64 cellsPowk hd]
end Go.Proofs.YtnanjacllmdenaaDoor
