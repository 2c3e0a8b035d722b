/- The laws' own calls reduced and within: what each returns. -/
import Derived.Test.YtcbmeegmdgllkaaDoorSlives
namespace Go.Proofs.YtcbmeegmdgllkaaDoor
open Go.RowKit
set_option linter.unusedVariables false

theorem fl4_mod (f : Int) (s : St) : fl4 (fun i => if i < 4 then ix s i % pOf f else ix s i) = fl4 (ix (modS f s)) := by
  refine fl4_ext fun i hi => ?_
  rw [if_pos hi]
  rcases lt4 hi with rfl | rfl | rfl | rfl <;> rfl
end Go.Proofs.YtcbmeegmdgllkaaDoor
