/- Contracts of package poly and of own at lists that are known, each with what it leaves. -/
import Derived.Test.YtiipgbobgeejmaaDoorKb07
import Derived.Test.YtiipgbobgeejmaaDoorKwTsized
import Derived.Test.YtiipgbobgeejmaaDoorKb05
namespace Go.Proofs.YtiipgbobgeejmaaDoor
open Go.RowKit
set_option linter.unusedVariables false

theorem addL_len (f : Int) (l m : List Nat) : (addL f l m).length ≤ max l.length m.length := by
  unfold addL; have := normF_len f ((List.range (max l.length m.length)).map fun i => addF f (l.getD i 0) (m.getD i 0)); simpa using this
theorem scaleF_len (f : Int) (l : List Nat) (s : Nat) : (scaleF f l s).length ≤ l.length := by
  unfold scaleF; have := normF_len f (l.map fun x => mulF f x s); simpa using this
theorem mulL_lenle {f : Int} {a b : List Nat} : (mulL f a b).length ≤ (normF f a).length + (normF f b).length - 1 := by
  unfold mulL; split
  · simp
  · simp
end Go.Proofs.YtiipgbobgeejmaaDoor
