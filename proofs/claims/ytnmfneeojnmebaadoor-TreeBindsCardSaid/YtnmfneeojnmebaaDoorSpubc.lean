/- The sponge's Inverse and Round: what the calls return. -/
import Derived.Test.YtnmfneeojnmebaaDoorSpubb
namespace Go.Proofs.YtnmfneeojnmebaaDoor
open Go.RowKit
set_option linter.unusedVariables false

/-- A round's state, or zeros where there is no field or no round. -/
def okR (f r : Int) (s : St) : St := if validB f = true ∧ 0 ≤ r ∧ r < 8 then rndS f r.toNat s else ⟨0, 0, 0, 0⟩
theorem okR_yes {f : Int} {r : Nat} {s : St} (h : validB f = true) (hr : r < 8) : okR f (r : Int) s = rndS f r s := if_pos ⟨h, by omega, by omega⟩
theorem okR_no {f r : Int} {s : St} (h : ¬ (validB f = true ∧ 0 ≤ r ∧ r < 8)) : okR f r s = ⟨0, 0, 0, 0⟩ := if_neg h
end Go.Proofs.YtnmfneeojnmebaaDoor
