/- The sponge's unround and inverse: what the calls return. -/
import Derived.Test.YtnmfneeojnmebaaDoorSmixy
namespace Go.Proofs.YtnmfneeojnmebaaDoor
open Go.RowKit
set_option linter.unusedVariables false

/-- An element under way back. -/
def unAt (f : Int) (r : Nat) (t : Nat → Nat) (i : Nat) : Nat := offF f (powF f (rowB (pOf f) (t i) (t ((i + 1) % 4)) (t ((i + 2) % 4)) (t ((i + 3) % 4)) % pOf f * part35 f % pOf f) (backN f)) (cstF f r i)
theorem un_at (f : Int) (r : Nat) (t : St) : fl4 (unAt f r (ix t)) = fl4 (ix (unS f r t)) := by
  refine fl4_ext fun i hi => ?_
  unfold unAt
  rw [Nat.mod_mul_mod]
  rcases lt4 hi with rfl | rfl | rfl | rfl <;> rfl
theorem unAt_lt (f : Int) (r : Nat) (t : Nat → Nat) (i : Nat) (hp : 0 < pOf f) : unAt f r t i < pOf f := Nat.mod_lt _ hp

end Go.Proofs.YtnmfneeojnmebaaDoor
