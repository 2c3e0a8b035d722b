/- The powers of package field, and what is made of them: what each call returns, over the tied table. -/
import Derived.Test.YtnmfneeojnmebaaDoorWalkA
namespace Go.Proofs.YtnmfneeojnmebaaDoor
open Go.RowKit
set_option linter.unusedVariables false

theorem and_one_u64 (n : Nat) (h1 : n ≤ 18446744073709551615) : bits BinOp.and IntKind.u64 (n : Int) 1 = ((n % 2 : Nat) : Int) := by
  have h := bits_and_u64_nat n 1 (by omega) (by omega)
  rw [Nat.and_one_is_mod] at h
  exact h

end Go.Proofs.YtnmfneeojnmebaaDoor
