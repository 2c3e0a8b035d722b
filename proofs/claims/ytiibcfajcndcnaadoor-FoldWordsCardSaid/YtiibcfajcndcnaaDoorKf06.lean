/- The number of bits of a number, as the library counts them. -/
import Derived.Test.YtiibcfajcndcnaaDoorProg
import Derived.Lib.Strings
import Derived.Lib.Slices
import Derived.Lib.Small
import Derived.Lib.Walk
import Derived.Lib.BitFns
import Derived.Lib.Hide
/- The number of bits of a number, as the library counts them. -/
namespace Go.Proofs.YtiibcfajcndcnaaDoor
set_option linter.unusedVariables false

/-- The least k with x below 2^k. -/
theorem bitLen_ge : ∀ (x : Nat), x < 2 ^ 64 → x < 2 ^ Lib.bitLen x := by
  intro x
  induction x using Nat.strongRecOn with
  | _ x ih =>
    intro h
    by_cases h0 : x = 0
    · subst h0; exact Nat.pow_pos (by omega)
    · rw [Lib.bitLen_half x h0 h, Nat.add_comm, Nat.pow_succ]
      have := ih (x / 2) (by omega) (by omega)
      omega
end Go.Proofs.YtiibcfajcndcnaaDoor
