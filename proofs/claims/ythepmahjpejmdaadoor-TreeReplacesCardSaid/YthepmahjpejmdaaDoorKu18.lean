/- Comparing numbers and arrays of numbers. -/
import Derived.Test.YthepmahjpejmdaaDoorKu04
import Derived.ChangeKeysEq
set_option linter.unusedSimpArgs false
set_option linter.unusedVariables false
/- Comparing numbers and arrays of numbers. -/
namespace Go.Proofs.YthepmahjpejmdaaDoor
open Go.RowKit
set_option linter.unusedVariables false

theorem cellsU : Tryd.prog.cellsOf 34 = 1 := by kernel_rfl
theorem eq_num (d : Nat) (a b : Int) (w : World) : (Op.equalIn (d + 1) 34 (.int .u64 a) (.int .u64 b)).run Tryd.prog w = .ok (a == b) w := by
  simp [Op.equalIn, Sem.run_bind, run_underlying Tryd.underlying34]
theorem plainU : Tryd.prog.plainKey 34 = true := by kernel_rfl
theorem items_step (d i : Nat) (is : List Nat) (a b : Int) (xs ys : Array Value) (w : World) (hx : xs[i * 1]? = some (.int .u64 a)) (hy : ys[i * 1]? = some (.int .u64 b)) :
    (Op.eqItems (d + 1) 34 1 xs ys (i :: is)).run Tryd.prog w = if (a == b) = true then (Op.eqItems (d + 1) 34 1 xs ys is).run Tryd.prog w else .ok false w := by
  simp only [Op.eqItems, Sem.run_bind, run_part_plain w plainU hx, run_part_plain w plainU hy, Result.andThen_ok, eq_num]
  cases (a == b) <;> simp
theorem eq2 (a b a' b' : Int) (w : World) : (Op.equalIn 10000 36 (.agg #[.int .u64 a, .int .u64 b]) (.agg #[.int .u64 a', .int .u64 b'])).run Tryd.prog w = .ok (a == a' && b == b') w := by
  obtain ⟨i, hi⟩ : ∃ i, Tryd.prog.info? 34 = some i := Option.isSome_iff_exists.1 (by kernel_rfl)
  rw [show (10000 : Nat) = 9999 + 1 from rfl, run_equalIn_array w 9999 _ _ Tryd.underlying36 hi, cellsU]
  rw [show List.range 2 = [0, 1] from rfl, show (9999 : Nat) = 9998 + 1 from rfl]
  rw [items_step 9998 0 _ a a' _ _ w rfl rfl, items_step 9998 1 _ b b' _ _ w rfl rfl]
  cases (a == a') <;> cases (b == b') <;> simp [Op.eqItems]
end Go.Proofs.YthepmahjpejmdaaDoor
