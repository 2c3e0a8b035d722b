/- Comparing arrays of eight numbers. -/
import Derived.Test.YtiibcfajcndcnaaDoorKf09
import Derived.ChangeKeysEq
/- Comparing arrays of eight numbers. -/
namespace Go.Proofs.YtiibcfajcndcnaaDoor
open Go.RowKit
set_option linter.unusedVariables false

theorem cellsUq : Tryd.prog.cellsOf 22 = 1 := by kernel_rfl
theorem eq_num8 (d : Nat) (a b : Int) (w : World) : (Op.equalIn (d + 1) 22 (.int .u64 a) (.int .u64 b)).run Tryd.prog w = .ok (a == b) w := by
  simp [Op.equalIn, Sem.run_bind, run_underlying Tryd.underlying22]
theorem plainU : Tryd.prog.plainKey 22 = true := by kernel_rfl
theorem items_step8 (d i : Nat) (is : List Nat) (a b : Int) (xs ys : Array Value) (w : World) (hx : xs[i * 1]? = some (.int .u64 a)) (hy : ys[i * 1]? = some (.int .u64 b)) :
    (Op.eqItems (d + 1) 22 1 xs ys (i :: is)).run Tryd.prog w = if (a == b) = true then (Op.eqItems (d + 1) 22 1 xs ys is).run Tryd.prog w else .ok false w := by
  simp only [Op.eqItems, Sem.run_bind, run_part_plain w plainU hx, run_part_plain w plainU hy, Result.andThen_ok, eq_num8]
  cases (a == b) <;> simp
set_option maxHeartbeats 1000000 in
theorem eq8 (a0 a1 a2 a3 a4 a5 a6 a7 b0 b1 b2 b3 b4 b5 b6 b7 : Int) (w : World) : (Op.equalIn 10000 25 (.agg #[.int .u64 a0, .int .u64 a1, .int .u64 a2, .int .u64 a3, .int .u64 a4, .int .u64 a5, .int .u64 a6, .int .u64 a7]) (.agg #[.int .u64 b0, .int .u64 b1, .int .u64 b2, .int .u64 b3, .int .u64 b4, .int .u64 b5, .int .u64 b6, .int .u64 b7])).run Tryd.prog w = .ok (a0 == b0 && (a1 == b1 && (a2 == b2 && (a3 == b3 && (a4 == b4 && (a5 == b5 && (a6 == b6 && (a7 == b7)))))))) w := by
  obtain ⟨i, hi⟩ : ∃ i, Tryd.prog.info? 22 = some i := Option.isSome_iff_exists.1 (by kernel_rfl)
  rw [show (10000 : Nat) = 9999 + 1 from rfl, run_equalIn_array w 9999 _ _ Tryd.underlying25 hi, cellsUq]
  rw [show List.range 8 = [0, 1, 2, 3, 4, 5, 6, 7] from rfl, show (9999 : Nat) = 9998 + 1 from rfl]
  rw [items_step8 9998 0 _ a0 b0 _ _ w rfl rfl, items_step8 9998 1 _ a1 b1 _ _ w rfl rfl, items_step8 9998 2 _ a2 b2 _ _ w rfl rfl, items_step8 9998 3 _ a3 b3 _ _ w rfl rfl, items_step8 9998 4 _ a4 b4 _ _ w rfl rfl, items_step8 9998 5 _ a5 b5 _ _ w rfl rfl, items_step8 9998 6 _ a6 b6 _ _ w rfl rfl, items_step8 9998 7 _ a7 b7 _ _ w rfl rfl]
  cases (a0 == b0)
  · simp [Op.eqItems]
  cases (a1 == b1)
  · simp [Op.eqItems]
  cases (a2 == b2)
  · simp [Op.eqItems]
  cases (a3 == b3)
  · simp [Op.eqItems]
  cases (a4 == b4)
  · simp [Op.eqItems]
  cases (a5 == b5)
  · simp [Op.eqItems]
  cases (a6 == b6)
  · simp [Op.eqItems]
  cases (a7 == b7)
  · simp [Op.eqItems]
  simp [Op.eqItems]
theorem eq8V (A B : List Nat) (hA : A.length = 8) (hB : B.length = 8) (w : World) : (Op.equalIn 10000 25 (arrV A) (arrV B)).run Tryd.prog w = .ok (decide (A = B)) w := by
  unfold arrV
  rw [eq8]
  congr 1
  match A, hA with
  | [a0, a1, a2, a3, a4, a5, a6, a7], _ =>
    match B, hB with
    | [b0, b1, b2, b3, b4, b5, b6, b7], _ =>
      rw [Bool.eq_iff_iff]
      simp
      constructor
      · intro h; omega
      · intro h; omega
end Go.Proofs.YtiibcfajcndcnaaDoor
