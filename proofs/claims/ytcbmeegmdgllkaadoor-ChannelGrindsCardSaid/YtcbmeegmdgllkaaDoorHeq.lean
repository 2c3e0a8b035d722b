/- Two channels compared. -/
import Derived.Test.YtcbmeegmdgllkaaDoorHmem
import Derived.ChangeKeysEq
import Derived.Laws.StructEq
namespace Go.Proofs.YtcbmeegmdgllkaaDoor
open Go.RowKit
set_option linter.unusedVariables false

theorem hcellsU : Tryd.prog.cellsOf 22 = 1 := by kernel_rfl
theorem heq_num (d : Nat) (a b : Int) (w : World) : (Op.equalIn (d + 1) 22 (.int .u64 a) (.int .u64 b)).run Tryd.prog w = .ok (a == b) w := by
  simp [Op.equalIn, Sem.run_bind, run_underlying Tryd.underlying22]
theorem heq_int (d : Nat) (a b : Int) (w : World) : (Op.equalIn (d + 1) 3 (.int .i64 a) (.int .i64 b)).run Tryd.prog w = .ok (a == b) w := by
  simp [Op.equalIn, Sem.run_bind, run_underlying Tryd.underlying3]
theorem hplainU : Tryd.prog.plainKey 22 = true := by kernel_rfl
theorem hplainI : Tryd.prog.plainKey 3 = true := by kernel_rfl
theorem hitems_step (d i : Nat) (is : List Nat) (a b : Int) (xs ys : Array Value) (w : World) (hx : xs[i * 1]? = some (.int .u64 a)) (hy : ys[i * 1]? = some (.int .u64 b)) :
    (Op.eqItems (d + 1) 22 1 xs ys (i :: is)).run Tryd.prog w = if (a == b) = true then (Op.eqItems (d + 1) 22 1 xs ys is).run Tryd.prog w else .ok false w := by
  simp only [Op.eqItems, Sem.run_bind, run_part_plain w hplainU hx, run_part_plain w hplainU hy, Result.andThen_ok, heq_num]
  cases (a == b) <;> simp
theorem heq4 (n : Nat) (a b c d a2 b2 c2 d2 : Int) (w : World) : (Op.equalIn (n + 2) 23 (.agg #[.int .u64 a, .int .u64 b, .int .u64 c, .int .u64 d]) (.agg #[.int .u64 a2, .int .u64 b2, .int .u64 c2, .int .u64 d2])).run Tryd.prog w = .ok (a == a2 && (b == b2 && (c == c2 && d == d2))) w := by
  obtain ⟨i, hi⟩ : ∃ i, Tryd.prog.info? 22 = some i := Option.isSome_iff_exists.1 (by kernel_rfl)
  rw [show n + 2 = (n + 1) + 1 from rfl, run_equalIn_array w (n + 1) _ _ Tryd.underlying23 hi, hcellsU]
  rw [show List.range 4 = [0, 1, 2, 3] from rfl]
  rw [hitems_step n 0 _ a a2 _ _ w rfl rfl, hitems_step n 1 _ b b2 _ _ w rfl rfl, hitems_step n 2 _ c c2 _ _ w rfl rfl, hitems_step n 3 _ d d2 _ _ w rfl rfl]
  cases (a == a2) <;> cases (b == b2) <;> cases (c == c2) <;> cases (d == d2) <;> simp [Op.eqItems]
theorem hpart4 (f a b c d : Int) (w : World) : (part 23 #[.int .i64 f, .int .u64 a, .int .u64 b, .int .u64 c, .int .u64 d] 1).run Tryd.prog w = .ok (.agg #[.int .u64 a, .int .u64 b, .int .u64 c, .int .u64 d]) w := by kernel_rfl
theorem hfields : (Tryd.prog.fieldsOf 25).toList = [⟨ "Field", 3, 0, false, "", "", 0⟩, ⟨ "S", 23, 1, false, "", "", 8⟩] := by kernel_rfl
theorem heq5 (f a b c d f2 a2 b2 c2 d2 : Int) (w : World) : (Op.equalIn 10000 25 (.agg #[.int .i64 f, .int .u64 a, .int .u64 b, .int .u64 c, .int .u64 d]) (.agg #[.int .i64 f2, .int .u64 a2, .int .u64 b2, .int .u64 c2, .int .u64 d2])).run Tryd.prog w = .ok (f == f2 && (a == a2 && (b == b2 && (c == c2 && d == d2)))) w := by
  rw [show (10000 : Nat) = 9999 + 1 from rfl, run_equalIn_struct w 9999 _ _ _ (by kernel_rfl) (by kernel_rfl), hfields]
  have m1 : ("Field" : String) ≠ "_" := by decide
  have m2 : ("S" : String) ≠ "_" := by decide
  have q1 := run_part_plain w hplainI (xs := #[.int .i64 f, .int .u64 a, .int .u64 b, .int .u64 c, .int .u64 d]) (off := 0) rfl
  have q2 := run_part_plain w hplainI (xs := #[.int .i64 f2, .int .u64 a2, .int .u64 b2, .int .u64 c2, .int .u64 d2]) (off := 0) rfl
  have q3 := hpart4 f a b c d w
  have q4 := hpart4 f2 a2 b2 c2 d2 w
  have q5 : (Op.equalIn 9999 3 (.int .i64 f) (.int .i64 f2)).run Tryd.prog w = .ok (f == f2) w := heq_int 9998 f f2 w
  have q6 : (Op.equalIn 9999 23 (.agg #[.int .u64 a, .int .u64 b, .int .u64 c, .int .u64 d]) (.agg #[.int .u64 a2, .int .u64 b2, .int .u64 c2, .int .u64 d2])).run Tryd.prog w = .ok (a == a2 && (b == b2 && (c == c2 && d == d2))) w := heq4 9997 a b c d a2 b2 c2 d2 w
  generalize (a == a2 && (b == b2 && (c == c2 && d == d2))) = g at *
  generalize (f == f2) = g0 at *
  simp only [Op.eqFields, m1, m2, ne_eq, not_false_eq_true, if_true, Sem.run_bind, q1, q2, q5, Result.andThen_ok]
  cases g0
  · simp [q5]
  · cases g <;> simp [q3, q4, q5, q6]
/-- Whether two states are the same. -/
def steB (x y : St) : Bool := ((x.a : Int) == (y.a : Int) && ((x.b : Int) == (y.b : Int) && ((x.c : Int) == (y.c : Int) && (x.d : Int) == (y.d : Int))))
theorem steB_iff (x y : St) : steB x y = true ↔ x = y := by
  obtain ⟨a, b, c, d⟩ := x
  obtain ⟨a', b', c', d'⟩ := y
  unfold steB
  simp only [Bool.and_eq_true, beq_iff_eq, St.mk.injEq]
  omega
theorem steB_refl (x : St) : steB x x = true := (steB_iff x x).2 rfl
theorem steB_of (x y x' y' : St) (h : x = y ↔ x' = y') : steB x y = steB x' y' := by
  rw [Bool.eq_iff_iff, steB_iff, steB_iff]; exact h
/-- Two channels of one field compared. -/
theorem heqC (f : Int) (s t : St) (w : World) : (Op.equalIn 10000 25 (.agg #[.int .i64 f, .int .u64 (s.a : Int), .int .u64 (s.b : Int), .int .u64 (s.c : Int), .int .u64 (s.d : Int)]) (.agg #[.int .i64 f, .int .u64 (t.a : Int), .int .u64 (t.b : Int), .int .u64 (t.c : Int), .int .u64 (t.d : Int)])).run Tryd.prog w = .ok (steB s t) w := by
  rw [heq5]; unfold steB; simp
end Go.Proofs.YtcbmeegmdgllkaaDoor
