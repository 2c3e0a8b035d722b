/- The laws' own calls: lives, reduced, within: what each returns. -/
import Derived.Test.YtcbmeegmdgllkaaDoorShashb
import Derived.Test.YtcbmeegmdgllkaaDoorPrefB
import Derived.Deep.RegionHeld3
import Derived.ChangeKeysEq
namespace Go.Proofs.YtcbmeegmdgllkaaDoor
open Go.RowKit
set_option linter.unusedVariables false

theorem cellsU : Tryd.prog.cellsOf 22 = 1 := by kernel_rfl
theorem eq_num (d : Nat) (a b : Int) (w : World) : (Op.equalIn (d + 1) 22 (.int .u64 a) (.int .u64 b)).run Tryd.prog w = .ok (a == b) w := by
  simp [Op.equalIn, Sem.run_bind, run_underlying Tryd.underlying22]
theorem plainU : Tryd.prog.plainKey 22 = true := by kernel_rfl
theorem items_step (d i : Nat) (is : List Nat) (a b : Int) (xs ys : Array Value) (w : World) (hx : xs[i * 1]? = some (.int .u64 a)) (hy : ys[i * 1]? = some (.int .u64 b)) :
    (Op.eqItems (d + 1) 22 1 xs ys (i :: is)).run Tryd.prog w = if (a == b) = true then (Op.eqItems (d + 1) 22 1 xs ys is).run Tryd.prog w else .ok false w := by
  simp only [Op.eqItems, Sem.run_bind, run_part_plain w plainU hx, run_part_plain w plainU hy, Result.andThen_ok, eq_num]
  cases (a == b) <;> simp
theorem eq4 (a b c d a' b' c' d' : Int) (w : World) : (Op.equalIn 10000 23 (.agg #[.int .u64 a, .int .u64 b, .int .u64 c, .int .u64 d]) (.agg #[.int .u64 a', .int .u64 b', .int .u64 c', .int .u64 d'])).run Tryd.prog w = .ok (a == a' && (b == b' && (c == c' && d == d'))) w := by
  obtain ⟨i, hi⟩ : ∃ i, Tryd.prog.info? 22 = some i := Option.isSome_iff_exists.1 (by kernel_rfl)
  rw [show (10000 : Nat) = 9999 + 1 from rfl, run_equalIn_array w 9999 _ _ Tryd.underlying23 hi, cellsU]
  rw [show List.range 4 = [0, 1, 2, 3] from rfl, show (9999 : Nat) = 9998 + 1 from rfl]
  rw [items_step 9998 0 _ a a' _ _ w rfl rfl, items_step 9998 1 _ b b' _ _ w rfl rfl, items_step 9998 2 _ c c' _ _ w rfl rfl, items_step 9998 3 _ d d' _ _ w rfl rfl]
  cases (a == a') <;> cases (b == b') <;> cases (c == c') <;> cases (d == d') <;> simp [Op.eqItems]
theorem eq2 (a b a' b' : Int) (w : World) : (Op.equalIn 10000 48 (.agg #[.int .u64 a, .int .u64 b]) (.agg #[.int .u64 a', .int .u64 b'])).run Tryd.prog w = .ok (a == a' && b == b') w := by
  obtain ⟨i, hi⟩ : ∃ i, Tryd.prog.info? 22 = some i := Option.isSome_iff_exists.1 (by kernel_rfl)
  rw [show (10000 : Nat) = 9999 + 1 from rfl, run_equalIn_array w 9999 _ _ Tryd.underlying48 hi, cellsU]
  rw [show List.range 2 = [0, 1] from rfl, show (9999 : Nat) = 9998 + 1 from rfl]
  rw [items_step 9998 0 _ a a' _ _ w rfl rfl, items_step 9998 1 _ b b' _ _ w rfl rfl]
  cases (a == a') <;> cases (b == b') <;> simp [Op.eqItems]
theorem k_perm (w : World) (hT : Tab w) : Calls Tryd.prog 37 #[.int .i64 0, .agg #[.int .u64 0, .int .u64 0, .int .u64 0, .int .u64 0]] w fun e w' => e = .returned (.agg #[.int .u64 19, .int .u64 58, .int .u64 95, .int .u64 16]) ∧ On w w' := by
  have h := perm_any 0 ⟨0, 0, 0, 0⟩ w hT ⟨by decide, by decide, by decide, by decide⟩
  have e0 : (okS 0 (permS 0 ⟨0, 0, 0, 0⟩)).a = 19 := by decide +kernel
  have e1 : (okS 0 (permS 0 ⟨0, 0, 0, 0⟩)).b = 58 := by decide +kernel
  have e2 : (okS 0 (permS 0 ⟨0, 0, 0, 0⟩)).c = 95 := by decide +kernel
  have e3 : (okS 0 (permS 0 ⟨0, 0, 0, 0⟩)).d = 16 := by decide +kernel
  rw [e0, e1, e2, e3] at h
  exact h
end Go.Proofs.YtcbmeegmdgllkaaDoor
