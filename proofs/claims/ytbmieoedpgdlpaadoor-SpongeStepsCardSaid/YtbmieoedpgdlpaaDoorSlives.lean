/- The laws' own calls: lives, reduced, within: what each returns. -/
import Derived.Test.YtbmieoedpgdlpaaDoorShashb
import Derived.Test.YtbmieoedpgdlpaaDoorPrefB
import Derived.Deep.RegionHeld3
import Derived.ChangeKeysEq
namespace Go.Proofs.YtbmieoedpgdlpaaDoor
open Go.RowKit
set_option linter.unusedVariables false

theorem cellsU : Tryd.prog.cellsOf 22 = 1 := by kernel_rfl
theorem eq_num (d : Nat) (a b : Int) (w : World) : (Op.equalIn (d + 1) 22 (.int .u64 a) (.int .u64 b)).run Tryd.prog w = .ok (a == b) w := by
  simp [Op.equalIn, Sem.run_bind, run_underlying Tryd.underlying22]
theorem plainU : Tryd.prog.plainKey 22 = true := by kernel_rfl
theorem items_step (d i : Nat) (is : List Nat) (a b : Int) (xs ys : Array Value) (w : World) (hx : xs[i * 1]? = some (.int .u64 a)) (hy : ys[i * 1]? = some (.int .u64 b)) :
    (Op.eqItems (d + 1) 22 1 xs ys (i :: is)).run Tryd.prog w = if (a == b) = true then (Op.eqItems (d + 1) 22 1 xs ys is).run Tryd.prog w else .ok false w := by
  simp only [Op.eqItems, Sem.run_bind, run_part_plain w plainU hx, run_part_plain w plainU hy, Result.andThen_ok, eq_num]
  cases (a == b) <;> simp
theorem eq4 (a b c d a' b' c' d' : Int) (w : World) : (Op.equalIn 10000 23 (.agg #[.int .u64 a, .int .u64 b, .int .u64 c, .int .u64 d]) (.agg #[.int .u64 a', .int .u64 b', .int .u64 c', .int .u64 d'])).run Tryd.prog w = .ok (a == a' && (b == b' && (c == c' && d == d'))) w := by
  obtain ⟨i, hi⟩ : ∃ i, Tryd.prog.info? 22 = some i := Option.isSome_iff_exists.1 (by kernel_rfl)
  rw [show (10000 : Nat) = 9999 + 1 from rfl, run_equalIn_array w 9999 _ _ Tryd.underlying23 hi, cellsU]
  rw [show List.range 4 = [0, 1, 2, 3] from rfl, show (9999 : Nat) = 9998 + 1 from rfl]
  rw [items_step 9998 0 _ a a' _ _ w rfl rfl, items_step 9998 1 _ b b' _ _ w rfl rfl, items_step 9998 2 _ c c' _ _ w rfl rfl, items_step 9998 3 _ d d' _ _ w rfl rfl]
  cases (a == a') <;> cases (b == b') <;> cases (c == c') <;> cases (d == d') <;> simp [Op.eqItems]
theorem eq2 (a b a' b' : Int) (w : World) : (Op.equalIn 10000 32 (.agg #[.int .u64 a, .int .u64 b]) (.agg #[.int .u64 a', .int .u64 b'])).run Tryd.prog w = .ok (a == a' && b == b') w := by
  obtain ⟨i, hi⟩ : ∃ i, Tryd.prog.info? 22 = some i := Option.isSome_iff_exists.1 (by kernel_rfl)
  rw [show (10000 : Nat) = 9999 + 1 from rfl, run_equalIn_array w 9999 _ _ Tryd.underlying32 hi, cellsU]
  rw [show List.range 2 = [0, 1] from rfl, show (9999 : Nat) = 9998 + 1 from rfl]
  rw [items_step 9998 0 _ a a' _ _ w rfl rfl, items_step 9998 1 _ b b' _ _ w rfl rfl]
  cases (a == a') <;> cases (b == b') <;> simp [Op.eqItems]
theorem k_const (r j : Int) (n : Nat) (w : World) (hT : Tab w) (h : okC 0 r j = n) : Calls Tryd.prog 12 #[.int .i64 0, .int .i64 r, .int .i64 j] w fun e w' => e = .returned (.int .u64 (n : Int)) ∧ On w w' := by
  subst h; exact constant_any 0 r j w hT
theorem k_round (w : World) (hT : Tab w) : Calls Tryd.prog 14 #[.int .i64 0, .int .i64 0, .agg #[.int .u64 0, .int .u64 0, .int .u64 0, .int .u64 0]] w fun e w' => e = .returned (.agg #[.int .u64 59, .int .u64 59, .int .u64 94, .int .u64 40]) ∧ On w w' := by
  have h := round_any 0 0 ⟨0, 0, 0, 0⟩ w hT ⟨by decide, by decide, by decide, by decide⟩
  have e0 : (okR 0 0 ⟨0, 0, 0, 0⟩).a = 59 := by decide +kernel
  have e1 : (okR 0 0 ⟨0, 0, 0, 0⟩).b = 59 := by decide +kernel
  have e2 : (okR 0 0 ⟨0, 0, 0, 0⟩).c = 94 := by decide +kernel
  have e3 : (okR 0 0 ⟨0, 0, 0, 0⟩).d = 40 := by decide +kernel
  rw [e0, e1, e2, e3] at h
  exact h
theorem k_perm (w : World) (hT : Tab w) : Calls Tryd.prog 17 #[.int .i64 0, .agg #[.int .u64 0, .int .u64 0, .int .u64 0, .int .u64 0]] w fun e w' => e = .returned (.agg #[.int .u64 19, .int .u64 58, .int .u64 95, .int .u64 16]) ∧ On w w' := by
  have h := perm_any 0 ⟨0, 0, 0, 0⟩ w hT ⟨by decide, by decide, by decide, by decide⟩
  have e0 : (okS 0 (permS 0 ⟨0, 0, 0, 0⟩)).a = 19 := by decide +kernel
  have e1 : (okS 0 (permS 0 ⟨0, 0, 0, 0⟩)).b = 58 := by decide +kernel
  have e2 : (okS 0 (permS 0 ⟨0, 0, 0, 0⟩)).c = 95 := by decide +kernel
  have e3 : (okS 0 (permS 0 ⟨0, 0, 0, 0⟩)).d = 16 := by decide +kernel
  rw [e0, e1, e2, e3] at h
  exact h
theorem k_hash (w : World) (hT : Tab w) : Calls Tryd.prog 21 #[.int .i64 0, .slice none 0 0] w fun e w' => e = .returned (.agg #[.int .u64 19, .int .u64 58]) ∧ On w w' := by
  have h := hash_any 0 [] none 0 w hT (Reads.nil _ _ _) (by simp) (by omega) (by simp)
  have e0 : okN 0 (hashS 0 []).a = 19 := by decide +kernel
  have e1 : okN 0 (hashS 0 []).b = 58 := by decide +kernel
  rw [e0, e1] at h
  exact h
set_option maxHeartbeats 1000000 in
theorem lives_any (w : World) (hT : Tab w) : Calls Tryd.prog 16 #[] w fun e w' => e = .returned (.bool true) ∧ On w w' := by
  have HT := Lib.hid hT
  have HC1 := Lib.hid (fun w hT => k_const 0 0 12 w hT (by decide +kernel))
  have HC2 := Lib.hid (fun w hT => k_const 7 3 42 w hT (by decide +kernel))
  clear hT
  have h4 := eq4
  have h2 := eq2
  go_enter Tryd.func16, Tryd.ntmps16
  go_wp2_with fail
  refine (HC1.out _ HT.out).mono ?_
  rintro e w1 ⟨rfl, hO1⟩
  have HO1 := Lib.hid hO1
  clear hO1
  go_wp2_with fail
  refine (HC2.out _ HO1.out.tab).mono ?_
  rintro e w2 ⟨rfl, hO2⟩
  have HO2 := Lib.hid (HO1.out.trans hO2)
  clear hO2
  go_wp2_with fail
  refine (k_round _ HO2.out.tab).mono ?_
  rintro e w3 ⟨rfl, hO3⟩
  have HO3 := Lib.hid (HO2.out.trans hO3)
  clear hO3
  go_wp2_with fail
  refine (k_perm _ HO3.out.tab).mono ?_
  rintro e w4 ⟨rfl, hO4⟩
  have HO4 := Lib.hid (HO3.out.trans hO4)
  clear hO4
  go_wp2_with fail
  refine (k_hash _ HO4.out.tab).mono ?_
  rintro e w5 ⟨rfl, hO5⟩
  have HO5 := Lib.hid (HO4.out.trans hO5)
  clear hO5
  go_wp2
  go_ret
  exact ⟨rfl, HO5.out⟩
end Go.Proofs.YtbmieoedpgdlpaaDoor
