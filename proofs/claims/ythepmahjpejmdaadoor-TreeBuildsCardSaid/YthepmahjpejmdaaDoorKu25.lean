/- The laws' own calls: lives, reduced, within: what each returns. -/
import Derived.Test.YthepmahjpejmdaaDoorKu18
import Derived.Test.YthepmahjpejmdaaDoorKu24
import Derived.Test.YthepmahjpejmdaaDoorKu04
import Derived.Deep.RegionHeld3
import Derived.ChangeKeysEq
import Derived.Test.YthepmahjpejmdaaDoorKu23
set_option linter.unusedSimpArgs false
set_option linter.unusedVariables false
/- The laws' own calls: lives, reduced, within: what each returns. -/
namespace Go.Proofs.YthepmahjpejmdaaDoor
open Go.RowKit
set_option linter.unusedVariables false

theorem eq4 (a b c d a' b' c' d' : Int) (w : World) : (Op.equalIn 10000 67 (.agg #[.int .u64 a, .int .u64 b, .int .u64 c, .int .u64 d]) (.agg #[.int .u64 a', .int .u64 b', .int .u64 c', .int .u64 d'])).run Tryd.prog w = .ok (a == a' && (b == b' && (c == c' && d == d'))) w := by
  obtain ⟨i, hi⟩ : ∃ i, Tryd.prog.info? 34 = some i := Option.isSome_iff_exists.1 (by kernel_rfl)
  rw [show (10000 : Nat) = 9999 + 1 from rfl, run_equalIn_array w 9999 _ _ Tryd.underlying67 hi, cellsU]
  rw [show List.range 4 = [0, 1, 2, 3] from rfl, show (9999 : Nat) = 9998 + 1 from rfl]
  rw [items_step 9998 0 _ a a' _ _ w rfl rfl, items_step 9998 1 _ b b' _ _ w rfl rfl, items_step 9998 2 _ c c' _ _ w rfl rfl, items_step 9998 3 _ d d' _ _ w rfl rfl]
  cases (a == a') <;> cases (b == b') <;> cases (c == c') <;> cases (d == d') <;> simp [Op.eqItems]
end Go.Proofs.YthepmahjpejmdaaDoor

/- The laws' own calls reduced and within: what each returns. -/
namespace Go.Proofs.YthepmahjpejmdaaDoor
open Go.RowKit
set_option linter.unusedVariables false

theorem fl4_mod (f : Int) (s : St) : fl4 (fun i => if i < 4 then ix s i % pOf f else ix s i) = fl4 (ix (modS f s)) := by
  refine fl4_ext fun i hi => ?_
  rw [if_pos hi]
  rcases lt4 hi with rfl | rfl | rfl | rfl <;> rfl
end Go.Proofs.YthepmahjpejmdaaDoor

/- The document's own Constant and the numbers that it takes: what each call returns. -/
namespace Go.Proofs.YthepmahjpejmdaaDoor
open Go.RowKit
set_option linter.unusedVariables false

theorem rexp_no (f : Int) (w : World) (h : validB f = false) : Calls Tryd.prog 57 #[.int .i64 f] w fun e w' => e = .returned (.int .i64 0) ∧ w = w' := by
  have h4 : ¬ (0 ≤ f ∧ f ≤ 3) := by unfold validB at h; simpa using h
  have t0 : (f == 0) = false := by simp; omega
  have t1 : (f == 1) = false := by simp; omega
  have t2 : (f == 2) = false := by simp; omega
  have t3 : (f == 3) = false := by simp; omega
  clear h h4
  go_enter Tryd.func57, Tryd.ntmps57
  go_wp2
  go_ret
  exact ⟨rfl, rfl⟩
theorem rexp_any (f : Int) (w : World) : Calls Tryd.prog 57 #[.int .i64 f] w fun e w' => e = .returned (.int .i64 ((expOf f : Nat) : Int)) ∧ w = w' := by
  cases hv : validB f
  · have hz : expOf f = 0 := by
      have h4 : ¬ (0 ≤ f ∧ f ≤ 3) := by unfold validB at hv; simpa using hv
      unfold expOf; (repeat' split) <;> omega
    rw [hz]; exact rexp_no f w hv
  · rcases field_cases f hv with rfl | rfl | rfl | rfl
    all_goals
      go_enter Tryd.func57, Tryd.ntmps57
      go_wp2
      go_ret
      exact ⟨rfl, rfl⟩


theorem Drawn.on2 {w w' : World} (hT : Tab w) (h : Drawn w w') : On w w' := h.on (On.refl hT)
theorem rconst_no (f r j : Int) (w : World) (h : ¬ (validB f = true ∧ (0 ≤ r ∧ r < 8) ∧ 0 ≤ j ∧ j < 4)) :
    Calls Tryd.prog 55 #[.int .i64 f, .int .i64 r, .int .i64 j] w fun e w' => e = .returned (.int .u64 0) ∧ w = w' := by
  cases hv : validB f
  · have HV := Lib.hid hv; clear hv h
    go_enter Tryd.func55, Tryd.ntmps55
    go_wp2_with (go_at_call 28; refine (rvalid_any _ _).mono ?_; rintro e w' ⟨rfl, rfl⟩; rw [HV.out])
    go_ret
    exact ⟨rfl, rfl⟩
  · have HV := Lib.hid hv
    have h2 : (r < 0) ∨ (¬ r < 0 ∧ 7 < r) ∨ (¬ r < 0 ∧ ¬ 7 < r ∧ j < 0) ∨ (¬ r < 0 ∧ ¬ 7 < r ∧ ¬ j < 0 ∧ 3 < j) := by
      by_cases a : r < 0
      · exact .inl a
      by_cases b : 7 < r
      · exact .inr (.inl ⟨a, b⟩)
      by_cases c : j < 0
      · exact .inr (.inr (.inl ⟨a, b, c⟩))
      · refine .inr (.inr (.inr ⟨a, b, c, ?_⟩))
        by_cases d : 3 < j
        · exact d
        · exact absurd ⟨hv, by omega, by omega, by omega⟩ h
    clear hv h
    rcases h2 with h2 | ⟨h2, h3⟩ | ⟨h2, h3, h4⟩ | ⟨h2, h3, h4, h5⟩
    all_goals
      go_enter Tryd.func55, Tryd.ntmps55
      go_wp2_with (go_at_call 28; refine (rvalid_any _ _).mono ?_; rintro e w' ⟨rfl, rfl⟩; rw [HV.out])
      go_ret
      exact ⟨rfl, rfl⟩
theorem rconst_yes (f : Int) (r j : Nat) (w : World) (hv : validB f = true) (hr : r < 8) (hj : j < 4) :
    Calls Tryd.prog 55 #[.int .i64 f, .int .i64 (r : Int), .int .i64 (j : Int)] w fun e w' => e = .returned (.int .u64 ((cstF f r j : Nat) : Int)) ∧ Drawn w w' := by
  have HV := Lib.hid hv
  have l1 : ¬ (r : Int) < 0 := by omega
  have l2 : ¬ 7 < (r : Int) := by omega
  have l3 : ¬ (j : Int) < 0 := by omega
  have l4 : ¬ 3 < (j : Int) := by omega
  have hg := gOf_le f
  have hpw := powF_le f (gOf f) (4 * r + j + 1)
  obtain ⟨m, hm⟩ : ∃ m, m = 4 * r + j + 1 := ⟨_, rfl⟩
  rw [← hm] at hpw
  have hml : m ≤ 32 := by omega
  have hm1 : 4 * (r : Int) + (j : Int) + 1 = (m : Int) := by omega
  have HC : Hid (addF f (powF f (gOf f) m) 7 = cstF f r j) := by rw [hm]; rfl
  have HP := Lib.hid (fun w => rpow_all f (gOf f) m w (by omega) (by omega))
  have HA := Lib.hid (fun w => radd_any f (powF f (gOf f) m) 7 w (by omega) (by omega))
  rw [HC.out] at HA
  have hm0 : (0 : Int) ≤ 4 * (r : Int) := by omega
  have HM := Lib.hid hm1
  clear hv hm hm1
  go_enter Tryd.func55, Tryd.ntmps55
  go_wp2_with (first | (go_at_call 28; refine (rvalid_any _ _).mono ?_; rintro e w' ⟨rfl, rfl⟩; rw [HV.out]) | (go_at_call 64; refine (rgen_any _ _).mono ?_; rintro e w' ⟨rfl, rfl⟩))
  rw [HM.out]
  with_reducible refine (HP.out _).mono ?_
  rintro e w1 ⟨rfl, hD1⟩
  go_wp2_with fail
  refine (HA.out _).mono ?_
  rintro e w2 ⟨rfl, hD2⟩
  go_wp2
  go_ret
  exact ⟨rfl, hD1.trans hD2⟩
end Go.Proofs.YthepmahjpejmdaaDoor
