/- The walk of the law SpongeKnown: it returns true. -/
import Derived.Test.YtbmieoedpgdlpaaDoorSlives
namespace Go.Proofs.YtbmieoedpgdlpaaDoor
open Go.RowKit
set_option linter.unusedVariables false

theorem kp1 (w : World) (hT : Tab w) : Calls Tryd.prog 17 #[.int .i64 0, .agg #[.int .u64 0, .int .u64 2, .int .u64 0, .int .u64 0]] w fun e w' => e = .returned (.agg #[.int .u64 22, .int .u64 69, .int .u64 88, .int .u64 87]) ∧ On w w' := by
  have h := perm_any 0 ⟨0, 2, 0, 0⟩ w hT ⟨by decide, by decide, by decide, by decide⟩
  have ea : (okS 0 (permS 0 ⟨0, 2, 0, 0⟩)).a = 22 := by decide +kernel
  have eb : (okS 0 (permS 0 ⟨0, 2, 0, 0⟩)).b = 69 := by decide +kernel
  have ec : (okS 0 (permS 0 ⟨0, 2, 0, 0⟩)).c = 88 := by decide +kernel
  have ed : (okS 0 (permS 0 ⟨0, 2, 0, 0⟩)).d = 87 := by decide +kernel
  rw [ea, eb, ec, ed] at h
  exact h
theorem kp2 (w : World) (hT : Tab w) : Calls Tryd.prog 17 #[.int .i64 0, .agg #[.int .u64 97, .int .u64 194, .int .u64 0, .int .u64 970]] w fun e w' => e = .returned (.agg #[.int .u64 19, .int .u64 58, .int .u64 95, .int .u64 16]) ∧ On w w' := by
  have h := perm_any 0 ⟨97, 194, 0, 970⟩ w hT ⟨by decide, by decide, by decide, by decide⟩
  have ea : (okS 0 (permS 0 ⟨97, 194, 0, 970⟩)).a = 19 := by decide +kernel
  have eb : (okS 0 (permS 0 ⟨97, 194, 0, 970⟩)).b = 58 := by decide +kernel
  have ec : (okS 0 (permS 0 ⟨97, 194, 0, 970⟩)).c = 95 := by decide +kernel
  have ed : (okS 0 (permS 0 ⟨97, 194, 0, 970⟩)).d = 16 := by decide +kernel
  rw [ea, eb, ec, ed] at h
  exact h
theorem kp3 (w : World) (hT : Tab w) : Calls Tryd.prog 17 #[.int .i64 4, .agg #[.int .u64 1, .int .u64 2, .int .u64 3, .int .u64 4]] w fun e w' => e = .returned (.agg #[.int .u64 0, .int .u64 0, .int .u64 0, .int .u64 0]) ∧ On w w' := by
  have h := perm_any 4 ⟨1, 2, 3, 4⟩ w hT ⟨by decide, by decide, by decide, by decide⟩
  rw [okS_no (by decide)] at h
  exact h
theorem ki2 (w : World) (hT : Tab w) (hU : TabU w) : Calls Tryd.prog 19 #[.int .i64 (-1), .agg #[.int .u64 1, .int .u64 2, .int .u64 3, .int .u64 4]] w fun e w' => e = .returned (.agg #[.int .u64 0, .int .u64 0, .int .u64 0, .int .u64 0]) ∧ On w w' := by
  have h := inverse_any (-1) ⟨1, 2, 3, 4⟩ w hT hU ⟨by decide, by decide, by decide, by decide⟩
  rw [okS_no (by decide)] at h
  exact h
/-- The inverse of the permutation of zeros. -/
theorem ki1 (w : World) (hT : Tab w) (hU : TabU w) : Calls Tryd.prog 19 #[.int .i64 0, .agg #[.int .u64 19, .int .u64 58, .int .u64 95, .int .u64 16]] w fun e w' => e = .returned (.agg #[.int .u64 0, .int .u64 0, .int .u64 0, .int .u64 0]) ∧ On w w' := by
  have h := inverse_any 0 ⟨19, 58, 95, 16⟩ w hT hU ⟨by decide, by decide, by decide, by decide⟩
  have hp : permS 0 ⟨0, 0, 0, 0⟩ = ⟨19, 58, 95, 16⟩ := by
    have ea : (permS 0 ⟨0, 0, 0, 0⟩).a = 19 := by decide +kernel
    have eb : (permS 0 ⟨0, 0, 0, 0⟩).b = 58 := by decide +kernel
    have ec : (permS 0 ⟨0, 0, 0, 0⟩).c = 95 := by decide +kernel
    have ed : (permS 0 ⟨0, 0, 0, 0⟩).d = 16 := by decide +kernel
    rw [← ea, ← eb, ← ec, ← ed]
  rw [okS_yes (by decide), ← hp, inv_perm 0 _ (by decide), hp] at h
  exact h
theorem kn1 (w : World) (hT : Tab w) : Calls Tryd.prog 23 #[.int .i64 0, .agg #[.int .u64 0, .int .u64 0], .agg #[.int .u64 0, .int .u64 0]] w fun e w' => e = .returned (.agg #[.int .u64 19, .int .u64 58]) ∧ On w w' := by
  have h := node_any 0 0 0 0 0 w hT (by decide) (by decide) (by decide) (by decide)
  have e0 : okN 0 (nodeA 0 0 0 0 0) = 19 := by decide +kernel
  have e1 : okN 0 (nodeB 0 0 0 0 0) = 58 := by decide +kernel
  rw [e0, e1] at h
  exact h
theorem kr1 (w : World) (hT : Tab w) : Calls Tryd.prog 14 #[.int .i64 0, .int .i64 8, .agg #[.int .u64 1, .int .u64 0, .int .u64 0, .int .u64 0]] w fun e w' => e = .returned (.agg #[.int .u64 0, .int .u64 0, .int .u64 0, .int .u64 0]) ∧ On w w' := by
  have h := round_any 0 8 ⟨1, 0, 0, 0⟩ w hT ⟨by decide, by decide, by decide, by decide⟩
  rw [okR_no (by decide)] at h
  exact h
theorem kc (f r j : Int) (n : Nat) (w : World) (hT : Tab w) (h : okC f r j = n) : Calls Tryd.prog 12 #[.int .i64 f, .int .i64 r, .int .i64 j] w fun e w' => e = .returned (.int .u64 (n : Int)) ∧ On w w' := by
  subst h; exact constant_any f r j w hT

set_option maxHeartbeats 4000000 in
set_option maxRecDepth 100000 in
theorem known_any (w : World) (hT : Tab w) (hU : TabU w) : Calls Tryd.prog 11 #[] w fun e w' => e = .returned (.bool true) ∧ On w w' := by
  have HU := Lib.hid hU
  have HO0 := Lib.hid (On.refl hT)
  have HC1 := Lib.hid (fun w hT => kc 0 0 1 32 w hT (by decide +kernel))
  have HC2 := Lib.hid (fun w hT => kc 0 0 2 35 w hT (by decide +kernel))
  have HC3 := Lib.hid (fun w hT => kc 0 0 3 50 w hT (by decide +kernel))
  have HC4 := Lib.hid (fun w hT => kc 1 0 0 10 w hT (by decide +kernel))
  have HC5 := Lib.hid (fun w hT => kc 2 0 1 128 w hT (by decide +kernel))
  have HC14 := Lib.hid (fun w hT => kc 0 0 4 0 w hT (by decide +kernel))
  clear hT hU
  have h4 := eq4
  have h2 := eq2
  go_enter Tryd.func11, Tryd.ntmps11
  go_wp2_with fail
  refine (HC1.out _ HO0.out.tab).mono ?_
  rintro e w1 ⟨rfl, hO⟩
  have HO1 := Lib.hid (HO0.out.trans hO)
  clear hO
  go_wp2_with fail
  refine (HC2.out _ HO1.out.tab).mono ?_
  rintro e w2 ⟨rfl, hO⟩
  have HO2 := Lib.hid (HO1.out.trans hO)
  clear hO
  go_wp2_with fail
  refine (HC3.out _ HO2.out.tab).mono ?_
  rintro e w3 ⟨rfl, hO⟩
  have HO3 := Lib.hid (HO2.out.trans hO)
  clear hO
  go_wp2_with fail
  refine (HC4.out _ HO3.out.tab).mono ?_
  rintro e w4 ⟨rfl, hO⟩
  have HO4 := Lib.hid (HO3.out.trans hO)
  clear hO
  go_wp2_with fail
  refine (HC5.out _ HO4.out.tab).mono ?_
  rintro e w5 ⟨rfl, hO⟩
  have HO5 := Lib.hid (HO4.out.trans hO)
  clear hO
  go_wp2_with fail
  refine (kp1 _ HO5.out.tab).mono ?_
  rintro e w6 ⟨rfl, hO⟩
  have HO6 := Lib.hid (HO5.out.trans hO)
  clear hO
  go_wp2_with fail
  refine (kp2 _ HO6.out.tab).mono ?_
  rintro e w7 ⟨rfl, hO⟩
  have HO7 := Lib.hid (HO6.out.trans hO)
  clear hO
  go_wp2_with fail
  refine (ki1 _ HO7.out.tab (HU.out.on HO7.out)).mono ?_
  rintro e w8 ⟨rfl, hO⟩
  have HO8 := Lib.hid (HO7.out.trans hO)
  clear hO
  go_wp2_with fail
  refine (kn1 _ HO8.out.tab).mono ?_
  rintro e w9 ⟨rfl, hO⟩
  have HO9 := Lib.hid (HO8.out.trans hO)
  clear hO
  go_wp2_with fail
  refine (kp3 _ HO9.out.tab).mono ?_
  rintro e w10 ⟨rfl, hO⟩
  have HO10 := Lib.hid (HO9.out.trans hO)
  clear hO
  go_wp2_with fail
  refine (ki2 _ HO10.out.tab (HU.out.on HO10.out)).mono ?_
  rintro e w11 ⟨rfl, hO⟩
  have HO11 := Lib.hid (HO10.out.trans hO)
  clear hO
  go_wp2_with fail
  have hoa := On.alloc HO11.out (.cells #[.int .u64 1] 22)
  refine (hash_no 4 _ 1 1 _ hoa.tab (by decide)).mono ?_
  rintro e w12 ⟨rfl, hO⟩
  have HO12 := Lib.hid (hoa.trans hO)
  clear hO hoa
  go_wp2_with fail
  refine (kr1 _ HO12.out.tab).mono ?_
  rintro e w13 ⟨rfl, hO⟩
  have HO13 := Lib.hid (HO12.out.trans hO)
  clear hO
  go_wp2_with fail
  refine (HC14.out _ HO13.out.tab).mono ?_
  rintro e w14 ⟨rfl, hO⟩
  have HO14 := Lib.hid (HO13.out.trans hO)
  clear hO
  go_wp2_with fail
  refine (lives_any _ HO14.out.tab).mono ?_
  rintro e w15 ⟨rfl, hO⟩
  have HO15 := Lib.hid (HO14.out.trans hO)
  clear hO
  go_wp2
  go_ret
  exact ⟨rfl, HO15.out⟩
end Go.Proofs.YtbmieoedpgdlpaaDoor
