/- The document's systems: Valid: what the call returns. -/
import Derived.Test.YtnanjacllmdenaaDoorKe17
import Derived.Test.YtnanjacllmdenaaDoorKe04
set_option linter.unusedSimpArgs false
set_option linter.unusedVariables false
/- The document's systems: Valid: what the call returns. -/
namespace Go.Proofs.YtnanjacllmdenaaDoor
open Go.RowKit
set_option linter.unusedVariables false

set_option maxHeartbeats 8000000 in
set_option maxRecDepth 100000 in
theorem rvalid13_yes (S : Sy) (a1 a2 a3 a4 : Option Addr) (k1 k2 k3 k4 : Nat) (w : World) (hT : Tab w) (hs : szS S = true) (hR : SyR w ⟨a1, a2, a3, a4, k1, k2, k3, k4⟩ S) :
    Calls Tryd.prog 55 #[syA S ⟨a1, a2, a3, a4, k1, k2, k3, k4⟩] w fun e w' => e = .returned (.bool (loopsB S)) ∧ On w w' := by
  obtain ⟨W0, hW0⟩ : ∃ W0, W0 = w.alloc (syO S ⟨a1, a2, a3, a4, k1, k2, k3, k4⟩) := ⟨_, rfl⟩
  have hO0 : On w W0 := by rw [hW0]; exact (On.refl hT).alloc _
  obtain ⟨Q, hQ⟩ : ∃ Q, Q = w.heap.size := ⟨_, rfl⟩
  have HB0 : Hid (VB Q W0 (syL S ⟨a1, a2, a3, a4, k1, k2, k3, k4⟩)) := by rw [hW0, hQ]; exact Lib.hid (vb_newS S _ w)
  have HSY0 : Hid (∀ wq, On W0 wq → wq.cell? ⟨Q, 0, none⟩ = some (.int .i64 S.f) ∧ wq.cell? ⟨Q, 1, none⟩ = some (.int .i64 S.rows) ∧ wq.cell? ⟨Q, 2, none⟩ = some (.int .i64 S.main) ∧ wq.cell? ⟨Q, 3, none⟩ = some (.int .i64 S.pub) ∧ wq.cell? ⟨Q, 4, none⟩ = some (.slice a1 S.fixed.length k1) ∧ wq.cell? ⟨Q, 5, none⟩ = some (.slice a2 S.rules.length k2) ∧ wq.cell? ⟨Q, 6, none⟩ = some (.slice a3 S.perms.length k3) ∧ wq.cell? ⟨Q, 7, none⟩ = some (.slice a4 S.looks.length k4)) := fun wq h => sy_cells (HB0.out.on h)
  have HR := Lib.hid (hR.on hO0)
  have HOK : Hid (On W0 W0) := On.refl hO0.tab
  have HW0 := Lib.hid hW0; have HO0 := Lib.hid hO0; have HQ := Lib.hid hQ
  have HVF : Hid (∀ wq, On W0 wq → Calls Tryd.prog 69 #[.int .i64 S.f] wq fun e w' => e = .returned (.bool true) ∧ On W0 w') := fun wq h => by
    have h1 := rvalid_any S.f wq
    rw [(szS_facts hs).1] at h1
    exact h1.mono fun e w' ⟨he, ho⟩ => ⟨he, ho ▸ h⟩
  have HTW : Hid (∀ wq, On W0 wq → Calls Tryd.prog 110 #[.int .i64 S.f] wq fun e w' => e = .returned (.int .i64 ((twoOf S.f : Nat) : Int)) ∧ On W0 w') := fun wq h => (rtwos_any S.f wq).mono fun e w' ⟨he, ho⟩ => ⟨he, ho ▸ h⟩
  obtain ⟨hvf, f1, f2, f3, f4, f5, f6, f7, f8, f9, fa, fb⟩ := szS_facts hs
  have HG1 : Hid (decide (S.rows < 1) = false) := Lib.hid (decide_eq_false (by omega))
  have HG2 : Hid (decide (13 < S.rows) = false) := Lib.hid (decide_eq_false (by omega))
  have HG3 : Hid (decide ((twoOf S.f : Int) < S.rows) = false) := Lib.hid (decide_eq_false (by omega))
  have HG4 : Hid (decide (S.main < 1) = false) := Lib.hid (decide_eq_false (by omega))
  have HG5 : Hid (decide (64 < S.main) = false) := Lib.hid (decide_eq_false (by omega))
  have HG6 : Hid (decide (S.pub < 0) = false) := Lib.hid (decide_eq_false (by omega))
  have HG7 : Hid (decide (16 < S.pub) = false) := Lib.hid (decide_eq_false (by omega))
  have HG8 : Hid (decide ((64 : Int) < ((S.fixed.length : Nat) : Int)) = false) := Lib.hid (decide_eq_false (by omega))
  have HG9 : Hid (decide ((64 : Int) < ((S.rules.length : Nat) : Int)) = false) := Lib.hid (decide_eq_false (by omega))
  have HGa : Hid (decide ((4 : Int) < ((S.perms.length : Nat) : Int)) = false) := Lib.hid (decide_eq_false (by omega))
  have HGb : Hid (decide ((8 : Int) < ((S.looks.length : Nat) : Int)) = false) := Lib.hid (decide_eq_false (by omega))
  have hrowN : rowN S ≤ 8192 := (rowN_le hs).2
  obtain ⟨q, hq⟩ : ∃ q, q = rowN S := ⟨_, rfl⟩
  rw [← hq] at hrowN
  have HSZ0 : Hid (∀ a1 wq, On W0 wq → Calls Tryd.prog 45 #[syA S ⟨a1, a2, a3, a4, k1, k2, k3, k4⟩] wq fun e w' => e = .returned (.int .i64 (q : Int)) ∧ On wq w') := fun a1 wq h => by rw [hq]; exact rsize_any S _ wq h.tab (by omega) f2
  have HCB : Hid (∀ c, colB S c = (decide (c.length = q) && c.all fun x => decide (x < pOf S.f))) := fun c => by unfold colB isF; rw [hvf, ← hq]; simp
  have HNO1 : Hid (∀ j, j < S.fixed.length → colB S (S.fixed.getD j []) = false → S.fixed.all (colB S) = false) := fun j hj h => all_no _ [] S.fixed j hj h
  have HYES1 : Hid ((∀ j, j < S.fixed.length → colB S (S.fixed.getD j []) = true) → S.fixed.all (colB S) = true) := fun h => (all_getD _ [] S.fixed).2 h
  have HNO2 : Hid (∀ j, j < S.rules.length → ruB S (S.rules.getD j zRu) = false → S.rules.all (ruB S) = false) := fun j hj h => all_no _ zRu S.rules j hj h
  have HYES2 : Hid ((∀ j, j < S.rules.length → ruB S (S.rules.getD j zRu) = true) → S.rules.all (ruB S) = true) := fun h => (all_getD _ zRu S.rules).2 h
  have HNO3 : Hid (∀ j, j < S.perms.length → pmB S (S.perms.getD j zPm) = false → S.perms.all (pmB S) = false) := fun j hj h => all_no _ zPm S.perms j hj h
  have HYES3 : Hid ((∀ j, j < S.perms.length → pmB S (S.perms.getD j zPm) = true) → S.perms.all (pmB S) = true) := fun h => (all_getD _ zPm S.perms).2 h
  have HNO4 : Hid (∀ j, j < S.looks.length → lkB S (S.looks.getD j zLk) = false → S.looks.all (lkB S) = false) := fun j hj h => all_no _ zLk S.looks j hj h
  have HYES4 : Hid ((∀ j, j < S.looks.length → lkB S (S.looks.getD j zLk) = true) → S.looks.all (lkB S) = true) := fun h => (all_getD _ zLk S.looks).2 h
  have E : loopsB S = (S.fixed.all (colB S) && (S.rules.all (ruB S) && (S.perms.all (pmB S) && S.looks.all (lkB S)))) := rfl
  rw [E]
  generalize S.fixed.all (colB S) = A1 at *
  generalize S.rules.all (ruB S) = A2 at *
  generalize S.perms.all (pmB S) = A3 at *
  generalize S.looks.all (lkB S) = A4 at *
  clear hT hs hR hW0 hO0 hQ E hq hvf f1 f2 f3 f4 f5 f6 f7
  have HSY := HSY0
  go_enter Tryd.func55, Tryd.ntmps55
  go_upto_region 1 with fail
  rw [← HW0.out, ← HQ.out]
  refine region_keep_tail (fun wq => On W0 wq) 41 (by kernel_rfl) (by kernel_rfl) (On.refl HOK.out.tab).drew ?_
  simp only [List.take_succ_cons, List.take_zero, List.drop_succ_cons, List.drop_zero]
  refine quiet_start fun L9 hL9 => ?_
  refine quiet_take (v := ?y8v0) hL9 (by kernel_rfl) (fun wq hwq => ?y8y0) (fun L9 hL9 => ?y8r0)
  case y8y0 => (go_simp; try with_reducible rfl)
  try simp only [Act.put, List.setIfInBounds_toArray, List.set_cons_zero, List.set_cons_succ]
  refine quiet_take (v := .int .i64 S.f) hL9 (by kernel_rfl) (fun wq hwq => ?y8y1) (fun L9 hL9 => ?y8r1)
  case y8y1 => (obtain ⟨s0, s1, s2, s3, s4, s5, s6, s7⟩ := HSY.out wq hwq; go_simp; try with_reducible rfl)
  try simp only [Act.put, List.setIfInBounds_toArray, List.set_cons_zero, List.set_cons_succ]
  refine quiet_take (v := .bool true) hL9 (by kernel_rfl) (fun wq hwq => ?y8y2) (fun L9 hL9 => ?y8r2)
  case y8y2 => (go_simp; go_at_call 69; exact HVF.out wq hwq)
  try simp only [Act.put, List.setIfInBounds_toArray, List.set_cons_zero, List.set_cons_succ]
  refine quiet_take (v := .bool false) hL9 (by kernel_rfl) (fun wq hwq => ?y8y3) (fun L9 hL9 => ?y8r3)
  case y8y3 => (go_simp; try with_reducible rfl)
  try simp only [Act.put, List.setIfInBounds_toArray, List.set_cons_zero, List.set_cons_succ]
  refine quiet_take (v := .bool false) hL9 (by kernel_rfl) (fun wq hwq => ?y8y4) (fun L9 hL9 => ?y8r4)
  case y8y4 => (go_simp; try with_reducible rfl)
  try simp only [Act.put, List.setIfInBounds_toArray, List.set_cons_zero, List.set_cons_succ]
  refine quiet_take (v := ?y8v5) hL9 (by kernel_rfl) (fun wq hwq => ?y8y5) (fun L9 hL9 => ?y8r5)
  case y8y5 => (go_simp; try with_reducible rfl)
  try simp only [Act.put, List.setIfInBounds_toArray, List.set_cons_zero, List.set_cons_succ]
  refine quiet_take (v := .int .i64 S.rows) hL9 (by kernel_rfl) (fun wq hwq => ?y8y6) (fun L9 hL9 => ?y8r6)
  case y8y6 => (obtain ⟨s0, s1, s2, s3, s4, s5, s6, s7⟩ := HSY.out wq hwq; go_simp; try with_reducible rfl)
  try simp only [Act.put, List.setIfInBounds_toArray, List.set_cons_zero, List.set_cons_succ]
  refine quiet_take (v := .bool false) hL9 (by kernel_rfl) (fun wq hwq => ?y8y7) (fun L9 hL9 => ?y8r7)
  case y8y7 => (have h1 := HG1.out; go_simp; try (first | with_reducible rfl | exact h1 | (simpa using h1)))
  try simp only [Act.put, List.setIfInBounds_toArray, List.set_cons_zero, List.set_cons_succ]
  refine quiet_take (v := .bool false) hL9 (by kernel_rfl) (fun wq hwq => ?y8y8) (fun L9 hL9 => ?y8r8)
  case y8y8 => (go_simp; try with_reducible rfl)
  try simp only [Act.put, List.setIfInBounds_toArray, List.set_cons_zero, List.set_cons_succ]
  refine quiet_take (v := .bool false) hL9 (by kernel_rfl) (fun wq hwq => ?y8y9) (fun L9 hL9 => ?y8r9)
  case y8y9 => (go_simp; try with_reducible rfl)
  try simp only [Act.put, List.setIfInBounds_toArray, List.set_cons_zero, List.set_cons_succ]
  refine quiet_take (v := ?y8v10) hL9 (by kernel_rfl) (fun wq hwq => ?y8y10) (fun L9 hL9 => ?y8r10)
  case y8y10 => (go_simp; try with_reducible rfl)
  try simp only [Act.put, List.setIfInBounds_toArray, List.set_cons_zero, List.set_cons_succ]
  refine quiet_take (v := .int .i64 S.rows) hL9 (by kernel_rfl) (fun wq hwq => ?y8y11) (fun L9 hL9 => ?y8r11)
  case y8y11 => (obtain ⟨s0, s1, s2, s3, s4, s5, s6, s7⟩ := HSY.out wq hwq; go_simp; try with_reducible rfl)
  try simp only [Act.put, List.setIfInBounds_toArray, List.set_cons_zero, List.set_cons_succ]
  refine quiet_take (v := .bool false) hL9 (by kernel_rfl) (fun wq hwq => ?y8y12) (fun L9 hL9 => ?y8r12)
  case y8y12 => (have h1 := HG2.out; go_simp; try (first | with_reducible rfl | exact h1 | (simpa using h1)))
  try simp only [Act.put, List.setIfInBounds_toArray, List.set_cons_zero, List.set_cons_succ]
  refine quiet_take (v := .bool false) hL9 (by kernel_rfl) (fun wq hwq => ?y8y13) (fun L9 hL9 => ?y8r13)
  case y8y13 => (go_simp; try with_reducible rfl)
  try simp only [Act.put, List.setIfInBounds_toArray, List.set_cons_zero, List.set_cons_succ]
  refine quiet_take (v := .bool false) hL9 (by kernel_rfl) (fun wq hwq => ?y8y14) (fun L9 hL9 => ?y8r14)
  case y8y14 => (go_simp; try with_reducible rfl)
  try simp only [Act.put, List.setIfInBounds_toArray, List.set_cons_zero, List.set_cons_succ]
  refine quiet_take (v := ?y8v15) hL9 (by kernel_rfl) (fun wq hwq => ?y8y15) (fun L9 hL9 => ?y8r15)
  case y8y15 => (go_simp; try with_reducible rfl)
  try simp only [Act.put, List.setIfInBounds_toArray, List.set_cons_zero, List.set_cons_succ]
  refine quiet_take (v := .int .i64 S.rows) hL9 (by kernel_rfl) (fun wq hwq => ?y8y16) (fun L9 hL9 => ?y8r16)
  case y8y16 => (obtain ⟨s0, s1, s2, s3, s4, s5, s6, s7⟩ := HSY.out wq hwq; go_simp; try with_reducible rfl)
  try simp only [Act.put, List.setIfInBounds_toArray, List.set_cons_zero, List.set_cons_succ]
  refine quiet_take (v := ?y8v17) hL9 (by kernel_rfl) (fun wq hwq => ?y8y17) (fun L9 hL9 => ?y8r17)
  case y8y17 => (go_simp; try with_reducible rfl)
  try simp only [Act.put, List.setIfInBounds_toArray, List.set_cons_zero, List.set_cons_succ]
  refine quiet_take (v := .int .i64 S.f) hL9 (by kernel_rfl) (fun wq hwq => ?y8y18) (fun L9 hL9 => ?y8r18)
  case y8y18 => (obtain ⟨s0, s1, s2, s3, s4, s5, s6, s7⟩ := HSY.out wq hwq; go_simp; try with_reducible rfl)
  try simp only [Act.put, List.setIfInBounds_toArray, List.set_cons_zero, List.set_cons_succ]
  refine quiet_take (v := .int .i64 ((twoOf S.f : Nat) : Int)) hL9 (by kernel_rfl) (fun wq hwq => ?y8y19) (fun L9 hL9 => ?y8r19)
  case y8y19 => (go_simp; go_at_call 110; exact HTW.out wq hwq)
  try simp only [Act.put, List.setIfInBounds_toArray, List.set_cons_zero, List.set_cons_succ]
  refine quiet_take (v := .bool false) hL9 (by kernel_rfl) (fun wq hwq => ?y8y20) (fun L9 hL9 => ?y8r20)
  case y8y20 => (have h1 := HG3.out; go_simp; try (first | with_reducible rfl | exact h1 | (simpa using h1)))
  try simp only [Act.put, List.setIfInBounds_toArray, List.set_cons_zero, List.set_cons_succ]
  refine quiet_take (v := .bool false) hL9 (by kernel_rfl) (fun wq hwq => ?y8y21) (fun L9 hL9 => ?y8r21)
  case y8y21 => (go_simp; try with_reducible rfl)
  try simp only [Act.put, List.setIfInBounds_toArray, List.set_cons_zero, List.set_cons_succ]
  refine quiet_take (v := .bool false) hL9 (by kernel_rfl) (fun wq hwq => ?y8y22) (fun L9 hL9 => ?y8r22)
  case y8y22 => (go_simp; try with_reducible rfl)
  try simp only [Act.put, List.setIfInBounds_toArray, List.set_cons_zero, List.set_cons_succ]
  refine quiet_take (v := ?y8v23) hL9 (by kernel_rfl) (fun wq hwq => ?y8y23) (fun L9 hL9 => ?y8r23)
  case y8y23 => (go_simp; try with_reducible rfl)
  try simp only [Act.put, List.setIfInBounds_toArray, List.set_cons_zero, List.set_cons_succ]
  refine quiet_take (v := .int .i64 S.main) hL9 (by kernel_rfl) (fun wq hwq => ?y8y24) (fun L9 hL9 => ?y8r24)
  case y8y24 => (obtain ⟨s0, s1, s2, s3, s4, s5, s6, s7⟩ := HSY.out wq hwq; go_simp; try with_reducible rfl)
  try simp only [Act.put, List.setIfInBounds_toArray, List.set_cons_zero, List.set_cons_succ]
  refine quiet_take (v := .bool false) hL9 (by kernel_rfl) (fun wq hwq => ?y8y25) (fun L9 hL9 => ?y8r25)
  case y8y25 => (have h1 := HG4.out; go_simp; try (first | with_reducible rfl | exact h1 | (simpa using h1)))
  try simp only [Act.put, List.setIfInBounds_toArray, List.set_cons_zero, List.set_cons_succ]
  refine quiet_take (v := .bool false) hL9 (by kernel_rfl) (fun wq hwq => ?y8y26) (fun L9 hL9 => ?y8r26)
  case y8y26 => (go_simp; try with_reducible rfl)
  try simp only [Act.put, List.setIfInBounds_toArray, List.set_cons_zero, List.set_cons_succ]
  refine quiet_take (v := .bool false) hL9 (by kernel_rfl) (fun wq hwq => ?y8y27) (fun L9 hL9 => ?y8r27)
  case y8y27 => (go_simp; try with_reducible rfl)
  try simp only [Act.put, List.setIfInBounds_toArray, List.set_cons_zero, List.set_cons_succ]
  refine quiet_take (v := ?y8v28) hL9 (by kernel_rfl) (fun wq hwq => ?y8y28) (fun L9 hL9 => ?y8r28)
  case y8y28 => (go_simp; try with_reducible rfl)
  try simp only [Act.put, List.setIfInBounds_toArray, List.set_cons_zero, List.set_cons_succ]
  refine quiet_take (v := .int .i64 S.main) hL9 (by kernel_rfl) (fun wq hwq => ?y8y29) (fun L9 hL9 => ?y8r29)
  case y8y29 => (obtain ⟨s0, s1, s2, s3, s4, s5, s6, s7⟩ := HSY.out wq hwq; go_simp; try with_reducible rfl)
  try simp only [Act.put, List.setIfInBounds_toArray, List.set_cons_zero, List.set_cons_succ]
  refine quiet_take (v := .bool false) hL9 (by kernel_rfl) (fun wq hwq => ?y8y30) (fun L9 hL9 => ?y8r30)
  case y8y30 => (have h1 := HG5.out; go_simp; try (first | with_reducible rfl | exact h1 | (simpa using h1)))
  try simp only [Act.put, List.setIfInBounds_toArray, List.set_cons_zero, List.set_cons_succ]
  refine quiet_take (v := .bool false) hL9 (by kernel_rfl) (fun wq hwq => ?y8y31) (fun L9 hL9 => ?y8r31)
  case y8y31 => (go_simp; try with_reducible rfl)
  try simp only [Act.put, List.setIfInBounds_toArray, List.set_cons_zero, List.set_cons_succ]
  refine quiet_take (v := .bool false) hL9 (by kernel_rfl) (fun wq hwq => ?y8y32) (fun L9 hL9 => ?y8r32)
  case y8y32 => (go_simp; try with_reducible rfl)
  try simp only [Act.put, List.setIfInBounds_toArray, List.set_cons_zero, List.set_cons_succ]
  refine quiet_take (v := ?y8v33) hL9 (by kernel_rfl) (fun wq hwq => ?y8y33) (fun L9 hL9 => ?y8r33)
  case y8y33 => (go_simp; try with_reducible rfl)
  try simp only [Act.put, List.setIfInBounds_toArray, List.set_cons_zero, List.set_cons_succ]
  refine quiet_take (v := .int .i64 S.pub) hL9 (by kernel_rfl) (fun wq hwq => ?y8y34) (fun L9 hL9 => ?y8r34)
  case y8y34 => (obtain ⟨s0, s1, s2, s3, s4, s5, s6, s7⟩ := HSY.out wq hwq; go_simp; try with_reducible rfl)
  try simp only [Act.put, List.setIfInBounds_toArray, List.set_cons_zero, List.set_cons_succ]
  refine quiet_take (v := .bool false) hL9 (by kernel_rfl) (fun wq hwq => ?y8y35) (fun L9 hL9 => ?y8r35)
  case y8y35 => (have h1 := HG6.out; go_simp; try (first | with_reducible rfl | exact h1 | (simpa using h1)))
  try simp only [Act.put, List.setIfInBounds_toArray, List.set_cons_zero, List.set_cons_succ]
  refine quiet_take (v := .bool false) hL9 (by kernel_rfl) (fun wq hwq => ?y8y36) (fun L9 hL9 => ?y8r36)
  case y8y36 => (go_simp; try with_reducible rfl)
  try simp only [Act.put, List.setIfInBounds_toArray, List.set_cons_zero, List.set_cons_succ]
  refine quiet_take (v := .bool false) hL9 (by kernel_rfl) (fun wq hwq => ?y8y37) (fun L9 hL9 => ?y8r37)
  case y8y37 => (go_simp; try with_reducible rfl)
  try simp only [Act.put, List.setIfInBounds_toArray, List.set_cons_zero, List.set_cons_succ]
  refine quiet_take (v := ?y8v38) hL9 (by kernel_rfl) (fun wq hwq => ?y8y38) (fun L9 hL9 => ?y8r38)
  case y8y38 => (go_simp; try with_reducible rfl)
  try simp only [Act.put, List.setIfInBounds_toArray, List.set_cons_zero, List.set_cons_succ]
  refine quiet_take (v := .int .i64 S.pub) hL9 (by kernel_rfl) (fun wq hwq => ?y8y39) (fun L9 hL9 => ?y8r39)
  case y8y39 => (obtain ⟨s0, s1, s2, s3, s4, s5, s6, s7⟩ := HSY.out wq hwq; go_simp; try with_reducible rfl)
  try simp only [Act.put, List.setIfInBounds_toArray, List.set_cons_zero, List.set_cons_succ]
  refine quiet_take (v := .bool false) hL9 (by kernel_rfl) (fun wq hwq => ?y8y40) (fun L9 hL9 => ?y8r40)
  case y8y40 => (have h1 := HG7.out; go_simp; try (first | with_reducible rfl | exact h1 | (simpa using h1)))
  try simp only [Act.put, List.setIfInBounds_toArray, List.set_cons_zero, List.set_cons_succ]
  refine quiet_nil hL9 ?_
  clear hL9
  intro wy hOy
  have HOY := Lib.hid hOy
  clear hOy HSY HG1 HG2 HG3 HG4 HG5 HG6 HG7 HTW HVF
  obtain ⟨s0, s1, s2, s3, s4, s5, s6, s7⟩ := HSY0.out wy HOY.out
  have g8 := HG8.out; have g9 := HG9.out; have ga := HGa.out; have gb := HGb.out
  go_wp2_with fail
  clear s0 s1 s2 s3 s4 s5 s6 s7 g8 g9 ga gb
  go_loopw [3] (fun vi wr => ∃ i : Nat, i ≤ S.fixed.length ∧ vi = .int .i64 (i : Int) ∧ Hid (∀ j, j < i → colB S (S.fixed.getD j ([] : List Nat)) = true) ∧ Hid (On W0 wr)) (fun vi _ => S.fixed.length - (intOf vi).toNat)
  case atStart => exact ⟨0, Nat.zero_le _, rfl, Lib.hid (fun j hj => absurd hj (Nat.not_lt_zero _)), HOY⟩
  case round =>
    rename World => wr
    obtain ⟨i, hi, rfl, HJ, HO⟩ := hrel
    obtain ⟨s0, s1, s2, s3, s4, s5, s6, s7⟩ := HSY0.out wr HO.out
    by_cases hlt : i < S.fixed.length
    · have hlt' : (i : Int) < (S.fixed.length : Int) := by omega
      have HRW := HR.out.on HO.out
      have HJ2 : Hid (colB S (S.fixed.getD i ([] : List Nat)) = true → ∀ j, j < i + 1 → colB S (S.fixed.getD j ([] : List Nat)) = true) := fun h j hj => by
        by_cases e : j = i
        · rw [e]; exact h
        · exact HJ.out j (by omega)
      have HN := Lib.hid (HNO1.out i hlt)
      have HSY : Hid (∀ wq, On wr wq → _) := fun wq h => HSY0.out wq (HO.out.trans h)
      clear HJ
      obtain ⟨eb, eo, rfl, u, d0, d1⟩ := HRW.2.1.cells i hlt
      obtain ⟨ca, cc, rfl⟩ := d1.shape
      rw [Nat.mul_one] at d0
      have HEL : Hid (∀ wq, On wr wq → wq.cell? ⟨eb, eo + i, none⟩ = some (.slice ca (S.fixed.getD i []).length cc) ∧ True ∧ True ∧ True) := fun wq h => ⟨cell_on h d0, trivial, trivial, trivial⟩
      have HSZ : Hid (∀ wq, On wr wq → Calls Tryd.prog 45 #[syA S ⟨some ⟨eb, eo, none⟩, a2, a3, a4, k1, k2, k3, k4⟩] wq fun e w' => e = .returned (.int .i64 (q : Int)) ∧ On wr w') := fun wq h => (HSZ0.out _ wq (HO.out.trans h)).mono fun e w' ⟨he, ho⟩ => ⟨he, h.trans ho⟩
      have HELM : Hid (∀ wq, On wr wq → Calls Tryd.prog 56 #[.int .i64 S.f, .slice ca (S.fixed.getD i []).length cc] wq fun e w' => e = .returned (.bool ((S.fixed.getD i []).all fun x => decide (x < pOf S.f))) ∧ On wr w') := fun wq h => (relems_any S.f _ _ wq (d1.on h)).mono fun e w' ⟨he, n, ho⟩ => ⟨he, by rw [ho]; exact h.drewN n⟩
      rw [HCB.out] at HJ2 HN
      clear d0 d1 HRW
      generalize ((S.fixed.getD i ([] : List Nat)).all fun x => decide (x < pOf S.f)) = EE at *
      generalize (S.fixed.getD i ([] : List Nat)).length = cl at *
      go_upto_region 8 with fail
      clear s0 s1 s2 s3 s4 s5 s6 s7
      by_cases hcl : cl = q
      rotate_left
      · have HLQ : Hid (((cl : Int) != (q : Int)) = true) := Lib.hid (by simp; omega)
        rw [decide_eq_false hcl] at HJ2 HN
        clear hcl
        refine region_keep_tail (fun wq => On wr wq) 19 (by kernel_rfl) (by kernel_rfl) (On.refl HO.out.tab).drew ?_
        simp only [List.take_succ_cons, List.take_zero, List.drop_succ_cons, List.drop_zero]
        refine quiet_start fun L9 hL9 => ?_
        refine quiet_take (v := ?uv0) hL9 (by kernel_rfl) (fun wq hwq => ?uy0) (fun L9 hL9 => ?ur0)
        case uy0 => (go_simp; try with_reducible rfl)
        try simp only [Act.put, List.setIfInBounds_toArray, List.set_cons_zero, List.set_cons_succ]
        refine quiet_take (v := .slice (some ⟨eb, eo, none⟩) S.fixed.length k1) hL9 (by kernel_rfl) (fun wq hwq => ?uy1) (fun L9 hL9 => ?ur1)
        case uy1 => (obtain ⟨s0, s1, s2, s3, s4, s5, s6, s7⟩ := HSY.out wq hwq; go_simp; try with_reducible rfl)
        try simp only [Act.put, List.setIfInBounds_toArray, List.set_cons_zero, List.set_cons_succ]
        refine quiet_take (v := ?uv2) hL9 (by kernel_rfl) (fun wq hwq => ?uy2) (fun L9 hL9 => ?ur2)
        case uy2 => (go_simp; try with_reducible rfl)
        try simp only [Act.put, List.setIfInBounds_toArray, List.set_cons_zero, List.set_cons_succ]
        refine quiet_take (v := ?uv3) hL9 (by kernel_rfl) (fun wq hwq => ?uy3) (fun L9 hL9 => ?ur3)
        case uy3 => (go_simp; try with_reducible rfl)
        try simp only [Act.put, List.setIfInBounds_toArray, List.set_cons_zero, List.set_cons_succ]
        refine quiet_take (v := .slice ca cl cc) hL9 (by kernel_rfl) (fun wq hwq => ?uy4) (fun L9 hL9 => ?ur4)
        case uy4 => (obtain ⟨z0, z1, z2, z3⟩ := HEL.out wq hwq; go_simp; try with_reducible rfl)
        try simp only [Act.put, List.setIfInBounds_toArray, List.set_cons_zero, List.set_cons_succ]
        refine quiet_take (v := .int .i64 (cl : Int)) hL9 (by kernel_rfl) (fun wq hwq => ?uy5) (fun L9 hL9 => ?ur5)
        case uy5 => (go_simp; try with_reducible rfl; try simp)
        try simp only [Act.put, List.setIfInBounds_toArray, List.set_cons_zero, List.set_cons_succ]
        refine quiet_take (v := syA S ⟨some ⟨eb, eo, none⟩, a2, a3, a4, k1, k2, k3, k4⟩) hL9 (by kernel_rfl) (fun wq hwq => ?uy6) (fun L9 hL9 => ?ur6)
        case uy6 => (obtain ⟨s0, s1, s2, s3, s4, s5, s6, s7⟩ := HSY.out wq hwq; go_simp; try with_reducible rfl)
        try simp only [Act.put, List.setIfInBounds_toArray, List.set_cons_zero, List.set_cons_succ]
        refine quiet_take (v := .int .i64 (q : Int)) hL9 (by kernel_rfl) (fun wq hwq => ?uy7) (fun L9 hL9 => ?ur7)
        case uy7 => (go_simp; go_at_call 45; exact HSZ.out wq hwq)
        try simp only [Act.put, List.setIfInBounds_toArray, List.set_cons_zero, List.set_cons_succ]
        refine quiet_take (v := .bool true) hL9 (by kernel_rfl) (fun wq hwq => ?uy8) (fun L9 hL9 => ?ur8)
        case uy8 => (have h1 := HLQ.out; go_simp; try (first | with_reducible rfl | exact h1 | (simpa using h1)))
        try simp only [Act.put, List.setIfInBounds_toArray, List.set_cons_zero, List.set_cons_succ]
        refine quiet_take (v := .bool true) hL9 (by kernel_rfl) (fun wq hwq => ?uy9) (fun L9 hL9 => ?ur9)
        case uy9 => (go_simp; try with_reducible rfl)
        try simp only [Act.put, List.setIfInBounds_toArray, List.set_cons_zero, List.set_cons_succ]
        refine quiet_skip hL9 (by kernel_rfl) (fun L9 hL9 => ?_)
        try simp only [Act.put, List.setIfInBounds_toArray, List.set_cons_zero, List.set_cons_succ]
        refine quiet_skip hL9 (by kernel_rfl) (fun L9 hL9 => ?_)
        try simp only [Act.put, List.setIfInBounds_toArray, List.set_cons_zero, List.set_cons_succ]
        refine quiet_skip hL9 (by kernel_rfl) (fun L9 hL9 => ?_)
        try simp only [Act.put, List.setIfInBounds_toArray, List.set_cons_zero, List.set_cons_succ]
        refine quiet_skip hL9 (by kernel_rfl) (fun L9 hL9 => ?_)
        try simp only [Act.put, List.setIfInBounds_toArray, List.set_cons_zero, List.set_cons_succ]
        refine quiet_skip hL9 (by kernel_rfl) (fun L9 hL9 => ?_)
        try simp only [Act.put, List.setIfInBounds_toArray, List.set_cons_zero, List.set_cons_succ]
        refine quiet_skip hL9 (by kernel_rfl) (fun L9 hL9 => ?_)
        try simp only [Act.put, List.setIfInBounds_toArray, List.set_cons_zero, List.set_cons_succ]
        refine quiet_skip hL9 (by kernel_rfl) (fun L9 hL9 => ?_)
        try simp only [Act.put, List.setIfInBounds_toArray, List.set_cons_zero, List.set_cons_succ]
        refine quiet_skip hL9 (by kernel_rfl) (fun L9 hL9 => ?_)
        try simp only [Act.put, List.setIfInBounds_toArray, List.set_cons_zero, List.set_cons_succ]
        refine quiet_skip hL9 (by kernel_rfl) (fun L9 hL9 => ?_)
        try simp only [Act.put, List.setIfInBounds_toArray, List.set_cons_zero, List.set_cons_succ]
        refine quiet_nil hL9 ?_
        clear hL9
        intro wy hOy
        have HF := Lib.hid (HN.out rfl)
        have hOz := HO0.out.trans (HO.out.trans hOy)
        go_wp2
        go_ret
        exact ⟨by simp [HF.out], hOz⟩
      have HLQ : Hid (((cl : Int) != (q : Int)) = false) := Lib.hid (by simp; omega)
      rw [decide_eq_true hcl] at HJ2 HN
      clear hcl
      cases EE with
      | false =>
        refine region_keep_tail (fun wq => On wr wq) 19 (by kernel_rfl) (by kernel_rfl) (On.refl HO.out.tab).drew ?_
        simp only [List.take_succ_cons, List.take_zero, List.drop_succ_cons, List.drop_zero]
        refine quiet_start fun L9 hL9 => ?_
        refine quiet_take (v := ?vv0) hL9 (by kernel_rfl) (fun wq hwq => ?vy0) (fun L9 hL9 => ?vr0)
        case vy0 => (go_simp; try with_reducible rfl)
        try simp only [Act.put, List.setIfInBounds_toArray, List.set_cons_zero, List.set_cons_succ]
        refine quiet_take (v := .slice (some ⟨eb, eo, none⟩) S.fixed.length k1) hL9 (by kernel_rfl) (fun wq hwq => ?vy1) (fun L9 hL9 => ?vr1)
        case vy1 => (obtain ⟨s0, s1, s2, s3, s4, s5, s6, s7⟩ := HSY.out wq hwq; go_simp; try with_reducible rfl)
        try simp only [Act.put, List.setIfInBounds_toArray, List.set_cons_zero, List.set_cons_succ]
        refine quiet_take (v := ?vv2) hL9 (by kernel_rfl) (fun wq hwq => ?vy2) (fun L9 hL9 => ?vr2)
        case vy2 => (go_simp; try with_reducible rfl)
        try simp only [Act.put, List.setIfInBounds_toArray, List.set_cons_zero, List.set_cons_succ]
        refine quiet_take (v := ?vv3) hL9 (by kernel_rfl) (fun wq hwq => ?vy3) (fun L9 hL9 => ?vr3)
        case vy3 => (go_simp; try with_reducible rfl)
        try simp only [Act.put, List.setIfInBounds_toArray, List.set_cons_zero, List.set_cons_succ]
        refine quiet_take (v := .slice ca cl cc) hL9 (by kernel_rfl) (fun wq hwq => ?vy4) (fun L9 hL9 => ?vr4)
        case vy4 => (obtain ⟨z0, z1, z2, z3⟩ := HEL.out wq hwq; go_simp; try with_reducible rfl)
        try simp only [Act.put, List.setIfInBounds_toArray, List.set_cons_zero, List.set_cons_succ]
        refine quiet_take (v := .int .i64 (cl : Int)) hL9 (by kernel_rfl) (fun wq hwq => ?vy5) (fun L9 hL9 => ?vr5)
        case vy5 => (go_simp; try with_reducible rfl; try simp)
        try simp only [Act.put, List.setIfInBounds_toArray, List.set_cons_zero, List.set_cons_succ]
        refine quiet_take (v := syA S ⟨some ⟨eb, eo, none⟩, a2, a3, a4, k1, k2, k3, k4⟩) hL9 (by kernel_rfl) (fun wq hwq => ?vy6) (fun L9 hL9 => ?vr6)
        case vy6 => (obtain ⟨s0, s1, s2, s3, s4, s5, s6, s7⟩ := HSY.out wq hwq; go_simp; try with_reducible rfl)
        try simp only [Act.put, List.setIfInBounds_toArray, List.set_cons_zero, List.set_cons_succ]
        refine quiet_take (v := .int .i64 (q : Int)) hL9 (by kernel_rfl) (fun wq hwq => ?vy7) (fun L9 hL9 => ?vr7)
        case vy7 => (go_simp; go_at_call 45; exact HSZ.out wq hwq)
        try simp only [Act.put, List.setIfInBounds_toArray, List.set_cons_zero, List.set_cons_succ]
        refine quiet_take (v := .bool false) hL9 (by kernel_rfl) (fun wq hwq => ?vy8) (fun L9 hL9 => ?vr8)
        case vy8 => (have h1 := HLQ.out; go_simp; try (first | with_reducible rfl | exact h1 | (simpa using h1)))
        try simp only [Act.put, List.setIfInBounds_toArray, List.set_cons_zero, List.set_cons_succ]
        refine quiet_take (v := .bool false) hL9 (by kernel_rfl) (fun wq hwq => ?vy9) (fun L9 hL9 => ?vr9)
        case vy9 => (go_simp; try with_reducible rfl)
        try simp only [Act.put, List.setIfInBounds_toArray, List.set_cons_zero, List.set_cons_succ]
        refine quiet_take (v := ?vv10) hL9 (by kernel_rfl) (fun wq hwq => ?vy10) (fun L9 hL9 => ?vr10)
        case vy10 => (go_simp; try with_reducible rfl)
        try simp only [Act.put, List.setIfInBounds_toArray, List.set_cons_zero, List.set_cons_succ]
        refine quiet_take (v := .int .i64 S.f) hL9 (by kernel_rfl) (fun wq hwq => ?vy11) (fun L9 hL9 => ?vr11)
        case vy11 => (obtain ⟨s0, s1, s2, s3, s4, s5, s6, s7⟩ := HSY.out wq hwq; go_simp; try with_reducible rfl)
        try simp only [Act.put, List.setIfInBounds_toArray, List.set_cons_zero, List.set_cons_succ]
        refine quiet_take (v := ?vv12) hL9 (by kernel_rfl) (fun wq hwq => ?vy12) (fun L9 hL9 => ?vr12)
        case vy12 => (go_simp; try with_reducible rfl)
        try simp only [Act.put, List.setIfInBounds_toArray, List.set_cons_zero, List.set_cons_succ]
        refine quiet_take (v := .slice (some ⟨eb, eo, none⟩) S.fixed.length k1) hL9 (by kernel_rfl) (fun wq hwq => ?vy13) (fun L9 hL9 => ?vr13)
        case vy13 => (obtain ⟨s0, s1, s2, s3, s4, s5, s6, s7⟩ := HSY.out wq hwq; go_simp; try with_reducible rfl)
        try simp only [Act.put, List.setIfInBounds_toArray, List.set_cons_zero, List.set_cons_succ]
        refine quiet_take (v := ?vv14) hL9 (by kernel_rfl) (fun wq hwq => ?vy14) (fun L9 hL9 => ?vr14)
        case vy14 => (go_simp; try with_reducible rfl)
        try simp only [Act.put, List.setIfInBounds_toArray, List.set_cons_zero, List.set_cons_succ]
        refine quiet_take (v := ?vv15) hL9 (by kernel_rfl) (fun wq hwq => ?vy15) (fun L9 hL9 => ?vr15)
        case vy15 => (go_simp; try with_reducible rfl)
        try simp only [Act.put, List.setIfInBounds_toArray, List.set_cons_zero, List.set_cons_succ]
        refine quiet_take (v := .slice ca cl cc) hL9 (by kernel_rfl) (fun wq hwq => ?vy16) (fun L9 hL9 => ?vr16)
        case vy16 => (obtain ⟨z0, z1, z2, z3⟩ := HEL.out wq hwq; go_simp; try with_reducible rfl)
        try simp only [Act.put, List.setIfInBounds_toArray, List.set_cons_zero, List.set_cons_succ]
        refine quiet_take (v := .bool false) hL9 (by kernel_rfl) (fun wq hwq => ?vy17) (fun L9 hL9 => ?vr17)
        case vy17 => (go_simp; go_at_call 56; exact HELM.out wq hwq)
        try simp only [Act.put, List.setIfInBounds_toArray, List.set_cons_zero, List.set_cons_succ]
        refine quiet_take (v := .bool true) hL9 (by kernel_rfl) (fun wq hwq => ?vy18) (fun L9 hL9 => ?vr18)
        case vy18 => (go_simp; try with_reducible rfl)
        try simp only [Act.put, List.setIfInBounds_toArray, List.set_cons_zero, List.set_cons_succ]
        refine quiet_nil hL9 ?_
        clear hL9
        intro wy hOy
        have HF := Lib.hid (HN.out rfl)
        have hOz := HO0.out.trans (HO.out.trans hOy)
        go_wp2
        go_ret
        exact ⟨by simp [HF.out], hOz⟩
      | true =>
        refine region_keep_tail (fun wq => On wr wq) 19 (by kernel_rfl) (by kernel_rfl) (On.refl HO.out.tab).drew ?_
        simp only [List.take_succ_cons, List.take_zero, List.drop_succ_cons, List.drop_zero]
        refine quiet_start fun L9 hL9 => ?_
        refine quiet_take (v := ?xv0) hL9 (by kernel_rfl) (fun wq hwq => ?xy0) (fun L9 hL9 => ?xr0)
        case xy0 => (go_simp; try with_reducible rfl)
        try simp only [Act.put, List.setIfInBounds_toArray, List.set_cons_zero, List.set_cons_succ]
        refine quiet_take (v := .slice (some ⟨eb, eo, none⟩) S.fixed.length k1) hL9 (by kernel_rfl) (fun wq hwq => ?xy1) (fun L9 hL9 => ?xr1)
        case xy1 => (obtain ⟨s0, s1, s2, s3, s4, s5, s6, s7⟩ := HSY.out wq hwq; go_simp; try with_reducible rfl)
        try simp only [Act.put, List.setIfInBounds_toArray, List.set_cons_zero, List.set_cons_succ]
        refine quiet_take (v := ?xv2) hL9 (by kernel_rfl) (fun wq hwq => ?xy2) (fun L9 hL9 => ?xr2)
        case xy2 => (go_simp; try with_reducible rfl)
        try simp only [Act.put, List.setIfInBounds_toArray, List.set_cons_zero, List.set_cons_succ]
        refine quiet_take (v := ?xv3) hL9 (by kernel_rfl) (fun wq hwq => ?xy3) (fun L9 hL9 => ?xr3)
        case xy3 => (go_simp; try with_reducible rfl)
        try simp only [Act.put, List.setIfInBounds_toArray, List.set_cons_zero, List.set_cons_succ]
        refine quiet_take (v := .slice ca cl cc) hL9 (by kernel_rfl) (fun wq hwq => ?xy4) (fun L9 hL9 => ?xr4)
        case xy4 => (obtain ⟨z0, z1, z2, z3⟩ := HEL.out wq hwq; go_simp; try with_reducible rfl)
        try simp only [Act.put, List.setIfInBounds_toArray, List.set_cons_zero, List.set_cons_succ]
        refine quiet_take (v := .int .i64 (cl : Int)) hL9 (by kernel_rfl) (fun wq hwq => ?xy5) (fun L9 hL9 => ?xr5)
        case xy5 => (go_simp; try with_reducible rfl; try simp)
        try simp only [Act.put, List.setIfInBounds_toArray, List.set_cons_zero, List.set_cons_succ]
        refine quiet_take (v := syA S ⟨some ⟨eb, eo, none⟩, a2, a3, a4, k1, k2, k3, k4⟩) hL9 (by kernel_rfl) (fun wq hwq => ?xy6) (fun L9 hL9 => ?xr6)
        case xy6 => (obtain ⟨s0, s1, s2, s3, s4, s5, s6, s7⟩ := HSY.out wq hwq; go_simp; try with_reducible rfl)
        try simp only [Act.put, List.setIfInBounds_toArray, List.set_cons_zero, List.set_cons_succ]
        refine quiet_take (v := .int .i64 (q : Int)) hL9 (by kernel_rfl) (fun wq hwq => ?xy7) (fun L9 hL9 => ?xr7)
        case xy7 => (go_simp; go_at_call 45; exact HSZ.out wq hwq)
        try simp only [Act.put, List.setIfInBounds_toArray, List.set_cons_zero, List.set_cons_succ]
        refine quiet_take (v := .bool false) hL9 (by kernel_rfl) (fun wq hwq => ?xy8) (fun L9 hL9 => ?xr8)
        case xy8 => (have h1 := HLQ.out; go_simp; try (first | with_reducible rfl | exact h1 | (simpa using h1)))
        try simp only [Act.put, List.setIfInBounds_toArray, List.set_cons_zero, List.set_cons_succ]
        refine quiet_take (v := .bool false) hL9 (by kernel_rfl) (fun wq hwq => ?xy9) (fun L9 hL9 => ?xr9)
        case xy9 => (go_simp; try with_reducible rfl)
        try simp only [Act.put, List.setIfInBounds_toArray, List.set_cons_zero, List.set_cons_succ]
        refine quiet_take (v := ?xv10) hL9 (by kernel_rfl) (fun wq hwq => ?xy10) (fun L9 hL9 => ?xr10)
        case xy10 => (go_simp; try with_reducible rfl)
        try simp only [Act.put, List.setIfInBounds_toArray, List.set_cons_zero, List.set_cons_succ]
        refine quiet_take (v := .int .i64 S.f) hL9 (by kernel_rfl) (fun wq hwq => ?xy11) (fun L9 hL9 => ?xr11)
        case xy11 => (obtain ⟨s0, s1, s2, s3, s4, s5, s6, s7⟩ := HSY.out wq hwq; go_simp; try with_reducible rfl)
        try simp only [Act.put, List.setIfInBounds_toArray, List.set_cons_zero, List.set_cons_succ]
        refine quiet_take (v := ?xv12) hL9 (by kernel_rfl) (fun wq hwq => ?xy12) (fun L9 hL9 => ?xr12)
        case xy12 => (go_simp; try with_reducible rfl)
        try simp only [Act.put, List.setIfInBounds_toArray, List.set_cons_zero, List.set_cons_succ]
        refine quiet_take (v := .slice (some ⟨eb, eo, none⟩) S.fixed.length k1) hL9 (by kernel_rfl) (fun wq hwq => ?xy13) (fun L9 hL9 => ?xr13)
        case xy13 => (obtain ⟨s0, s1, s2, s3, s4, s5, s6, s7⟩ := HSY.out wq hwq; go_simp; try with_reducible rfl)
        try simp only [Act.put, List.setIfInBounds_toArray, List.set_cons_zero, List.set_cons_succ]
        refine quiet_take (v := ?xv14) hL9 (by kernel_rfl) (fun wq hwq => ?xy14) (fun L9 hL9 => ?xr14)
        case xy14 => (go_simp; try with_reducible rfl)
        try simp only [Act.put, List.setIfInBounds_toArray, List.set_cons_zero, List.set_cons_succ]
        refine quiet_take (v := ?xv15) hL9 (by kernel_rfl) (fun wq hwq => ?xy15) (fun L9 hL9 => ?xr15)
        case xy15 => (go_simp; try with_reducible rfl)
        try simp only [Act.put, List.setIfInBounds_toArray, List.set_cons_zero, List.set_cons_succ]
        refine quiet_take (v := .slice ca cl cc) hL9 (by kernel_rfl) (fun wq hwq => ?xy16) (fun L9 hL9 => ?xr16)
        case xy16 => (obtain ⟨z0, z1, z2, z3⟩ := HEL.out wq hwq; go_simp; try with_reducible rfl)
        try simp only [Act.put, List.setIfInBounds_toArray, List.set_cons_zero, List.set_cons_succ]
        refine quiet_take (v := .bool true) hL9 (by kernel_rfl) (fun wq hwq => ?xy17) (fun L9 hL9 => ?xr17)
        case xy17 => (go_simp; go_at_call 56; exact HELM.out wq hwq)
        try simp only [Act.put, List.setIfInBounds_toArray, List.set_cons_zero, List.set_cons_succ]
        refine quiet_take (v := .bool false) hL9 (by kernel_rfl) (fun wq hwq => ?xy18) (fun L9 hL9 => ?xr18)
        case xy18 => (go_simp; try with_reducible rfl)
        try simp only [Act.put, List.setIfInBounds_toArray, List.set_cons_zero, List.set_cons_succ]
        refine quiet_nil hL9 ?_
        clear hL9
        intro wy hOy
        have HF := Lib.hid (HJ2.out rfl)
        have hOz := Lib.hid (HO.out.trans hOy)
        clear hOy
        go_wp2
        go_roundw
        case rel => exact ⟨i + 1, by omega, by simp, HF, hOz⟩
        case measure => simp [intOf]; omega
    · obtain rfl : S.fixed.length = i := by omega
      have HA1 := Lib.hid (HYES1.out HJ.out)
      have HOY := HO
      clear HJ
      go_wp2_with fail
      clear s0 s1 s2 s3 s4 s5 s6 s7
      go_loopw [4] (fun vi wr => ∃ i : Nat, i ≤ S.rules.length ∧ vi = .int .i64 (i : Int) ∧ Hid (∀ j, j < i → ruB S (S.rules.getD j zRu) = true) ∧ Hid (On W0 wr)) (fun vi _ => S.rules.length - (intOf vi).toNat)
      case atStart => exact ⟨0, Nat.zero_le _, rfl, Lib.hid (fun j hj => absurd hj (Nat.not_lt_zero _)), HOY⟩
      case round =>
        rename World => wr
        obtain ⟨i, hi, rfl, HJ, HO⟩ := hrel
        obtain ⟨s0, s1, s2, s3, s4, s5, s6, s7⟩ := HSY0.out wr HO.out
        by_cases hlt : i < S.rules.length
        · have hlt' : (i : Int) < (S.rules.length : Int) := by omega
          have HRW := HR.out.on HO.out
          have HJ2 : Hid (ruB S (S.rules.getD i zRu) = true → ∀ j, j < i + 1 → ruB S (S.rules.getD j zRu) = true) := fun h j hj => by
            by_cases e : j = i
            · rw [e]; exact h
            · exact HJ.out j (by omega)
          have HN := Lib.hid (HNO2.out i hlt)
          have HSY : Hid (∀ wq, On wr wq → _) := fun wq h => HSY0.out wq (HO.out.trans h)
          clear HJ
          obtain ⟨eb, eo, rfl, ⟨d0, d01⟩, u, d1, d2⟩ := HRW.2.2.1.cells i hlt
          obtain ⟨ua, uc, rfl⟩ := d2.shape
          have HEL : Hid (∀ wq, On wr wq → wq.cell? ⟨eb, eo + i * 2, none⟩ = some (.int .u8 (S.rules.getD i zRu).1) ∧ wq.cell? ⟨eb, eo + i * 2 + 1, none⟩ = some (.slice ua (S.rules.getD i zRu).2.length uc) ∧ True ∧ True) := fun wq h => ⟨cell_on h d0, cell_on h d1, trivial, trivial⟩
          have HFN : Hid (∀ wq, On wr wq → Calls Tryd.prog 111 #[syA S ⟨a1, some ⟨eb, eo, none⟩, a3, a4, k1, k2, k3, k4⟩, .agg #[.int .u8 (S.rules.getD i zRu).1, .slice ua (S.rules.getD i zRu).2.length uc]] wq fun e w' => e = .returned (.bool (ruB S (S.rules.getD i zRu))) ∧ On wr w') := fun wq h => (rrule_any S _ (S.rules.getD i zRu) ua uc wq h.tab d01 (d2.on h)).mono fun e w' ⟨he, ho⟩ => ⟨he, h.trans ho⟩
          clear d0 d1 d2 d01 HRW
          generalize ruB S (S.rules.getD i zRu) = BB at *
          generalize (S.rules.getD i zRu).1 = rk at *
          generalize (S.rules.getD i zRu).2.length = rn at *
          go_upto_region 13 with fail
          clear s0 s1 s2 s3 s4 s5 s6 s7
          cases BB with
          | false =>
            refine region_keep_tail (fun wq => On wr wq) 7 (by kernel_rfl) (by kernel_rfl) (On.refl HO.out.tab).drew ?_
            simp only [List.take_succ_cons, List.take_zero, List.drop_succ_cons, List.drop_zero]
            refine quiet_start fun L9 hL9 => ?_
            refine quiet_take (v := syA S ⟨a1, some ⟨eb, eo, none⟩, a3, a4, k1, k2, k3, k4⟩) hL9 (by kernel_rfl) (fun wq hwq => ?l2ay0) (fun L9 hL9 => ?l2ar0)
            case l2ay0 => (obtain ⟨s0, s1, s2, s3, s4, s5, s6, s7⟩ := HSY.out wq hwq; go_simp; try with_reducible rfl)
            try simp only [Act.put, List.setIfInBounds_toArray, List.set_cons_zero, List.set_cons_succ]
            refine quiet_take (v := ?l2av1) hL9 (by kernel_rfl) (fun wq hwq => ?l2ay1) (fun L9 hL9 => ?l2ar1)
            case l2ay1 => (go_simp; try with_reducible rfl)
            try simp only [Act.put, List.setIfInBounds_toArray, List.set_cons_zero, List.set_cons_succ]
            refine quiet_take (v := .slice (some ⟨eb, eo, none⟩) S.rules.length k2) hL9 (by kernel_rfl) (fun wq hwq => ?l2ay2) (fun L9 hL9 => ?l2ar2)
            case l2ay2 => (obtain ⟨s0, s1, s2, s3, s4, s5, s6, s7⟩ := HSY.out wq hwq; go_simp; try with_reducible rfl)
            try simp only [Act.put, List.setIfInBounds_toArray, List.set_cons_zero, List.set_cons_succ]
            refine quiet_take (v := ?l2av3) hL9 (by kernel_rfl) (fun wq hwq => ?l2ay3) (fun L9 hL9 => ?l2ar3)
            case l2ay3 => (go_simp; try with_reducible rfl)
            try simp only [Act.put, List.setIfInBounds_toArray, List.set_cons_zero, List.set_cons_succ]
            refine quiet_take (v := ?l2av4) hL9 (by kernel_rfl) (fun wq hwq => ?l2ay4) (fun L9 hL9 => ?l2ar4)
            case l2ay4 => (go_simp; try with_reducible rfl)
            try simp only [Act.put, List.setIfInBounds_toArray, List.set_cons_zero, List.set_cons_succ]
            refine quiet_take (v := .agg #[.int .u8 rk, .slice ua rn uc]) hL9 (by kernel_rfl) (fun wq hwq => ?l2ay5) (fun L9 hL9 => ?l2ar5)
            case l2ay5 => (obtain ⟨z0, z1, z2, z3⟩ := HEL.out wq hwq; go_simp; try with_reducible rfl)
            try simp only [Act.put, List.setIfInBounds_toArray, List.set_cons_zero, List.set_cons_succ]
            refine quiet_take (v := .bool false) hL9 (by kernel_rfl) (fun wq hwq => ?l2ay6) (fun L9 hL9 => ?l2ar6)
            case l2ay6 => (go_simp; go_at_call 111; exact HFN.out wq hwq)
            try simp only [Act.put, List.setIfInBounds_toArray, List.set_cons_zero, List.set_cons_succ]
            refine quiet_nil hL9 ?_
            clear hL9
            intro wy hOy
            have HF := Lib.hid (HN.out rfl)
            have hOz := HO0.out.trans (HO.out.trans hOy)
            go_wp2
            go_ret
            exact ⟨by simp [HF.out, HA1.out], hOz⟩
          | true =>
            refine region_keep_tail (fun wq => On wr wq) 7 (by kernel_rfl) (by kernel_rfl) (On.refl HO.out.tab).drew ?_
            simp only [List.take_succ_cons, List.take_zero, List.drop_succ_cons, List.drop_zero]
            refine quiet_start fun L9 hL9 => ?_
            refine quiet_take (v := syA S ⟨a1, some ⟨eb, eo, none⟩, a3, a4, k1, k2, k3, k4⟩) hL9 (by kernel_rfl) (fun wq hwq => ?l2by0) (fun L9 hL9 => ?l2br0)
            case l2by0 => (obtain ⟨s0, s1, s2, s3, s4, s5, s6, s7⟩ := HSY.out wq hwq; go_simp; try with_reducible rfl)
            try simp only [Act.put, List.setIfInBounds_toArray, List.set_cons_zero, List.set_cons_succ]
            refine quiet_take (v := ?l2bv1) hL9 (by kernel_rfl) (fun wq hwq => ?l2by1) (fun L9 hL9 => ?l2br1)
            case l2by1 => (go_simp; try with_reducible rfl)
            try simp only [Act.put, List.setIfInBounds_toArray, List.set_cons_zero, List.set_cons_succ]
            refine quiet_take (v := .slice (some ⟨eb, eo, none⟩) S.rules.length k2) hL9 (by kernel_rfl) (fun wq hwq => ?l2by2) (fun L9 hL9 => ?l2br2)
            case l2by2 => (obtain ⟨s0, s1, s2, s3, s4, s5, s6, s7⟩ := HSY.out wq hwq; go_simp; try with_reducible rfl)
            try simp only [Act.put, List.setIfInBounds_toArray, List.set_cons_zero, List.set_cons_succ]
            refine quiet_take (v := ?l2bv3) hL9 (by kernel_rfl) (fun wq hwq => ?l2by3) (fun L9 hL9 => ?l2br3)
            case l2by3 => (go_simp; try with_reducible rfl)
            try simp only [Act.put, List.setIfInBounds_toArray, List.set_cons_zero, List.set_cons_succ]
            refine quiet_take (v := ?l2bv4) hL9 (by kernel_rfl) (fun wq hwq => ?l2by4) (fun L9 hL9 => ?l2br4)
            case l2by4 => (go_simp; try with_reducible rfl)
            try simp only [Act.put, List.setIfInBounds_toArray, List.set_cons_zero, List.set_cons_succ]
            refine quiet_take (v := .agg #[.int .u8 rk, .slice ua rn uc]) hL9 (by kernel_rfl) (fun wq hwq => ?l2by5) (fun L9 hL9 => ?l2br5)
            case l2by5 => (obtain ⟨z0, z1, z2, z3⟩ := HEL.out wq hwq; go_simp; try with_reducible rfl)
            try simp only [Act.put, List.setIfInBounds_toArray, List.set_cons_zero, List.set_cons_succ]
            refine quiet_take (v := .bool true) hL9 (by kernel_rfl) (fun wq hwq => ?l2by6) (fun L9 hL9 => ?l2br6)
            case l2by6 => (go_simp; go_at_call 111; exact HFN.out wq hwq)
            try simp only [Act.put, List.setIfInBounds_toArray, List.set_cons_zero, List.set_cons_succ]
            refine quiet_nil hL9 ?_
            clear hL9
            intro wy hOy
            have HF := Lib.hid (HJ2.out rfl)
            have hOz := Lib.hid (HO.out.trans hOy)
            clear hOy
            go_wp2
            go_roundw
            case rel => exact ⟨i + 1, by omega, by simp, HF, hOz⟩
            case measure => simp [intOf]; omega
        · obtain rfl : S.rules.length = i := by omega
          have HA2 := Lib.hid (HYES2.out HJ.out)
          have HOY := HO
          clear HJ
          go_wp2_with fail
          clear s0 s1 s2 s3 s4 s5 s6 s7
          go_loopw [5] (fun vi wr => ∃ i : Nat, i ≤ S.perms.length ∧ vi = .int .i64 (i : Int) ∧ Hid (∀ j, j < i → pmB S (S.perms.getD j zPm) = true) ∧ Hid (On W0 wr)) (fun vi _ => S.perms.length - (intOf vi).toNat)
          case atStart => exact ⟨0, Nat.zero_le _, rfl, Lib.hid (fun j hj => absurd hj (Nat.not_lt_zero _)), HOY⟩
          case round =>
            rename World => wr
            obtain ⟨i, hi, rfl, HJ, HO⟩ := hrel
            obtain ⟨s0, s1, s2, s3, s4, s5, s6, s7⟩ := HSY0.out wr HO.out
            by_cases hlt : i < S.perms.length
            · have hlt' : (i : Int) < (S.perms.length : Int) := by omega
              have HRW := HR.out.on HO.out
              have HJ2 : Hid (pmB S (S.perms.getD i zPm) = true → ∀ j, j < i + 1 → pmB S (S.perms.getD j zPm) = true) := fun h j hj => by
                by_cases e : j = i
                · rw [e]; exact h
                · exact HJ.out j (by omega)
              have HN := Lib.hid (HNO3.out i hlt)
              have HSY : Hid (∀ wq, On wr wq → _) := fun wq h => HSY0.out wq (HO.out.trans h)
              clear HJ
              obtain ⟨eb, eo, rfl, u, u2, d0, d1, d2, d3⟩ := HRW.2.2.2.1.cells i hlt
              obtain ⟨pa, pc, rfl⟩ := d2.shape
              obtain ⟨qa, qc, rfl⟩ := d3.shape
              have HEL : Hid (∀ wq, On wr wq → wq.cell? ⟨eb, eo + i * 2, none⟩ = some (.slice pa (S.perms.getD i zPm).1.length pc) ∧ wq.cell? ⟨eb, eo + i * 2 + 1, none⟩ = some (.slice qa (S.perms.getD i zPm).2.length qc) ∧ True ∧ True) := fun wq h => ⟨cell_on h d0, cell_on h d1, trivial, trivial⟩
              have HFN : Hid (∀ wq, On wr wq → Calls Tryd.prog 112 #[syA S ⟨a1, a2, some ⟨eb, eo, none⟩, a4, k1, k2, k3, k4⟩, .agg #[.slice pa (S.perms.getD i zPm).1.length pc, .slice qa (S.perms.getD i zPm).2.length qc]] wq fun e w' => e = .returned (.bool (pmB S (S.perms.getD i zPm))) ∧ On wr w') := fun wq h => (rperm_any S _ (S.perms.getD i zPm) pa qa pc qc wq h.tab (TupL.on d2 h) (TupL.on d3 h)).mono fun e w' ⟨he, ho⟩ => ⟨he, h.trans ho⟩
              clear d0 d1 d2 d3 HRW
              generalize pmB S (S.perms.getD i zPm) = BB at *
              generalize (S.perms.getD i zPm).1.length = pn at *
              generalize (S.perms.getD i zPm).2.length = qn at *
              go_upto_region 18 with fail
              clear s0 s1 s2 s3 s4 s5 s6 s7
              cases BB with
              | false =>
                refine region_keep_tail (fun wq => On wr wq) 7 (by kernel_rfl) (by kernel_rfl) (On.refl HO.out.tab).drew ?_
                simp only [List.take_succ_cons, List.take_zero, List.drop_succ_cons, List.drop_zero]
                refine quiet_start fun L9 hL9 => ?_
                refine quiet_take (v := syA S ⟨a1, a2, some ⟨eb, eo, none⟩, a4, k1, k2, k3, k4⟩) hL9 (by kernel_rfl) (fun wq hwq => ?l3ay0) (fun L9 hL9 => ?l3ar0)
                case l3ay0 => (obtain ⟨s0, s1, s2, s3, s4, s5, s6, s7⟩ := HSY.out wq hwq; go_simp; try with_reducible rfl)
                try simp only [Act.put, List.setIfInBounds_toArray, List.set_cons_zero, List.set_cons_succ]
                refine quiet_take (v := ?l3av1) hL9 (by kernel_rfl) (fun wq hwq => ?l3ay1) (fun L9 hL9 => ?l3ar1)
                case l3ay1 => (go_simp; try with_reducible rfl)
                try simp only [Act.put, List.setIfInBounds_toArray, List.set_cons_zero, List.set_cons_succ]
                refine quiet_take (v := .slice (some ⟨eb, eo, none⟩) S.perms.length k3) hL9 (by kernel_rfl) (fun wq hwq => ?l3ay2) (fun L9 hL9 => ?l3ar2)
                case l3ay2 => (obtain ⟨s0, s1, s2, s3, s4, s5, s6, s7⟩ := HSY.out wq hwq; go_simp; try with_reducible rfl)
                try simp only [Act.put, List.setIfInBounds_toArray, List.set_cons_zero, List.set_cons_succ]
                refine quiet_take (v := ?l3av3) hL9 (by kernel_rfl) (fun wq hwq => ?l3ay3) (fun L9 hL9 => ?l3ar3)
                case l3ay3 => (go_simp; try with_reducible rfl)
                try simp only [Act.put, List.setIfInBounds_toArray, List.set_cons_zero, List.set_cons_succ]
                refine quiet_take (v := ?l3av4) hL9 (by kernel_rfl) (fun wq hwq => ?l3ay4) (fun L9 hL9 => ?l3ar4)
                case l3ay4 => (go_simp; try with_reducible rfl)
                try simp only [Act.put, List.setIfInBounds_toArray, List.set_cons_zero, List.set_cons_succ]
                refine quiet_take (v := .agg #[.slice pa pn pc, .slice qa qn qc]) hL9 (by kernel_rfl) (fun wq hwq => ?l3ay5) (fun L9 hL9 => ?l3ar5)
                case l3ay5 => (obtain ⟨z0, z1, z2, z3⟩ := HEL.out wq hwq; go_simp; try with_reducible rfl)
                try simp only [Act.put, List.setIfInBounds_toArray, List.set_cons_zero, List.set_cons_succ]
                refine quiet_take (v := .bool false) hL9 (by kernel_rfl) (fun wq hwq => ?l3ay6) (fun L9 hL9 => ?l3ar6)
                case l3ay6 => (go_simp; go_at_call 112; exact HFN.out wq hwq)
                try simp only [Act.put, List.setIfInBounds_toArray, List.set_cons_zero, List.set_cons_succ]
                refine quiet_nil hL9 ?_
                clear hL9
                intro wy hOy
                have HF := Lib.hid (HN.out rfl)
                have hOz := HO0.out.trans (HO.out.trans hOy)
                go_wp2
                go_ret
                exact ⟨by simp [HF.out, HA1.out, HA2.out], hOz⟩
              | true =>
                refine region_keep_tail (fun wq => On wr wq) 7 (by kernel_rfl) (by kernel_rfl) (On.refl HO.out.tab).drew ?_
                simp only [List.take_succ_cons, List.take_zero, List.drop_succ_cons, List.drop_zero]
                refine quiet_start fun L9 hL9 => ?_
                refine quiet_take (v := syA S ⟨a1, a2, some ⟨eb, eo, none⟩, a4, k1, k2, k3, k4⟩) hL9 (by kernel_rfl) (fun wq hwq => ?l3by0) (fun L9 hL9 => ?l3br0)
                case l3by0 => (obtain ⟨s0, s1, s2, s3, s4, s5, s6, s7⟩ := HSY.out wq hwq; go_simp; try with_reducible rfl)
                try simp only [Act.put, List.setIfInBounds_toArray, List.set_cons_zero, List.set_cons_succ]
                refine quiet_take (v := ?l3bv1) hL9 (by kernel_rfl) (fun wq hwq => ?l3by1) (fun L9 hL9 => ?l3br1)
                case l3by1 => (go_simp; try with_reducible rfl)
                try simp only [Act.put, List.setIfInBounds_toArray, List.set_cons_zero, List.set_cons_succ]
                refine quiet_take (v := .slice (some ⟨eb, eo, none⟩) S.perms.length k3) hL9 (by kernel_rfl) (fun wq hwq => ?l3by2) (fun L9 hL9 => ?l3br2)
                case l3by2 => (obtain ⟨s0, s1, s2, s3, s4, s5, s6, s7⟩ := HSY.out wq hwq; go_simp; try with_reducible rfl)
                try simp only [Act.put, List.setIfInBounds_toArray, List.set_cons_zero, List.set_cons_succ]
                refine quiet_take (v := ?l3bv3) hL9 (by kernel_rfl) (fun wq hwq => ?l3by3) (fun L9 hL9 => ?l3br3)
                case l3by3 => (go_simp; try with_reducible rfl)
                try simp only [Act.put, List.setIfInBounds_toArray, List.set_cons_zero, List.set_cons_succ]
                refine quiet_take (v := ?l3bv4) hL9 (by kernel_rfl) (fun wq hwq => ?l3by4) (fun L9 hL9 => ?l3br4)
                case l3by4 => (go_simp; try with_reducible rfl)
                try simp only [Act.put, List.setIfInBounds_toArray, List.set_cons_zero, List.set_cons_succ]
                refine quiet_take (v := .agg #[.slice pa pn pc, .slice qa qn qc]) hL9 (by kernel_rfl) (fun wq hwq => ?l3by5) (fun L9 hL9 => ?l3br5)
                case l3by5 => (obtain ⟨z0, z1, z2, z3⟩ := HEL.out wq hwq; go_simp; try with_reducible rfl)
                try simp only [Act.put, List.setIfInBounds_toArray, List.set_cons_zero, List.set_cons_succ]
                refine quiet_take (v := .bool true) hL9 (by kernel_rfl) (fun wq hwq => ?l3by6) (fun L9 hL9 => ?l3br6)
                case l3by6 => (go_simp; go_at_call 112; exact HFN.out wq hwq)
                try simp only [Act.put, List.setIfInBounds_toArray, List.set_cons_zero, List.set_cons_succ]
                refine quiet_nil hL9 ?_
                clear hL9
                intro wy hOy
                have HF := Lib.hid (HJ2.out rfl)
                have hOz := Lib.hid (HO.out.trans hOy)
                clear hOy
                go_wp2
                go_roundw
                case rel => exact ⟨i + 1, by omega, by simp, HF, hOz⟩
                case measure => simp [intOf]; omega
            · obtain rfl : S.perms.length = i := by omega
              have HA3 := Lib.hid (HYES3.out HJ.out)
              have HOY := HO
              clear HJ
              go_wp2_with fail
              clear s0 s1 s2 s3 s4 s5 s6 s7
              go_loopw [6] (fun vi wr => ∃ i : Nat, i ≤ S.looks.length ∧ vi = .int .i64 (i : Int) ∧ Hid (∀ j, j < i → lkB S (S.looks.getD j zLk) = true) ∧ Hid (On W0 wr)) (fun vi _ => S.looks.length - (intOf vi).toNat)
              case atStart => exact ⟨0, Nat.zero_le _, rfl, Lib.hid (fun j hj => absurd hj (Nat.not_lt_zero _)), HOY⟩
              case round =>
                rename World => wr
                obtain ⟨i, hi, rfl, HJ, HO⟩ := hrel
                obtain ⟨s0, s1, s2, s3, s4, s5, s6, s7⟩ := HSY0.out wr HO.out
                by_cases hlt : i < S.looks.length
                · have hlt' : (i : Int) < (S.looks.length : Int) := by omega
                  have HRW := HR.out.on HO.out
                  have HJ2 : Hid (lkB S (S.looks.getD i zLk) = true → ∀ j, j < i + 1 → lkB S (S.looks.getD j zLk) = true) := fun h j hj => by
                    by_cases e : j = i
                    · rw [e]; exact h
                    · exact HJ.out j (by omega)
                  have HN := Lib.hid (HNO4.out i hlt)
                  have HSY : Hid (∀ wq, On wr wq → _) := fun wq h => HSY0.out wq (HO.out.trans h)
                  clear HJ
                  obtain ⟨eb, eo, rfl, u, u2, d0, d1, d2, d3, d4, d5, d6⟩ := HRW.2.2.2.2.cells i hlt
                  obtain ⟨au, cu, rfl⟩ := d5.shape
                  obtain ⟨av, cv, rfl⟩ := d6.shape
                  have HEL : Hid (∀ wq, On wr wq → wq.cell? ⟨eb, eo + i * 4, none⟩ = some (.slice au (S.looks.getD i zLk).tu.length cu) ∧ wq.cell? ⟨eb, eo + i * 4 + 1, none⟩ = some (.slice av (S.looks.getD i zLk).ta.length cv) ∧ wq.cell? ⟨eb, eo + i * 4 + 2, none⟩ = some (.int .u8 (S.looks.getD i zLk).ct.1) ∧ wq.cell? ⟨eb, eo + i * 4 + 3, none⟩ = some (.int .i64 (S.looks.getD i zLk).ct.2)) := fun wq h => ⟨cell_on h d0, cell_on h d1, cell_on h d2, cell_on h d3⟩
                  have HFN : Hid (∀ wq, On wr wq → Calls Tryd.prog 113 #[syA S ⟨a1, a2, a3, some ⟨eb, eo, none⟩, k1, k2, k3, k4⟩, .agg #[.slice au (S.looks.getD i zLk).tu.length cu, .slice av (S.looks.getD i zLk).ta.length cv, .int .u8 (S.looks.getD i zLk).ct.1, .int .i64 (S.looks.getD i zLk).ct.2]] wq fun e w' => e = .returned (.bool (lkB S (S.looks.getD i zLk))) ∧ On wr w') := fun wq h => (rlookup_any S _ (S.looks.getD i zLk) au av cu cv wq h.tab (d5.on h) (d6.on h)).mono fun e w' ⟨he, ho⟩ => ⟨he, h.trans ho⟩
                  clear d0 d1 d2 d3 d4 d5 d6 HRW
                  generalize lkB S (S.looks.getD i zLk) = BB at *
                  generalize (S.looks.getD i zLk).tu.length = tn at *
                  generalize (S.looks.getD i zLk).ta.length = sn at *
                  generalize (S.looks.getD i zLk).ct.1 = lk at *
                  generalize (S.looks.getD i zLk).ct.2 = li at *
                  go_upto_region 23 with fail
                  clear s0 s1 s2 s3 s4 s5 s6 s7
                  cases BB with
                  | false =>
                    refine region_keep_tail (fun wq => On wr wq) 7 (by kernel_rfl) (by kernel_rfl) (On.refl HO.out.tab).drew ?_
                    simp only [List.take_succ_cons, List.take_zero, List.drop_succ_cons, List.drop_zero]
                    refine quiet_start fun L9 hL9 => ?_
                    refine quiet_take (v := syA S ⟨a1, a2, a3, some ⟨eb, eo, none⟩, k1, k2, k3, k4⟩) hL9 (by kernel_rfl) (fun wq hwq => ?l4ay0) (fun L9 hL9 => ?l4ar0)
                    case l4ay0 => (obtain ⟨s0, s1, s2, s3, s4, s5, s6, s7⟩ := HSY.out wq hwq; go_simp; try with_reducible rfl)
                    try simp only [Act.put, List.setIfInBounds_toArray, List.set_cons_zero, List.set_cons_succ]
                    refine quiet_take (v := ?l4av1) hL9 (by kernel_rfl) (fun wq hwq => ?l4ay1) (fun L9 hL9 => ?l4ar1)
                    case l4ay1 => (go_simp; try with_reducible rfl)
                    try simp only [Act.put, List.setIfInBounds_toArray, List.set_cons_zero, List.set_cons_succ]
                    refine quiet_take (v := .slice (some ⟨eb, eo, none⟩) S.looks.length k4) hL9 (by kernel_rfl) (fun wq hwq => ?l4ay2) (fun L9 hL9 => ?l4ar2)
                    case l4ay2 => (obtain ⟨s0, s1, s2, s3, s4, s5, s6, s7⟩ := HSY.out wq hwq; go_simp; try with_reducible rfl)
                    try simp only [Act.put, List.setIfInBounds_toArray, List.set_cons_zero, List.set_cons_succ]
                    refine quiet_take (v := ?l4av3) hL9 (by kernel_rfl) (fun wq hwq => ?l4ay3) (fun L9 hL9 => ?l4ar3)
                    case l4ay3 => (go_simp; try with_reducible rfl)
                    try simp only [Act.put, List.setIfInBounds_toArray, List.set_cons_zero, List.set_cons_succ]
                    refine quiet_take (v := ?l4av4) hL9 (by kernel_rfl) (fun wq hwq => ?l4ay4) (fun L9 hL9 => ?l4ar4)
                    case l4ay4 => (go_simp; try with_reducible rfl)
                    try simp only [Act.put, List.setIfInBounds_toArray, List.set_cons_zero, List.set_cons_succ]
                    refine quiet_take (v := .agg #[.slice au tn cu, .slice av sn cv, .int .u8 lk, .int .i64 li]) hL9 (by kernel_rfl) (fun wq hwq => ?l4ay5) (fun L9 hL9 => ?l4ar5)
                    case l4ay5 => (obtain ⟨z0, z1, z2, z3⟩ := HEL.out wq hwq; go_simp; try with_reducible rfl)
                    try simp only [Act.put, List.setIfInBounds_toArray, List.set_cons_zero, List.set_cons_succ]
                    refine quiet_take (v := .bool false) hL9 (by kernel_rfl) (fun wq hwq => ?l4ay6) (fun L9 hL9 => ?l4ar6)
                    case l4ay6 => (go_simp; go_at_call 113; exact HFN.out wq hwq)
                    try simp only [Act.put, List.setIfInBounds_toArray, List.set_cons_zero, List.set_cons_succ]
                    refine quiet_nil hL9 ?_
                    clear hL9
                    intro wy hOy
                    have HF := Lib.hid (HN.out rfl)
                    have hOz := HO0.out.trans (HO.out.trans hOy)
                    go_wp2
                    go_ret
                    exact ⟨by simp [HF.out, HA1.out, HA2.out, HA3.out], hOz⟩
                  | true =>
                    refine region_keep_tail (fun wq => On wr wq) 7 (by kernel_rfl) (by kernel_rfl) (On.refl HO.out.tab).drew ?_
                    simp only [List.take_succ_cons, List.take_zero, List.drop_succ_cons, List.drop_zero]
                    refine quiet_start fun L9 hL9 => ?_
                    refine quiet_take (v := syA S ⟨a1, a2, a3, some ⟨eb, eo, none⟩, k1, k2, k3, k4⟩) hL9 (by kernel_rfl) (fun wq hwq => ?l4by0) (fun L9 hL9 => ?l4br0)
                    case l4by0 => (obtain ⟨s0, s1, s2, s3, s4, s5, s6, s7⟩ := HSY.out wq hwq; go_simp; try with_reducible rfl)
                    try simp only [Act.put, List.setIfInBounds_toArray, List.set_cons_zero, List.set_cons_succ]
                    refine quiet_take (v := ?l4bv1) hL9 (by kernel_rfl) (fun wq hwq => ?l4by1) (fun L9 hL9 => ?l4br1)
                    case l4by1 => (go_simp; try with_reducible rfl)
                    try simp only [Act.put, List.setIfInBounds_toArray, List.set_cons_zero, List.set_cons_succ]
                    refine quiet_take (v := .slice (some ⟨eb, eo, none⟩) S.looks.length k4) hL9 (by kernel_rfl) (fun wq hwq => ?l4by2) (fun L9 hL9 => ?l4br2)
                    case l4by2 => (obtain ⟨s0, s1, s2, s3, s4, s5, s6, s7⟩ := HSY.out wq hwq; go_simp; try with_reducible rfl)
                    try simp only [Act.put, List.setIfInBounds_toArray, List.set_cons_zero, List.set_cons_succ]
                    refine quiet_take (v := ?l4bv3) hL9 (by kernel_rfl) (fun wq hwq => ?l4by3) (fun L9 hL9 => ?l4br3)
                    case l4by3 => (go_simp; try with_reducible rfl)
                    try simp only [Act.put, List.setIfInBounds_toArray, List.set_cons_zero, List.set_cons_succ]
                    refine quiet_take (v := ?l4bv4) hL9 (by kernel_rfl) (fun wq hwq => ?l4by4) (fun L9 hL9 => ?l4br4)
                    case l4by4 => (go_simp; try with_reducible rfl)
                    try simp only [Act.put, List.setIfInBounds_toArray, List.set_cons_zero, List.set_cons_succ]
                    refine quiet_take (v := .agg #[.slice au tn cu, .slice av sn cv, .int .u8 lk, .int .i64 li]) hL9 (by kernel_rfl) (fun wq hwq => ?l4by5) (fun L9 hL9 => ?l4br5)
                    case l4by5 => (obtain ⟨z0, z1, z2, z3⟩ := HEL.out wq hwq; go_simp; try with_reducible rfl)
                    try simp only [Act.put, List.setIfInBounds_toArray, List.set_cons_zero, List.set_cons_succ]
                    refine quiet_take (v := .bool true) hL9 (by kernel_rfl) (fun wq hwq => ?l4by6) (fun L9 hL9 => ?l4br6)
                    case l4by6 => (go_simp; go_at_call 113; exact HFN.out wq hwq)
                    try simp only [Act.put, List.setIfInBounds_toArray, List.set_cons_zero, List.set_cons_succ]
                    refine quiet_nil hL9 ?_
                    clear hL9
                    intro wy hOy
                    have HF := Lib.hid (HJ2.out rfl)
                    have hOz := Lib.hid (HO.out.trans hOy)
                    clear hOy
                    go_wp2
                    go_roundw
                    case rel => exact ⟨i + 1, by omega, by simp, HF, hOz⟩
                    case measure => simp [intOf]; omega
                · obtain rfl : S.looks.length = i := by omega
                  have HA4 := Lib.hid (HYES4.out HJ.out)
                  have HOY := HO
                  clear HJ
                  go_wp2
                  go_ret
                  exact ⟨by simp [HA1.out, HA2.out, HA3.out, HA4.out], HO0.out.trans HO.out⟩
theorem rvalid13_any (S : Sy) (H : Sh) (w : World) (hT : Tab w) (hR : SyR w H S) :
    Calls Tryd.prog 55 #[syA S H] w fun e w' => e = .returned (.bool (valSy S)) ∧ On w w' := by
  cases hs : szS S with
  | false =>
    have e : valSy S = false := by unfold valSy; rw [hs]; rfl
    exact rvalid13_no S H w hT hs
  | true =>
    have e : valSy S = loopsB S := by unfold valSy loopsB; rw [hs]; rfl
    rw [e]
    obtain ⟨a1, a2, a3, a4, k1, k2, k3, k4⟩ := H
    exact rvalid13_yes S a1 a2 a3 a4 k1 k2 k3 k4 w hT hs hR
end Go.Proofs.YtnanjacllmdenaaDoor

/- Package system: across, Clone: what the calls return. -/
namespace Go.Proofs.YtnanjacllmdenaaDoor
open Go.RowKit Go.Lib
set_option linter.unusedVariables false

theorem info_u64z : (Tryd.prog.info? 42).map (fun i => (i.zero, i.size, i.bytes)) = some (some (.int .u64 0), 1, 8) := by kernel_rfl
abbrev u64s (l : List Nat) : List Value := l.map fun x => .int .u64 ((x : Nat) : Int)
/-- The block of a slice holds numbers. -/
def KU (w : World) (v : Value) : Prop := ∀ b o n c, v = .slice (some ⟨b, o, none⟩) n c → 0 < n → ∃ cur fz, w.heap[b]? = some (.cells cur 42 fz)
theorem KU.on {w w' : World} {v : Value} (h : KU w v) (k : On w w') : KU w' v := fun b o n c e hn => by
  obtain ⟨cur, fz, hb⟩ := h b o n c e hn
  have hlt : b < w.heap.size := by
    rcases Nat.lt_or_ge b w.heap.size with h | h
    · exact h
    · rw [Array.getElem?_eq_none h] at hb; cases hb
  exact ⟨cur, fz, (k.2.block b hlt).trans hb⟩
theorem KU.nil (w : World) (a : Option Addr) (c : Nat) : KU w (.slice a 0 c) := fun b o n c' e hn => by
  simp only [Value.slice.injEq] at e; omega
/-- A slice of numbers that stands while another row grows. -/
def NR (w : World) (v : Value) (l : List Nat) : Prop := Reads w v l ∧ KU w v
theorem NR.on {w w' : World} {v : Value} {l : List Nat} (h : NR w v l) (k : On w w') : NR w' v l := ⟨h.1.on k, h.2.on k⟩
theorem NR.gb {w w' : World} {v : Value} {l : List Nat} {row : Option Nat} (h : NR w v l) (hg : w.grownBy w' row) (hr : ∀ r, row = some r → ∀ cur fz, w.heap[r]? ≠ some (.cells cur 42 fz)) : NR w' v l := by
  have key : ∀ b o n c, v = .slice (some ⟨b, o, none⟩) n c → 0 < n → w'.heap[b]? = w.heap[b]? := fun b o n c e hn => by
    obtain ⟨cur, fz, hb⟩ := h.2 b o n c e hn
    have hlt : b < w.heap.size := by
      rcases Nat.lt_or_ge b w.heap.size with h | h
      · exact h
      · rw [Array.getElem?_eq_none h] at hb; cases hb
    exact hg.block b hlt (fun e2 => hr b e2.symm cur fz hb)
  refine ⟨?_, fun b o n c e hn => ?_⟩
  · obtain ⟨hU, hL, h1 | ⟨b, off, cap, rfl, hc⟩⟩ := h.1
    · exact ⟨hU, hL, .inl h1⟩
    · exact ⟨hU, hL, .inr ⟨b, off, cap, rfl, fun i hi => (World.cell?_of_block (a := ⟨b, off + i, none⟩) (key b off _ cap rfl (by omega))).trans (hc i hi)⟩⟩
  · obtain ⟨cur, fz, hb⟩ := h.2 b o n c e hn
    exact ⟨cur, fz, (key b o n c e hn).trans hb⟩
theorem NR.nil (w : World) : NR w (.slice none 0 0) [] := ⟨⟨by simp, by simp, .inl ⟨rfl, none, 0, rfl⟩⟩, KU.nil w _ _⟩
theorem own_nr {w : World} {B n : Nat} {v : Value} {l : List Nat} (h : w.ownsRow B 42 1 v n (u64s l)) (hU : ∀ x ∈ l, x ≤ 18446744073709551615) (hn : n ≤ 9223372036854775807) : NR w v l := by
  have hl : l.length = n := by have := h.1; simp at this; omega
  have hr : SLd 0 1 (fun w b o (x : Nat) => w.cell? ⟨b, o, none⟩ = some (.int .u64 ((x : Nat) : Int))) w v l := own_sld (0 : Nat) _ h hl hn fun g i u hi hu hc => by
    have hi' : i < l.length := by omega
    rw [List.getElem?_map, List.getElem?_eq_getElem hi'] at hu
    simp only [Option.map_some, Option.some.injEq] at hu
    rw [hc, ← hu, List.getD_eq_getElem?_getD, List.getElem?_eq_getElem hi']; rfl
  refine ⟨⟨hU, by omega, ?_⟩, fun b o m c e hm => ?_⟩
  · obtain ⟨_, h1 | ⟨b, off, cap, rfl, hc⟩⟩ := hr
    · exact .inl h1
    · exact .inr ⟨b, off, cap, rfl, fun i hi => by have := hc i hi; simpa using this⟩
  · rcases h.2 with ⟨e1, h0⟩ | ⟨g, cap, cur, e1, hb, hg, _⟩
    · rw [e1] at e; simp at e
    · rw [e1] at e
      simp only [Value.slice.injEq, Option.some.injEq, Addr.mk.injEq, and_true] at e
      obtain ⟨⟨rfl, _⟩, _⟩ := e
      exact ⟨cur, _, hg⟩
/-- The slice lies in memory from n0 on. -/
def FrB (n0 : Nat) (v : Value) : Prop := ∀ b o n c, v = .slice (some ⟨b, o, none⟩) n c → n0 ≤ b
theorem FrB.nil (n0 : Nat) : FrB n0 (.slice none 0 0) := fun b o n c e => by simp at e
theorem FrB.off {n0 X : Nat} {v : Value} (h : FrB n0 v) (hX : X < n0) : Off X v := fun b o n c e _ => by have := h b o n c e; omega
theorem own_frb {w : World} {B k n : Nat} {e : TypeId} {v : Value} {xs : List Value} (h : w.ownsRow B e k v n xs) : FrB B v := fun b o m c e1 => by
  subst e1
  exact ownsRow_below h b rfl
theorem NR.ap {w w' : World} {v : Value} {l : List Nat} {B : Nat} (h : NR w v l) (hW : Ap B w w') (hB : Off B v) : NR w' v l := by
  refine ⟨h.1.ap hW hB, fun b o n c e hn => ?_⟩
  obtain ⟨cur, fz, hb⟩ := h.2 b o n c e hn
  have hlt : b < w.heap.size := by
    rcases Nat.lt_or_ge b w.heap.size with h | h
    · exact h
    · rw [Array.getElem?_eq_none h] at hb; cases hb
  exact ⟨cur, fz, (hW.block b hlt (by simpa using hB b o n c e hn)).trans hb⟩
/-- One more number. -/
theorem app_u64 {B : Nat} {w : World} {v : Value} {n : Nat} {xs : List Value} (hown : w.ownsRow B 42 1 v n xs) (hB : B ≤ w.heap.size) (x : Int) (hl : n ≤ 1000000) :
    ∃ v' w', (∀ ty, (Builtin.append_ #[28, 28] ty #[v, .slice (some ⟨w.heap.size, 0, none⟩) 1 1]).run Tryd.prog (w.alloc (.cells #[.int .u64 x] 42)) = .ok v' w') ∧ w'.ownsRow B 42 1 v' (n + 1) (xs ++ [.int .u64 x]) ∧
      ∀ W, On W w → W.heap.size ≤ B → On W w' := by
  obtain ⟨i0, hi, hz0, hz1, hz2⟩ := info_parts info_u64z
  have hb2 := vb_new w #[.int .u64 x] 42
  obtain ⟨v', w', hrun, hown', hg, hloc⟩ := append_cells (P := Tryd.prog) (w.alloc (.cells #[.int .u64 x] 42)) B 28 42 i0 (.int .u64 0) 1 8 Tryd.underlying28 hi hz0 hz1 hz2 rfl (by omega) v n xs (hown.alloc _) (some ⟨w.heap.size, 0, none⟩) 1 1 [.int .u64 x] rfl
    (fun _ => ⟨_, rfl, fun j u hj => by
      obtain rfl : j = 0 := by
        have := (List.getElem?_eq_some_iff.1 hj).1; simp at this; omega
      simp only [List.getElem?_cons_zero, Option.some.injEq] at hj
      subst hj
      exact hb2.2.1 0 _ rfl⟩) (by intro u hu; simp at hu; subst hu; rfl) (by unfold maxLen; omega) (by omega) (by simp; omega)
  exact ⟨v', w', hrun, hown', fun W hW hWB => (hW.alloc _).gbv hg (fun r hr => Nat.le_trans hWB (ownsRow_below hown r hr))⟩
/-- A row of columns. -/
def acrS (cols : List (List Nat)) (row : Nat) : List Nat := cols.map fun c => c.getD row 0
theorem acrS_snoc (cols : List (List Nat)) (row k : Nat) (h : k < cols.length) : u64s (acrS (cols.take (k + 1)) row) = u64s (acrS (cols.take k) row) ++ [.int .u64 (((cols.getD k []).getD row 0 : Nat) : Int)] := by
  unfold acrS u64s
  rw [take_snoc_m cols [] k h, List.map_append, List.map_append]; rfl
set_option maxHeartbeats 1000000 in
theorem across_any (cols : List (List Nat)) (v : Value) (row : Nat) (w : World) (hT : Tab w) (hV : ColL w v cols) (hr : ∀ j, j < cols.length → row < (cols.getD j []).length) (hm : cols.length ≤ 1000) :
    Calls Tryd.prog 89 #[v, .int .i64 (row : Int)] w fun e w' => (∃ u, e = .returned u ∧ NR w' u (acrS cols row) ∧ FrB w.heap.size u) ∧ On w w' := by
  obtain ⟨a, cap, rfl⟩ := hV.shape
  have HC : Hid (∀ i, i < cols.length → ∃ b off ca cc bb oo, a = some ⟨b, off, none⟩ ∧ w.cell? ⟨b, off + i, none⟩ = some (.slice ca (cols.getD i []).length cc) ∧ ca = some ⟨bb, oo, none⟩ ∧ w.cell? ⟨bb, oo + row, none⟩ = some (.int .u64 (((cols.getD i []).getD row 0 : Nat) : Int)) ∧ (cols.getD i []).getD row 0 ≤ 18446744073709551615) := fun i hi => by
    obtain ⟨b, off, e, u, d0, d1⟩ := hV.cells i hi
    obtain ⟨ca, cc, rfl⟩ := d1.shape
    rw [Nat.mul_one] at d0
    have hlt := hr i hi
    rcases d1.2.2 with ⟨e0, _⟩ | ⟨bb, oo, cap', e0, hc⟩
    · rw [e0] at hlt; simp at hlt
    · simp only [Value.slice.injEq] at e0
      exact ⟨b, off, ca, cc, bb, oo, e, d0, e0.1, hc row hlt, d1.1 _ (getD_mem _ row hlt)⟩
  have HR : Hid (∀ i, i < cols.length → row < (cols.getD i []).length) := hr
  have HS := Lib.hid (fun k h => acrS_snoc cols row k h)
  have HL : Hid (∀ i, i < cols.length → (cols.getD i []).length ≤ 9223372036854775807) := fun i hi => by
    obtain ⟨b, off, e, u, d0, d1⟩ := hV.cells i hi; exact d1.2.1
  have HUU : Hid (∀ x ∈ acrS cols row, x ≤ 18446744073709551615) := fun x hx => by
    obtain ⟨c, hc, rfl⟩ := List.mem_map.1 hx
    obtain ⟨i, hi, rfl⟩ := List.getElem_of_mem hc
    obtain ⟨_, _, _, _, _, _, _, _, _, _, h⟩ := HC.out i hi
    rw [List.getD_eq_getElem?_getD (l := cols), List.getElem?_eq_getElem hi] at h; exact h
  have H0 := Lib.hid (On.refl hT)
  have HTK : Hid (cols.take cols.length = cols) := List.take_length
  obtain ⟨m, hml⟩ : ∃ m, m = cols.length := ⟨_, rfl⟩
  rw [← hml] at HC HR HS HL HTK hm ⊢
  clear hT hV hr hml
  go_enter Tryd.func89, Tryd.ntmps89
  go_wp2_with fail
  go_loopw [5, 10] (fun vo vi wr => ∃ i : Nat, i ≤ m ∧ vi = .int .i64 (i : Int) ∧ Hid (wr.ownsRow w.heap.size 42 1 vo i (u64s (acrS (cols.take i) row))) ∧ Hid (On w wr)) (fun _ vi _ => m - (intOf vi).toNat)
  case atStart => exact ⟨0, Nat.zero_le _, rfl, Lib.hid (World.ownsRow_nil _ _ _ _), H0⟩
  case round =>
    rename World => wr
    obtain ⟨i, hi, rfl, HV, HO⟩ := hrel
    by_cases hlt : i < m
    · have hlt' : (i : Int) < (m : Int) := by omega
      obtain ⟨b, off, ca, cc, bb, oo, rfl, d0, rfl, d1, d2⟩ := HC.out i hlt
      have hrow := HR.out i hlt
      have hcl := HL.out i hlt
      have c0 := cell_on HO.out d0
      have c1 := cell_on HO.out d1
      obtain ⟨v', w', hrun, hown', hOn⟩ := app_u64 HV.out HO.out.size (((cols.getD i []).getD row 0 : Nat) : Int) (by omega)
      rw [← HS.out i hlt] at hown'
      have HV2 := Lib.hid hown'
      have HO2 := Lib.hid (hOn w HO.out (Nat.le_refl _))
      have HRUN := Lib.hid hrun
      clear d0 d1 hown' hOn hrun
      generalize (cols.getD i []).getD row 0 = x at *
      generalize (cols.getD i ([] : List Nat)).length = cl at *
      have hrow' : (row : Int) < (cl : Int) := by omega
      go_wp2_with (at_builtin; refine wp_appendJ rfl (.tmp 14) (.tmp 19) _ _ rfl _ _ v' rfl rfl HRUN.out ?_)
      go_roundw
      case rel => exact ⟨i + 1, by omega, by simp, HV2, HO2⟩
      case measure => simp [intOf]; omega
    · obtain rfl : m = i := by omega
      have HG : Hid (NR wr u5 (acrS cols row) ∧ FrB w.heap.size u5) := by
        have h := HV.out
        rw [HTK.out] at h
        exact Lib.hid ⟨own_nr h HUU.out (by omega), own_frb h⟩
      go_wp2
      go_ret
      exact ⟨⟨_, rfl, HG.out.1, HG.out.2⟩, HO.out⟩
end Go.Proofs.YtnanjacllmdenaaDoor
