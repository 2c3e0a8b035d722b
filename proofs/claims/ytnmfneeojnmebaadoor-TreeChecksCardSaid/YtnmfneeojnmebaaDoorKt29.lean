/- The walk of the law TreeChecks: it returns true. -/
import Derived.Test.YtnmfneeojnmebaaDoorKt24
import Derived.Test.YtnmfneeojnmebaaDoorKt20
import Derived.Test.YtnmfneeojnmebaaDoorKt28
/- The walk of the law TreeChecks: it returns true. -/
namespace Go.Proofs.YtnmfneeojnmebaaDoor
open Go.RowKit
set_option linter.unusedVariables false

theorem DRw.onk {W w : World} {v : Value} {l : List Dg} (h : DRw W v l) (hW : On W w) : DRw w v l := by
  obtain ⟨hU, hL, h1 | ⟨b, off, cap, rfl, hc⟩⟩ := h
  · exact ⟨hU, hL, .inl h1⟩
  · refine ⟨hU, hL, .inr ⟨b, off, cap, rfl, fun i hi => ?_⟩⟩
    have c := hc i hi
    rw [hW.2.cell (p := ⟨b, off + i * 2, none⟩) (cell_size c.1), hW.2.cell (p := ⟨b, off + i * 2 + 1, none⟩) (cell_size c.2)]
    exact c
theorem take_sm {l : List Dg} (h : ∀ t, t < l.length → SmD (l.getD t zD)) (n : Nat) : ∀ j, j < (l.take n).length → SmD ((l.take n).getD j zD) := fun j hj => by
  rw [List.length_take] at hj
  have e : (l.take n).getD j zD = l.getD j zD := by rw [List.getD_eq_getElem?_getD, List.getD_eq_getElem?_getD, List.getElem?_take, if_pos (by omega)]
  rw [e]; exact h j (by omega)
set_option maxHeartbeats 4000000 in
set_option maxRecDepth 100000 in
theorem checks_any (f : Int) (cl : List Dg) (cv : Value) (i : Int) (x : Dg) (pl : List Dg) (pv : Value) (w : World) (hT : TZ w) (hC : DRw w cv cl) (hCS : ShapeD cv cl) (hi : i ≤ 9223372036854775807) (hx : SmD x) (hP : DRw w pv pl) (hPS : ShapeD pv pl) :
    Calls Tryd.prog 5 #[.int .i64 f, cv, .int .i64 i, dgV x, pv] w fun e w' => e = .returned (.bool true) ∧ On w w' := by
  have HTZ := Lib.hid hT
  have HSX := Lib.hid hx
  have HI := Lib.hid hi
  obtain ⟨cp, hcp⟩ : ∃ cp, cp = cl.take 70 := ⟨_, rfl⟩
  obtain ⟨p, hp⟩ : ∃ p, p = pl.take 20 := ⟨_, rfl⟩
  have HCUT1 : Hid (∀ u, On w u → Calls Tryd.prog 12 #[cv, .int .i64 70] u fun e w' => (∃ v', e = .returned v' ∧ OD u.heap.size w' v' cp) ∧ On u w') := fun u hu => by rw [hcp]; exact cutw_any cl 70 cv u hu.tab (hC.onk hu) hCS (by decide)
  have HCUT2 : Hid (∀ u, On w u → Calls Tryd.prog 12 #[pv, .int .i64 20] u fun e w' => (∃ v', e = .returned v' ∧ OD u.heap.size w' v' p) ∧ On u w') := fun u hu => by rw [hp]; exact cutw_any pl 20 pv u hu.tab (hP.onk hu) hPS (by decide)
  have HLC : Hid (cp.length ≤ 4611686018427387903) := by refine Lib.hid ?_; rw [hcp, List.length_take]; omega
  have HLP : Hid (p.length ≤ 4611686018427387903) := by refine Lib.hid ?_; rw [hp, List.length_take]; omega
  have HSC : Hid (∀ j, j < cp.length → SmD (cp.getD j zD)) := by rw [hcp]; exact take_sm hC.1 70
  have HSP : Hid (∀ j, j < p.length → SmD (p.getD j zD)) := by rw [hp]; exact take_sm hP.1 20
  obtain ⟨W0, hW0⟩ : ∃ W0, W0 = w.alloc (.cells #[.int .u64 ((x.1 : Nat) : Int), .int .u64 ((x.2 : Nat) : Int)] 36) := ⟨_, rfl⟩
  have HO : Hid (On w W0) := by rw [hW0]; exact (On.refl hT.1).alloc _
  have HB0 : Hid (Blk w.heap.size W0 [x.1, x.2]) := by rw [hW0]; exact blk_new2 w _ _ _
  have HW0 := Lib.hid hW0
  obtain ⟨x0, x1⟩ := HB0.out.cells2
  obtain ⟨ca0, cc0, rfl, hc1, hc2, hc3⟩ := hCS
  obtain ⟨pa0, pc0, rfl, hp1, hp2, hp3⟩ := hPS
  clear hT hC hP hcp hp hW0 hi hx hc1 hc2 hc3 hp1 hp2 hp3
  go_enter Tryd.func5, Tryd.ntmps5
  go_upto_region 1 with fail
  rw [← HW0.out]
  go_wp2_with fail
  with_reducible refine (HCUT1.out _ HO.out).mono ?_
  rintro e w1 ⟨⟨v1, rfl, hD1⟩, hO1⟩
  obtain ⟨ca, cc, rfl⟩ := hD1.shape
  have HD1 := Lib.hid (hD1.dr HSC.out HLC.out)
  have HO1 := Lib.hid (HO.out.trans hO1)
  have HB1 := Lib.hid (HB0.out.on hO1)
  clear hO1 hD1 x0 x1
  obtain ⟨x0, x1⟩ := HB1.out.cells2
  go_wp2_with fail
  with_reducible refine (HCUT2.out _ HO1.out).mono ?_
  rintro e u ⟨⟨v2, rfl, hD2⟩, hO2⟩
  obtain ⟨pa, pc, rfl⟩ := hD2.shape
  have HP := Lib.hid (hD2.dr HSP.out HLP.out)
  have HC := Lib.hid (HD1.out.on hO2)
  have HO2 := Lib.hid (HO1.out.trans hO2)
  have HB := Lib.hid (HB1.out.on hO2)
  clear hO2 hD2 x0 x1
  clear HB0 HB1 HD1 HO1 HO HCUT1 HCUT2
  go_upto_region 2 with fail
  have HTU := Lib.hid (HTZ.out.on HO2.out)
  obtain ⟨Y, hY⟩ : ∃ Y, Y = climbV f i x p := ⟨_, rfl⟩
  have HYs : Hid (SmD Y) := by rw [hY]; exact climbV_sm _ _ _ _ HSX.out
  have HQ : Hid (∀ w, (Op.equalIn 10000 36 (dgV Y) (dgV Y)).run Tryd.prog w = .ok true w) := fun w => by rw [eq_dg, decide_eq_true rfl]
  have HC1 : Hid (∀ wq, On u wq → Calls Tryd.prog 27 #[.int .i64 f, .int .i64 i, dgV x, .slice pa p.length pc] wq fun e w' => e = .returned (dgV Y) ∧ On u w') := fun wq h => by rw [hY]; exact (climb_any f i x p _ wq (h.tab) HSX.out (HP.out.on h) HI.out).mono fun e w' ⟨he, ho⟩ => ⟨he, h.trans ho⟩
  have HC2 : Hid (∀ wq, On u wq → Calls Tryd.prog 28 #[.int .i64 f, .int .i64 i, dgV x, .slice pa p.length pc] wq fun e w' => e = .returned (dgV Y) ∧ On u w') := fun wq h => by rw [hY]; exact (rclimb_any f i x p _ wq (h.tab) HSX.out (HP.out.on h) HI.out).mono fun e w' ⟨he, ho⟩ => ⟨he, h.trans ho⟩
  obtain ⟨C, hCe⟩ : ∃ C, C = checkB f cp i x p := ⟨_, rfl⟩
  have HC3 : Hid (∀ wq, On u wq → Calls Tryd.prog 29 #[.int .i64 f, .slice ca cp.length cc, .int .i64 i, dgV x, .slice pa p.length pc] wq fun e w' => e = .returned (.bool C) ∧ On u w') := fun wq h => by rw [hCe]; exact (check_any f cp _ i x p _ wq (HTU.out.on h) (HC.out.on h) HSX.out (HP.out.on h) HI.out).mono fun e w' ⟨he, ho⟩ => ⟨he, h.trans ho⟩
  have HC4 : Hid (∀ wq, On u wq → Calls Tryd.prog 30 #[.int .i64 f, .slice ca cp.length cc, .int .i64 i, dgV x, .slice pa p.length pc] wq fun e w' => e = .returned (.bool C) ∧ On u w') := fun wq h => by rw [hCe]; exact (rcheck_any f cp _ i x p _ wq h.tab (HC.out.on h) HSX.out (HP.out.on h) HI.out).mono fun e w' ⟨he, ho⟩ => ⟨he, h.trans ho⟩
  have HK : Hid (∀ wq, On u wq → _) := fun wq hq => ((HB.out.on hq).cells2)
  clear hY hCe
  refine region_keep_tail (fun wq => On u wq) 25 (by kernel_rfl) (by kernel_rfl) (On.refl HO2.out.tab).drew ?_
  simp only [List.take_succ_cons, List.take_zero, List.drop_succ_cons, List.drop_zero]
  refine quiet_start fun L9 hL9 => ?_
  refine quiet_take (v := ?kv0) hL9 (by kernel_rfl) (fun wq hwq => ?ky0) (fun L9 hL9 => ?kr0)
  case ky0 => (go_simp; try with_reducible rfl)
  try simp only [Act.put, List.setIfInBounds_toArray, List.set_cons_zero, List.set_cons_succ]
  refine quiet_take (v := ?kv1) hL9 (by kernel_rfl) (fun wq hwq => ?ky1) (fun L9 hL9 => ?kr1)
  case ky1 => (go_simp; try with_reducible rfl)
  try simp only [Act.put, List.setIfInBounds_toArray, List.set_cons_zero, List.set_cons_succ]
  refine quiet_take (v := dgV x) hL9 (by kernel_rfl) (fun wq hwq => ?ky2) (fun L9 hL9 => ?kr2)
  case ky2 => (obtain ⟨x0, x1⟩ := HK.out wq hwq; go_simp; try with_reducible rfl)
  try simp only [Act.put, List.setIfInBounds_toArray, List.set_cons_zero, List.set_cons_succ]
  refine quiet_take (v := ?kv3) hL9 (by kernel_rfl) (fun wq hwq => ?ky3) (fun L9 hL9 => ?kr3)
  case ky3 => (go_simp; try with_reducible rfl)
  try simp only [Act.put, List.setIfInBounds_toArray, List.set_cons_zero, List.set_cons_succ]
  refine quiet_take (v := dgV Y) hL9 (by kernel_rfl) (fun wq hwq => ?ky4) (fun L9 hL9 => ?kr4)
  case ky4 => (go_simp; go_at_call 27; exact HC1.out wq hwq)
  try simp only [Act.put, List.setIfInBounds_toArray, List.set_cons_zero, List.set_cons_succ]
  refine quiet_take (v := ?kv5) hL9 (by kernel_rfl) (fun wq hwq => ?ky5) (fun L9 hL9 => ?kr5)
  case ky5 => (go_simp; try with_reducible rfl)
  try simp only [Act.put, List.setIfInBounds_toArray, List.set_cons_zero, List.set_cons_succ]
  refine quiet_take (v := ?kv6) hL9 (by kernel_rfl) (fun wq hwq => ?ky6) (fun L9 hL9 => ?kr6)
  case ky6 => (go_simp; try with_reducible rfl)
  try simp only [Act.put, List.setIfInBounds_toArray, List.set_cons_zero, List.set_cons_succ]
  refine quiet_take (v := dgV x) hL9 (by kernel_rfl) (fun wq hwq => ?ky7) (fun L9 hL9 => ?kr7)
  case ky7 => (obtain ⟨x0, x1⟩ := HK.out wq hwq; go_simp; try with_reducible rfl)
  try simp only [Act.put, List.setIfInBounds_toArray, List.set_cons_zero, List.set_cons_succ]
  refine quiet_take (v := ?kv8) hL9 (by kernel_rfl) (fun wq hwq => ?ky8) (fun L9 hL9 => ?kr8)
  case ky8 => (go_simp; try with_reducible rfl)
  try simp only [Act.put, List.setIfInBounds_toArray, List.set_cons_zero, List.set_cons_succ]
  refine quiet_take (v := dgV Y) hL9 (by kernel_rfl) (fun wq hwq => ?ky9) (fun L9 hL9 => ?kr9)
  case ky9 => (go_simp; go_at_call 28; exact HC2.out wq hwq)
  try simp only [Act.put, List.setIfInBounds_toArray, List.set_cons_zero, List.set_cons_succ]
  refine quiet_take (v := .bool false) hL9 (by kernel_rfl) (fun wq hwq => ?ky10) (fun L9 hL9 => ?kr10)
  case ky10 => (have hq := HQ.out; go_simp; try with_reducible rfl)
  try simp only [Act.put, List.setIfInBounds_toArray, List.set_cons_zero, List.set_cons_succ]
  refine quiet_take (v := .bool false) hL9 (by kernel_rfl) (fun wq hwq => ?ky11) (fun L9 hL9 => ?kr11)
  case ky11 => (go_simp; try with_reducible rfl)
  try simp only [Act.put, List.setIfInBounds_toArray, List.set_cons_zero, List.set_cons_succ]
  refine quiet_take (v := ?kv12) hL9 (by kernel_rfl) (fun wq hwq => ?ky12) (fun L9 hL9 => ?kr12)
  case ky12 => (go_simp; try with_reducible rfl)
  try simp only [Act.put, List.setIfInBounds_toArray, List.set_cons_zero, List.set_cons_succ]
  refine quiet_take (v := ?kv13) hL9 (by kernel_rfl) (fun wq hwq => ?ky13) (fun L9 hL9 => ?kr13)
  case ky13 => (go_simp; try with_reducible rfl)
  try simp only [Act.put, List.setIfInBounds_toArray, List.set_cons_zero, List.set_cons_succ]
  refine quiet_take (v := ?kv14) hL9 (by kernel_rfl) (fun wq hwq => ?ky14) (fun L9 hL9 => ?kr14)
  case ky14 => (go_simp; try with_reducible rfl)
  try simp only [Act.put, List.setIfInBounds_toArray, List.set_cons_zero, List.set_cons_succ]
  refine quiet_take (v := dgV x) hL9 (by kernel_rfl) (fun wq hwq => ?ky15) (fun L9 hL9 => ?kr15)
  case ky15 => (obtain ⟨x0, x1⟩ := HK.out wq hwq; go_simp; try with_reducible rfl)
  try simp only [Act.put, List.setIfInBounds_toArray, List.set_cons_zero, List.set_cons_succ]
  refine quiet_take (v := ?kv16) hL9 (by kernel_rfl) (fun wq hwq => ?ky16) (fun L9 hL9 => ?kr16)
  case ky16 => (go_simp; try with_reducible rfl)
  try simp only [Act.put, List.setIfInBounds_toArray, List.set_cons_zero, List.set_cons_succ]
  refine quiet_take (v := .bool C) hL9 (by kernel_rfl) (fun wq hwq => ?ky17) (fun L9 hL9 => ?kr17)
  case ky17 => (go_simp; go_at_call 29; exact HC3.out wq hwq)
  try simp only [Act.put, List.setIfInBounds_toArray, List.set_cons_zero, List.set_cons_succ]
  refine quiet_take (v := ?kv18) hL9 (by kernel_rfl) (fun wq hwq => ?ky18) (fun L9 hL9 => ?kr18)
  case ky18 => (go_simp; try with_reducible rfl)
  try simp only [Act.put, List.setIfInBounds_toArray, List.set_cons_zero, List.set_cons_succ]
  refine quiet_take (v := ?kv19) hL9 (by kernel_rfl) (fun wq hwq => ?ky19) (fun L9 hL9 => ?kr19)
  case ky19 => (go_simp; try with_reducible rfl)
  try simp only [Act.put, List.setIfInBounds_toArray, List.set_cons_zero, List.set_cons_succ]
  refine quiet_take (v := ?kv20) hL9 (by kernel_rfl) (fun wq hwq => ?ky20) (fun L9 hL9 => ?kr20)
  case ky20 => (go_simp; try with_reducible rfl)
  try simp only [Act.put, List.setIfInBounds_toArray, List.set_cons_zero, List.set_cons_succ]
  refine quiet_take (v := dgV x) hL9 (by kernel_rfl) (fun wq hwq => ?ky21) (fun L9 hL9 => ?kr21)
  case ky21 => (obtain ⟨x0, x1⟩ := HK.out wq hwq; go_simp; try with_reducible rfl)
  try simp only [Act.put, List.setIfInBounds_toArray, List.set_cons_zero, List.set_cons_succ]
  refine quiet_take (v := ?kv22) hL9 (by kernel_rfl) (fun wq hwq => ?ky22) (fun L9 hL9 => ?kr22)
  case ky22 => (go_simp; try with_reducible rfl)
  try simp only [Act.put, List.setIfInBounds_toArray, List.set_cons_zero, List.set_cons_succ]
  refine quiet_take (v := .bool C) hL9 (by kernel_rfl) (fun wq hwq => ?ky23) (fun L9 hL9 => ?kr23)
  case ky23 => (go_simp; go_at_call 30; exact HC4.out wq hwq)
  try simp only [Act.put, List.setIfInBounds_toArray, List.set_cons_zero, List.set_cons_succ]
  refine quiet_take (v := .bool false) hL9 (by kernel_rfl) (fun wq hwq => ?ky24) (fun L9 hL9 => ?kr24)
  case ky24 => (go_simp; try with_reducible rfl; try simp)
  try simp only [Act.put, List.setIfInBounds_toArray, List.set_cons_zero, List.set_cons_succ]
  refine quiet_nil hL9 ?_
  clear hL9
  intro w3 hO3
  have HO3 := Lib.hid hO3
  clear hO3 HC1 HC3 HC4
  have HB3 := Lib.hid (HB.out.on HO3.out)
  obtain ⟨x0, x1⟩ := HB3.out.cells2
  go_wp2_with fail
  with_reducible refine (HC2.out _ HO3.out).mono ?_
  rintro e w4 ⟨rfl, hO4⟩
  have HB4 := Lib.hid (HB.out.on hO4)
  have HO4 := Lib.hid hO4
  clear hO4 x0 x1 HO3 HB3 HK
  have hdc : DR (w4.alloc (.cells #[.int .u64 ((Y.1 : Nat) : Int), .int .u64 ((Y.2 : Nat) : Int)] 36)) (.slice (some ⟨w4.heap.size, 0, none⟩) 1 1) [Y] := one_dg w4 HO4.out.tab Y HYs.out
  have hoa : On w4 (w4.alloc (.cells #[.int .u64 ((Y.1 : Nat) : Int), .int .u64 ((Y.2 : Nat) : Int)] 36)) := (On.refl HO4.out.tab).alloc _
  have HDC := Lib.hid hdc
  have HO5 := Lib.hid (HO4.out.trans hoa)
  clear hdc hoa
  go_upto_region 5 with fail
  generalize w4.alloc (.cells #[.int .u64 ((Y.1 : Nat) : Int), .int .u64 ((Y.2 : Nat) : Int)] 36) = w5 at *
  generalize w4.heap.size = bq at *
  obtain ⟨E, hE⟩ : ∃ E, E = checkB f [Y] i x p := ⟨_, rfl⟩
  have HC6 : Hid (∀ wq, On w5 wq → Calls Tryd.prog 29 #[.int .i64 f, .slice (some ⟨bq, 0, none⟩) 1 1, .int .i64 i, dgV x, .slice pa p.length pc] wq fun e w' => e = .returned (.bool E) ∧ On w5 w') := fun wq h => by rw [hE]; exact (check_any f [Y] _ i x p _ wq ((HTU.out.on HO5.out).on h) (HDC.out.on h) HSX.out ((HP.out.on HO5.out).on h) HI.out).mono fun e w' ⟨he, ho⟩ => ⟨he, h.trans ho⟩
  have HC7 : Hid (∀ wq, On w5 wq → Calls Tryd.prog 30 #[.int .i64 f, .slice (some ⟨bq, 0, none⟩) 1 1, .int .i64 i, dgV x, .slice pa p.length pc] wq fun e w' => e = .returned (.bool E) ∧ On w5 w') := fun wq h => by rw [hE]; exact (rcheck_any f [Y] _ i x p _ wq h.tab (HDC.out.on h) HSX.out ((HP.out.on HO5.out).on h) HI.out).mono fun e w' ⟨he, ho⟩ => ⟨he, h.trans ho⟩
  have HCL : Hid (∀ wq, On w5 wq → Calls Tryd.prog 21 #[] wq fun e w' => e = .returned (.bool true) ∧ On w5 w') := fun wq h => (lives_tree wq ((HTU.out.on HO5.out).on h)).mono fun e w' ⟨he, ho⟩ => ⟨he, h.trans ho⟩
  have HK5 : Hid (∀ wq, On w5 wq → _) := fun wq hq => ((HB.out.on (HO5.out.trans hq)).cells2)
  clear hE
  refine region_keep_tail (fun wq => On w5 wq) 16 (by kernel_rfl) (by kernel_rfl) (On.refl HO5.out.tab).drew ?_
  simp only [List.take_succ_cons, List.take_zero, List.drop_succ_cons, List.drop_zero]
  refine quiet_start fun L9 hL9 => ?_
  refine quiet_take (v := ?mv0) hL9 (by kernel_rfl) (fun wq hwq => ?my0) (fun L9 hL9 => ?mr0)
  case my0 => (go_simp; try with_reducible rfl)
  try simp only [Act.put, List.setIfInBounds_toArray, List.set_cons_zero, List.set_cons_succ]
  refine quiet_take (v := ?mv1) hL9 (by kernel_rfl) (fun wq hwq => ?my1) (fun L9 hL9 => ?mr1)
  case my1 => (go_simp; try with_reducible rfl)
  try simp only [Act.put, List.setIfInBounds_toArray, List.set_cons_zero, List.set_cons_succ]
  refine quiet_take (v := ?mv2) hL9 (by kernel_rfl) (fun wq hwq => ?my2) (fun L9 hL9 => ?mr2)
  case my2 => (go_simp; try with_reducible rfl)
  try simp only [Act.put, List.setIfInBounds_toArray, List.set_cons_zero, List.set_cons_succ]
  refine quiet_take (v := dgV x) hL9 (by kernel_rfl) (fun wq hwq => ?my3) (fun L9 hL9 => ?mr3)
  case my3 => (obtain ⟨x0, x1⟩ := HK5.out wq hwq; go_simp; try with_reducible rfl)
  try simp only [Act.put, List.setIfInBounds_toArray, List.set_cons_zero, List.set_cons_succ]
  refine quiet_take (v := ?mv4) hL9 (by kernel_rfl) (fun wq hwq => ?my4) (fun L9 hL9 => ?mr4)
  case my4 => (go_simp; try with_reducible rfl)
  try simp only [Act.put, List.setIfInBounds_toArray, List.set_cons_zero, List.set_cons_succ]
  refine quiet_take (v := .bool E) hL9 (by kernel_rfl) (fun wq hwq => ?my5) (fun L9 hL9 => ?mr5)
  case my5 => (go_simp; go_at_call 29; exact HC6.out wq hwq)
  try simp only [Act.put, List.setIfInBounds_toArray, List.set_cons_zero, List.set_cons_succ]
  refine quiet_take (v := ?mv6) hL9 (by kernel_rfl) (fun wq hwq => ?my6) (fun L9 hL9 => ?mr6)
  case my6 => (go_simp; try with_reducible rfl)
  try simp only [Act.put, List.setIfInBounds_toArray, List.set_cons_zero, List.set_cons_succ]
  refine quiet_take (v := ?mv7) hL9 (by kernel_rfl) (fun wq hwq => ?my7) (fun L9 hL9 => ?mr7)
  case my7 => (go_simp; try with_reducible rfl)
  try simp only [Act.put, List.setIfInBounds_toArray, List.set_cons_zero, List.set_cons_succ]
  refine quiet_take (v := ?mv8) hL9 (by kernel_rfl) (fun wq hwq => ?my8) (fun L9 hL9 => ?mr8)
  case my8 => (go_simp; try with_reducible rfl)
  try simp only [Act.put, List.setIfInBounds_toArray, List.set_cons_zero, List.set_cons_succ]
  refine quiet_take (v := dgV x) hL9 (by kernel_rfl) (fun wq hwq => ?my9) (fun L9 hL9 => ?mr9)
  case my9 => (obtain ⟨x0, x1⟩ := HK5.out wq hwq; go_simp; try with_reducible rfl)
  try simp only [Act.put, List.setIfInBounds_toArray, List.set_cons_zero, List.set_cons_succ]
  refine quiet_take (v := ?mv10) hL9 (by kernel_rfl) (fun wq hwq => ?my10) (fun L9 hL9 => ?mr10)
  case my10 => (go_simp; try with_reducible rfl)
  try simp only [Act.put, List.setIfInBounds_toArray, List.set_cons_zero, List.set_cons_succ]
  refine quiet_take (v := .bool E) hL9 (by kernel_rfl) (fun wq hwq => ?my11) (fun L9 hL9 => ?mr11)
  case my11 => (go_simp; go_at_call 30; exact HC7.out wq hwq)
  try simp only [Act.put, List.setIfInBounds_toArray, List.set_cons_zero, List.set_cons_succ]
  refine quiet_take (v := .bool true) hL9 (by kernel_rfl) (fun wq hwq => ?my12) (fun L9 hL9 => ?mr12)
  case my12 => (go_simp; try with_reducible rfl; try simp)
  try simp only [Act.put, List.setIfInBounds_toArray, List.set_cons_zero, List.set_cons_succ]
  refine quiet_take (v := .bool true) hL9 (by kernel_rfl) (fun wq hwq => ?my13) (fun L9 hL9 => ?mr13)
  case my13 => (go_simp; try with_reducible rfl)
  try simp only [Act.put, List.setIfInBounds_toArray, List.set_cons_zero, List.set_cons_succ]
  refine quiet_take (v := .bool true) hL9 (by kernel_rfl) (fun wq hwq => ?my14) (fun L9 hL9 => ?mr14)
  case my14 => (go_simp; go_at_call 21; exact HCL.out wq hwq)
  try simp only [Act.put, List.setIfInBounds_toArray, List.set_cons_zero, List.set_cons_succ]
  refine quiet_take (v := .bool true) hL9 (by kernel_rfl) (fun wq hwq => ?my15) (fun L9 hL9 => ?mr15)
  case my15 => (go_simp; try with_reducible rfl)
  try simp only [Act.put, List.setIfInBounds_toArray, List.set_cons_zero, List.set_cons_succ]
  refine quiet_nil hL9 ?_
  clear hL9
  intro w6 hO6
  have HO6 := Lib.hid hO6
  go_wp2
  go_ret
  exact ⟨rfl, (HO2.out.trans HO5.out).trans HO6.out⟩
end Go.Proofs.YtnmfneeojnmebaaDoor
