/- Package tree: Check: what the call returns. -/
import Derived.Test.YthepmahjpejmdaaDoorKu15
import Derived.Deep.RegionWith
import Derived.Test.YthepmahjpejmdaaDoorKu18
import Derived.Test.YthepmahjpejmdaaDoorKu14
set_option linter.unusedSimpArgs false
set_option linter.unusedVariables false
/- Package tree: Check: what the call returns. -/
namespace Go.Proofs.YthepmahjpejmdaaDoor
open Go.RowKit
set_option linter.unusedVariables false

/-- What Climb returns. -/
def climbV (f i : Int) (x : Dg) (p : List Dg) : Dg := if opnB f i x p = true then clF f i.toNat x p p.length else zD
theorem climbV_yes {f i : Int} {x : Dg} {p : List Dg} (h : opnB f i x p = true) : climbV f i x p = clF f i.toNat x p p.length := if_pos h
theorem climbV_no {f i : Int} {x : Dg} {p : List Dg} (h : opnB f i x p = false) : climbV f i x p = zD := if_neg (by rw [h]; simp)
theorem opnB_nat {f i : Int} {x : Dg} {p : List Dg} (h : opnB f i x p = true) : i = (i.toNat : Int) := by
  unfold opnB at h
  simp only [Bool.and_eq_true, decide_eq_true_eq] at h
  have := h.2.1
  omega
theorem climbV_sm (f i : Int) (x : Dg) (p : List Dg) (hx : SmD x) : SmD (climbV f i x p) := by
  unfold climbV; split
  · exact clF_sm _ _ _ _ hx _
  · exact zD_sm
theorem climb_any (f i : Int) (x : Dg) (p : List Dg) (v : Value) (w : World) (hT : Tab w) (hx : SmD x) (hR : DR w v p) (hi : i ≤ 9223372036854775807) :
    Calls Tryd.prog 45 #[.int .i64 f, .int .i64 i, dgV x, v] w fun e w' => e = .returned (dgV (climbV f i x p)) ∧ On w w' := by
  cases h : opnB f i x p
  · rw [climbV_no h]; exact climb_no f i x p v w hT hx hR h
  · rw [climbV_yes h]
    have hn := opnB_nat h
    generalize i.toNat = n at *
    subst hn
    exact climb_yes f n x p v w hT hR (by omega) h
/-- What Check returns. -/
def checkB (f : Int) (cp : List Dg) (i : Int) (x : Dg) (p : List Dg) : Bool :=
  match logN cp.length with
  | none => false
  | some c => decide (c + p.length ≤ 18) && (opnB f i x p && (okA f cp && (decide (i.toNat / 2 ^ p.length < cp.length) && decide (clF f i.toNat x p p.length = cp.getD (i.toNat / 2 ^ p.length) zD))))
theorem eq_dg (a b : Dg) (w : World) : (Op.equalIn 10000 36 (dgV a) (dgV b)).run Tryd.prog w = .ok (decide (a = b)) w := by
  rw [eq2]
  obtain ⟨x, y⟩ := a
  obtain ⟨z, u⟩ := b
  congr 1
  simp only [Prod.mk.injEq, Bool.decide_and]
  congr 1 <;> (rw [Bool.eq_iff_iff]; simp; omega)
set_option maxHeartbeats 1000000 in
set_option maxRecDepth 100000 in
theorem check_none (f : Int) (cp : List Dg) (cv : Value) (i : Int) (x : Dg) (p : List Dg) (v : Value) (w : World) (hT : TZ w) (hC : DR w cv cp) (hno : logN cp.length = none) (hP : DR w v p) :
    Calls Tryd.prog 33 #[.int .i64 f, cv, .int .i64 i, dgV x, v] w fun e w' => e = .returned (.bool false) ∧ On w w' := by
  obtain ⟨ca, cc, rfl⟩ := hC.shape
  obtain ⟨pa, pc, rfl⟩ := hP.shape
  have HX := Lib.hid (fun w => exponent_none cp.length w (by have := hC.2.1; omega) hno)
  have HO := Lib.hid ((On.refl hT.1).alloc (.cells #[.int .u64 ((x.1 : Nat) : Int), .int .u64 ((x.2 : Nat) : Int)] 36))
  clear hC hP hno hT
  go_enter Tryd.func33, Tryd.ntmps33
  go_wp2_with (go_at_call 23; refine (HX.out _).mono ?_; rintro e w' ⟨rfl, rfl⟩)
  go_ret
  exact ⟨rfl, HO.out⟩
set_option maxHeartbeats 4000000 in
set_option maxRecDepth 100000 in
theorem check_some (f : Int) (cp : List Dg) (cv : Value) (i : Int) (x : Dg) (p : List Dg) (v : Value) (c : Nat) (w : World) (hT : TZ w) (hC : DR w cv cp) (hc : logN cp.length = some c) (hx : SmD x) (hP : DR w v p) (hi : i ≤ 9223372036854775807) :
    Calls Tryd.prog 33 #[.int .i64 f, cv, .int .i64 i, dgV x, v] w fun e w' => e = .returned (.bool (decide (c + p.length ≤ 18) && (opnB f i x p && (okA f cp && (decide (i.toNat / 2 ^ p.length < cp.length) && decide (clF f i.toNat x p p.length = cp.getD (i.toNat / 2 ^ p.length) zD)))))) ∧ On w w' := by
  obtain ⟨ca, cc, rfl⟩ := hC.shape
  obtain ⟨pa, pc, rfl⟩ := hP.shape
  obtain ⟨hcl, hc18⟩ := logN_some hc
  obtain ⟨u, hu⟩ : ∃ u, u = w.alloc (.cells #[.int .u64 ((x.1 : Nat) : Int), .int .u64 ((x.2 : Nat) : Int)] 36) := ⟨_, rfl⟩
  have HU := Lib.hid hu
  have HO : Hid (On w u) := by refine Lib.hid ?_; rw [hu]; exact (On.refl hT.1).alloc _
  have HB : Hid (Blk w.heap.size u [x.1, x.2]) := by refine Lib.hid ?_; rw [hu]; exact blk_new2 w _ _ _
  have HX := Lib.hid (exponent_some c cp.length u (hT.on HO.out) hc18 hcl)
  have HI := Lib.hid (isOpening_any f i x p _ u HO.out.tab hx (hP.on HO.out))
  have HPR := Lib.hid (fun w' (h : On u w') => proper_any f cp _ w' h.tab ((hC.on HO.out).on h))
  have HCL := Lib.hid (fun w' (h : On u w') => climb_any f i x p _ w' h.tab hx ((hP.on HO.out).on h) hi)
  have HC := Lib.hid (hC.on HO.out)
  obtain ⟨x0, x1⟩ := HB.out.cells2
  have hpl := hP.2.1
  have hcl2 := hC.2.1
  clear hT hC hP hc hx hu hcl
  by_cases h18 : c + p.length ≤ 18
  rotate_left
  · have hd : decide (c + p.length ≤ 18) = false := decide_eq_false h18
    have hl : ¬ (c : Int) + (p.length : Int) ≤ 18 := by omega
    have hl2 : (18 : Int) < (c : Int) + (p.length : Int) := by omega
    rw [hd]
    clear hd h18 hl
    go_enter Tryd.func33, Tryd.ntmps33
    go_upto_region 1 with fail
    rw [← HU.out]
    go_wp2_with (first
      | (go_at_call 23; (with_reducible refine HX.out.mono ?_); rintro e w' ⟨rfl, rfl⟩))
    go_ret
    exact ⟨rfl, HO.out⟩
  have hd : decide (c + p.length ≤ 18) = true := decide_eq_true h18
  have hl2 : ¬ (18 : Int) < (c : Int) + (p.length : Int) := by omega
  have hdl : decide ((18 : Int) < (c : Int) + (p.length : Int)) = false := decide_eq_false hl2
  rw [hd]
  clear hd hl2
  cases hop : opnB f i x p
  · rw [hop] at HI; clear hop h18
    go_enter Tryd.func33, Tryd.ntmps33
    go_upto_region 1 with fail
    rw [← HU.out]
    go_wp2_with (first
      | (go_at_call 23; (with_reducible refine HX.out.mono ?_); rintro e w' ⟨rfl, rfl⟩)
      | (go_at_call 44; (with_reducible refine HI.out.mono ?_); rintro e w1 ⟨rfl, hO1⟩; have HO1 := Lib.hid hO1; clear hO1))
    go_ret
    exact ⟨rfl, HO.out.trans HO1.out⟩
  have HIN := Lib.hid (opnB_nat hop)
  have HCV := Lib.hid (climbV_yes hop)
  rw [hop] at HI
  clear hop
  cases hok : okA f cp
  · rw [hok] at HPR; clear hok h18 HCV
    go_enter Tryd.func33, Tryd.ntmps33
    go_upto_region 1 with fail
    rw [← HU.out]
    go_wp2_with (first
      | (go_at_call 23; (with_reducible refine HX.out.mono ?_); rintro e w' ⟨rfl, rfl⟩)
      | (go_at_call 44; (with_reducible refine HI.out.mono ?_); rintro e w1 ⟨rfl, hO1⟩; have HO1 := Lib.hid hO1; clear hO1)
      | (go_at_call 25; (with_reducible refine (HPR.out _ HO1.out).mono ?_); rintro e w2 ⟨rfl, hO2⟩; have HO2 := Lib.hid (HO1.out.trans hO2); clear hO2))
    go_ret
    exact ⟨rfl, HO.out.trans HO2.out⟩
  rw [hok] at HPR
  clear hok
  rw [HCV.out] at HCL
  clear HCV
  have hin := HIN.out
  clear HIN
  generalize i.toNat = j at *
  subst hin
  have hsh : ((j : Nat) : Int) / 2 ^ p.length = ((j / 2 ^ p.length : Nat) : Int) := by rw [Int.natCast_ediv]; simp
  have hqb : j / 2 ^ p.length ≤ j := Nat.div_le_self _ _
  generalize j / 2 ^ p.length = q at *
  by_cases hq : q < cp.length
  rotate_left
  · have hd : decide (q < cp.length) = false := decide_eq_false hq
    have hqd : decide (((q : Nat) : Int) < (cp.length : Int)) = false := by simp; omega
    have hq3 : cp.length ≤ q := by omega
    rw [hd]
    clear hd hq HCL
    go_enter Tryd.func33, Tryd.ntmps33
    go_upto_region 1 with fail
    rw [← HU.out]
    go_wp2_with (first
      | (go_at_call 23; (with_reducible refine HX.out.mono ?_); rintro e w' ⟨rfl, rfl⟩)
      | (go_at_call 44; (with_reducible refine HI.out.mono ?_); rintro e w1 ⟨rfl, hO1⟩; have HO1 := Lib.hid hO1; clear hO1)
      | (go_at_call 25; (with_reducible refine (HPR.out _ HO1.out).mono ?_); rintro e w2 ⟨rfl, hO2⟩; have HO2 := Lib.hid (HO1.out.trans hO2); clear hO2))
    refine region_keep_tail (fun wq => On w2 wq) 16 (by kernel_rfl) (by kernel_rfl) (On.refl HO2.out.tab).drew ?_
    simp only [List.take_succ_cons, List.take_zero, List.drop_succ_cons, List.drop_zero]
    refine quiet_start fun L9 hL9 => ?_
    refine quiet_take (v := ?nv0) hL9 (by kernel_rfl) (fun wq hwq => ?ny0) (fun L9 hL9 => ?nr0)
    case ny0 => (go_simp; try with_reducible rfl)
    try simp only [Act.put, List.setIfInBounds_toArray, List.set_cons_zero, List.set_cons_succ]
    refine quiet_take (v := ?nv1) hL9 (by kernel_rfl) (fun wq hwq => ?ny1) (fun L9 hL9 => ?nr1)
    case ny1 => (go_simp; try with_reducible rfl)
    try simp only [Act.put, List.setIfInBounds_toArray, List.set_cons_zero, List.set_cons_succ]
    refine quiet_take (v := ?nv2) hL9 (by kernel_rfl) (fun wq hwq => ?ny2) (fun L9 hL9 => ?nr2)
    case ny2 => (go_simp; try with_reducible rfl)
    try simp only [Act.put, List.setIfInBounds_toArray, List.set_cons_zero, List.set_cons_succ]
    refine quiet_take (v := .bool false) hL9 (by kernel_rfl) (fun wq hwq => ?ny3) (fun L9 hL9 => ?nr3)
    case ny3 => (go_simp; try with_reducible rfl)
    try simp only [Act.put, List.setIfInBounds_toArray, List.set_cons_zero, List.set_cons_succ]
    refine quiet_take (v := .bool false) hL9 (by kernel_rfl) (fun wq hwq => ?ny4) (fun L9 hL9 => ?nr4)
    case ny4 => (go_simp; try with_reducible rfl)
    try simp only [Act.put, List.setIfInBounds_toArray, List.set_cons_zero, List.set_cons_succ]
    refine quiet_skip hL9 (by kernel_rfl) (fun L9 hL9 => ?_)
    try simp only [Act.put, List.setIfInBounds_toArray, List.set_cons_zero, List.set_cons_succ]
    refine quiet_skip hL9 (by kernel_rfl) (fun L9 hL9 => ?_)
    try simp only [Act.put, List.setIfInBounds_toArray, List.set_cons_zero, List.set_cons_succ]
    refine quiet_skip hL9 (by kernel_rfl) (fun L9 hL9 => ?_)
    try simp only [Act.put, List.setIfInBounds_toArray, List.set_cons_zero, List.set_cons_succ]
    refine quiet_skip hL9 (by kernel_rfl) (fun L9 hL9 => ?_)
    try simp only [Act.put, List.setIfInBounds_toArray, List.set_cons_zero, List.set_cons_succ]
    refine quiet_skip hL9 (by kernel_rfl) (fun L9 hL9 => ?_)
    try simp only [Act.put, List.setIfInBounds_toArray, List.set_cons_zero, List.set_cons_succ]
    refine quiet_skip hL9 (by kernel_rfl) (fun L9 hL9 => ?_)
    try simp only [Act.put, List.setIfInBounds_toArray, List.set_cons_zero, List.set_cons_succ]
    refine quiet_skip hL9 (by kernel_rfl) (fun L9 hL9 => ?_)
    try simp only [Act.put, List.setIfInBounds_toArray, List.set_cons_zero, List.set_cons_succ]
    refine quiet_skip hL9 (by kernel_rfl) (fun L9 hL9 => ?_)
    try simp only [Act.put, List.setIfInBounds_toArray, List.set_cons_zero, List.set_cons_succ]
    refine quiet_skip hL9 (by kernel_rfl) (fun L9 hL9 => ?_)
    try simp only [Act.put, List.setIfInBounds_toArray, List.set_cons_zero, List.set_cons_succ]
    refine quiet_skip hL9 (by kernel_rfl) (fun L9 hL9 => ?_)
    try simp only [Act.put, List.setIfInBounds_toArray, List.set_cons_zero, List.set_cons_succ]
    refine quiet_take (v := .bool false) hL9 (by kernel_rfl) (fun wq hwq => ?ny15) (fun L9 hL9 => ?nr15)
    case ny15 => (go_simp; try with_reducible rfl)
    try simp only [Act.put, List.setIfInBounds_toArray, List.set_cons_zero, List.set_cons_succ]
    refine quiet_nil hL9 ?_
    clear hL9
    intro wz HOz
    have HOz := Lib.hid HOz
    go_wp2
    go_ret
    exact ⟨by simp, (HO.out.trans HO2.out).trans HOz.out⟩
  have hd : decide (q < cp.length) = true := decide_eq_true hq
  have hqd : decide (((q : Nat) : Int) < (cp.length : Int)) = true := by simp; omega
  have hql : ((q : Nat) : Int) < (cp.length : Int) := by omega
  rw [hd]
  clear hd
  obtain ⟨b, off, rfl, c0, c1⟩ := HC.out.cells q hq
  have HC0 := Lib.hid c0; have HC1 := Lib.hid c1
  generalize clF f j x p p.length = y at *
  generalize cp.getD q zD = z at *
  have heq := eq_dg y z
  generalize decide (y = z) = E at *
  clear c0 c1 hq
  go_enter Tryd.func33, Tryd.ntmps33
  go_upto_region 1 with fail
  rw [← HU.out]
  go_wp2_with (first
    | (go_at_call 23; (with_reducible refine HX.out.mono ?_); rintro e w' ⟨rfl, rfl⟩)
    | (go_at_call 44; (with_reducible refine HI.out.mono ?_); rintro e w1 ⟨rfl, hO1⟩; have HO1 := Lib.hid hO1; clear hO1)
    | (go_at_call 25; (with_reducible refine (HPR.out _ HO1.out).mono ?_); rintro e w2 ⟨rfl, hO2⟩; have HO2 := Lib.hid (HO1.out.trans hO2); clear hO2))
  have HO2' := Lib.hid HO2.out
  have HK : Hid (∀ wq, On w2 wq → (wq.cell? ⟨w.heap.size, 0, none⟩ = some (.int .u64 ((x.1 : Nat) : Int)) ∧ wq.cell? ⟨w.heap.size, 1, none⟩ = some (.int .u64 ((x.2 : Nat) : Int))) ∧ wq.cell? ⟨b, off + q * 2, none⟩ = some (.int .u64 ((z.1 : Nat) : Int)) ∧ wq.cell? ⟨b, off + q * 2 + 1, none⟩ = some (.int .u64 ((z.2 : Nat) : Int))) := fun wq h => by
    have hO := HO2.out.trans h
    exact ⟨(HB.out.on hO).cells2, (hO.cell (p := ⟨b, off + q * 2, none⟩) (cell_size HC0.out)).trans HC0.out, (hO.cell (p := ⟨b, off + q * 2 + 1, none⟩) (cell_size HC1.out)).trans HC1.out⟩
  replace HCL : Hid (∀ wq, On w2 wq → Calls Tryd.prog 45 #[.int .i64 f, .int .i64 ((j : Nat) : Int), dgV x, .slice pa p.length pc] wq fun e w' => e = .returned (dgV y) ∧ On w2 w') := fun wq h => (HCL.out wq (HO2.out.trans h)).mono fun e w' ⟨he, ho⟩ => ⟨he, h.trans ho⟩
  clear x0 x1
  refine region_keep_tail (fun wq => On w2 wq) 16 (by kernel_rfl) (by kernel_rfl) (On.refl HO2.out.tab).drew ?_
  simp only [List.take_succ_cons, List.take_zero, List.drop_succ_cons, List.drop_zero]
  refine quiet_start fun L9 hL9 => ?_
  refine quiet_take (v := ?mv0) hL9 (by kernel_rfl) (fun wq hwq => ?my0) (fun L9 hL9 => ?mr0)
  case my0 => (go_simp; try with_reducible rfl)
  try simp only [Act.put, List.setIfInBounds_toArray, List.set_cons_zero, List.set_cons_succ]
  refine quiet_take (v := ?mv1) hL9 (by kernel_rfl) (fun wq hwq => ?my1) (fun L9 hL9 => ?mr1)
  case my1 => (go_simp; try with_reducible rfl)
  try simp only [Act.put, List.setIfInBounds_toArray, List.set_cons_zero, List.set_cons_succ]
  refine quiet_take (v := ?mv2) hL9 (by kernel_rfl) (fun wq hwq => ?my2) (fun L9 hL9 => ?mr2)
  case my2 => (go_simp; try with_reducible rfl)
  try simp only [Act.put, List.setIfInBounds_toArray, List.set_cons_zero, List.set_cons_succ]
  refine quiet_take (v := .bool true) hL9 (by kernel_rfl) (fun wq hwq => ?my3) (fun L9 hL9 => ?mr3)
  case my3 => (go_simp; try with_reducible rfl)
  try simp only [Act.put, List.setIfInBounds_toArray, List.set_cons_zero, List.set_cons_succ]
  refine quiet_take (v := .bool true) hL9 (by kernel_rfl) (fun wq hwq => ?my4) (fun L9 hL9 => ?mr4)
  case my4 => (go_simp; try with_reducible rfl)
  try simp only [Act.put, List.setIfInBounds_toArray, List.set_cons_zero, List.set_cons_succ]
  refine quiet_take (v := ?mv5) hL9 (by kernel_rfl) (fun wq hwq => ?my5) (fun L9 hL9 => ?mr5)
  case my5 => (go_simp; try with_reducible rfl)
  try simp only [Act.put, List.setIfInBounds_toArray, List.set_cons_zero, List.set_cons_succ]
  refine quiet_take (v := ?mv6) hL9 (by kernel_rfl) (fun wq hwq => ?my6) (fun L9 hL9 => ?mr6)
  case my6 => (go_simp; try with_reducible rfl)
  try simp only [Act.put, List.setIfInBounds_toArray, List.set_cons_zero, List.set_cons_succ]
  refine quiet_take (v := dgV x) hL9 (by kernel_rfl) (fun wq hwq => ?my7) (fun L9 hL9 => ?mr7)
  case my7 => (obtain ⟨⟨x0, x1⟩, z0, z1⟩ := HK.out wq hwq; go_simp; try with_reducible rfl)
  try simp only [Act.put, List.setIfInBounds_toArray, List.set_cons_zero, List.set_cons_succ]
  refine quiet_take (v := ?mv8) hL9 (by kernel_rfl) (fun wq hwq => ?my8) (fun L9 hL9 => ?mr8)
  case my8 => (go_simp; try with_reducible rfl)
  try simp only [Act.put, List.setIfInBounds_toArray, List.set_cons_zero, List.set_cons_succ]
  refine quiet_take (v := dgV y) hL9 (by kernel_rfl) (fun wq hwq => ?my9) (fun L9 hL9 => ?mr9)
  case my9 => (go_simp; go_at_call 45; exact HCL.out wq hwq)
  try simp only [Act.put, List.setIfInBounds_toArray, List.set_cons_zero, List.set_cons_succ]
  refine quiet_take (v := ?mv10) hL9 (by kernel_rfl) (fun wq hwq => ?my10) (fun L9 hL9 => ?mr10)
  case my10 => (go_simp; try with_reducible rfl)
  try simp only [Act.put, List.setIfInBounds_toArray, List.set_cons_zero, List.set_cons_succ]
  refine quiet_take (v := ?mv11) hL9 (by kernel_rfl) (fun wq hwq => ?my11) (fun L9 hL9 => ?mr11)
  case my11 => (go_simp; try with_reducible rfl)
  try simp only [Act.put, List.setIfInBounds_toArray, List.set_cons_zero, List.set_cons_succ]
  refine quiet_take (v := .pointer (some ⟨b, off + q * 2, none⟩)) hL9 (by kernel_rfl) (fun wq hwq => ?my12) (fun L9 hL9 => ?mr12)
  case my12 => (go_simp; try with_reducible rfl)
  try simp only [Act.put, List.setIfInBounds_toArray, List.set_cons_zero, List.set_cons_succ]
  refine quiet_take (v := dgV z) hL9 (by kernel_rfl) (fun wq hwq => ?my13) (fun L9 hL9 => ?mr13)
  case my13 => (obtain ⟨⟨x0, x1⟩, z0, z1⟩ := HK.out wq hwq; go_simp; try with_reducible rfl)
  try simp only [Act.put, List.setIfInBounds_toArray, List.set_cons_zero, List.set_cons_succ]
  refine quiet_take (v := .bool E) hL9 (by kernel_rfl) (fun wq hwq => ?my14) (fun L9 hL9 => ?mr14)
  case my14 => (go_simp; try with_reducible rfl)
  try simp only [Act.put, List.setIfInBounds_toArray, List.set_cons_zero, List.set_cons_succ]
  refine quiet_take (v := .bool E) hL9 (by kernel_rfl) (fun wq hwq => ?my15) (fun L9 hL9 => ?mr15)
  case my15 => (go_simp; try with_reducible rfl)
  try simp only [Act.put, List.setIfInBounds_toArray, List.set_cons_zero, List.set_cons_succ]
  refine quiet_nil hL9 ?_
  clear hL9
  intro wz HOz
  have HOz := Lib.hid HOz
  go_wp2
  go_ret
  exact ⟨by simp, (HO.out.trans HO2.out).trans HOz.out⟩
theorem check_any (f : Int) (cp : List Dg) (cv : Value) (i : Int) (x : Dg) (p : List Dg) (v : Value) (w : World) (hT : TZ w) (hC : DR w cv cp) (hx : SmD x) (hP : DR w v p) (hi : i ≤ 9223372036854775807) :
    Calls Tryd.prog 33 #[.int .i64 f, cv, .int .i64 i, dgV x, v] w fun e w' => e = .returned (.bool (checkB f cp i x p)) ∧ On w w' := by
  unfold checkB
  rcases h : logN cp.length with _ | c
  · exact check_none f cp cv i x p v w hT hC h hP
  · exact check_some f cp cv i x p v c w hT hC h hx hP hi
end Go.Proofs.YthepmahjpejmdaaDoor

/- Comparing digests, and pairs of digests. -/
namespace Go.Proofs.YthepmahjpejmdaaDoor
open Go.RowKit
set_option linter.unusedVariables false

theorem cellsD : Tryd.prog.cellsOf 36 = 2 := by kernel_rfl
theorem eqDg (d : Nat) (a b : Dg) (w : World) : (Op.equalIn (d + 1 + 1) 36 (dgV a) (dgV b)).run Tryd.prog w = .ok (decide (a = b)) w := by
  obtain ⟨i, hi⟩ : ∃ i, Tryd.prog.info? 34 = some i := Option.isSome_iff_exists.1 (by kernel_rfl)
  rw [run_equalIn_array w (d + 1) _ _ Tryd.underlying36 hi, cellsU]
  rw [show List.range 2 = [0, 1] from rfl]
  rw [items_step d 0 _ _ _ _ _ w rfl rfl, items_step d 1 _ _ _ _ _ w rfl rfl]
  obtain ⟨x, y⟩ := a
  obtain ⟨z, u⟩ := b
  simp only [Prod.mk.injEq, Bool.decide_and]
  have e1 : ((x : Int) == (z : Int)) = decide (x = z) := by rw [Bool.eq_iff_iff]; simp; omega
  have e2 : ((y : Int) == (u : Int)) = decide (y = u) := by rw [Bool.eq_iff_iff]; simp; omega
  rw [e1, e2]
  cases decide (x = z) <;> cases decide (y = u) <;> simp [Op.eqItems]
theorem part_dg (xs : Array Value) (off : Nat) (v : Value) (h : Value.agg (xs.extract off (off + 2)) = v) (w : World) : (part 36 xs off).run Tryd.prog w = .ok v w := by
  obtain ⟨i, hi⟩ : ∃ i, Tryd.prog.info? 36 = some i := Option.isSome_iff_exists.1 (by kernel_rfl)
  have hs := run_sizeOf w hi
  rw [cellsD] at hs
  simp [part, isAgg, run_underlying Tryd.underlying36, hs, h]
theorem eq_pr (P Q : Dg × Dg) (w : World) : (Op.equalIn 10000 81 (prV P) (prV Q)).run Tryd.prog w = .ok (decide (P = Q)) w := by
  obtain ⟨i, hi⟩ : ∃ i, Tryd.prog.info? 36 = some i := Option.isSome_iff_exists.1 (by kernel_rfl)
  rw [show (10000 : Nat) = 9997 + 1 + 1 + 1 from rfl, run_equalIn_array w (9997 + 1 + 1) _ _ Tryd.underlying81 hi, cellsD]
  rw [show List.range 2 = [0, 1] from rfl]
  have hD : ∀ (a b : Dg) (w : World), (Op.equalIn 9999 36 (dgV a) (dgV b)).run Tryd.prog w = .ok (decide (a = b)) w := fun a b w => eqDg 9997 a b w
  obtain ⟨a, b⟩ := P
  obtain ⟨c, e⟩ := Q
  have h0 := fun w => part_dg (#[Value.int .u64 ((a.1 : Nat) : Int), .int .u64 ((a.2 : Nat) : Int), .int .u64 ((b.1 : Nat) : Int), .int .u64 ((b.2 : Nat) : Int)]) 0 (dgV a) rfl w
  have h1 := fun w => part_dg (#[Value.int .u64 ((a.1 : Nat) : Int), .int .u64 ((a.2 : Nat) : Int), .int .u64 ((b.1 : Nat) : Int), .int .u64 ((b.2 : Nat) : Int)]) 2 (dgV b) rfl w
  have h2 := fun w => part_dg (#[Value.int .u64 ((c.1 : Nat) : Int), .int .u64 ((c.2 : Nat) : Int), .int .u64 ((e.1 : Nat) : Int), .int .u64 ((e.2 : Nat) : Int)]) 0 (dgV c) rfl w
  have h3 := fun w => part_dg (#[Value.int .u64 ((c.1 : Nat) : Int), .int .u64 ((c.2 : Nat) : Int), .int .u64 ((e.1 : Nat) : Int), .int .u64 ((e.2 : Nat) : Int)]) 2 (dgV e) rfl w
  simp only [Op.eqItems, Sem.run_bind, Nat.zero_mul, Nat.one_mul, h0, h1, h2, h3, Result.andThen_ok, hD, Prod.mk.injEq, Bool.decide_and]
  cases decide (a = c)
  · simp
  · simp only [Bool.true_and]
    simp [h1, h3, hD, Result.andThen]
    by_cases hbe : b = e <;> simp [hbe]
end Go.Proofs.YthepmahjpejmdaaDoor

/- Package tree: Clash: what the call returns. -/
namespace Go.Proofs.YthepmahjpejmdaaDoor
open Go.RowKit
set_option linter.unusedVariables false

/-- The memory of Clash: the two digests, the two pairs found, the two climbers. -/
structure CS (n0 n1 : Nat) (f : Int) (ia : Nat) (xa : Dg) (ib : Nat) (xb : Dg) (x y : Dg) (P1 P2 : Dg × Dg) (w : World) : Prop where
  ta : Blk n0 w [x.1, x.2]
  tb : Blk (n0 + 1) w [y.1, y.2]
  r1 : Blk (n0 + 1 + 1) w (fl4 (ix (pst P1)))
  r2 : Blk (n0 + 1 + 1 + 1) w (fl4 (ix (pst P2)))
  ca : Cb (n1 + 1 + 1) (n1 + 1) n1 f ia xa w
  cb : Cb (n1 + 1 + 1 + 1 + 1 + 1) (n1 + 1 + 1 + 1 + 1) (n1 + 1 + 1 + 1) f ib xb w
section
variable {n0 n1 : Nat} {f : Int} {ia ib : Nat} {xa xb x y : Dg} {P1 P2 : Dg × Dg} {w w' : World}
theorem CS.on (h : CS n0 n1 f ia xa ib xb x y P1 P2 w) (k : On w w') : CS n0 n1 f ia xa ib xb x y P1 P2 w' := ⟨h.ta.on k, h.tb.on k, h.r1.on k, h.r2.on k, h.ca.on k, h.cb.on k⟩
theorem CS.ap {C : Nat} (h : CS n0 n1 f ia xa ib xb x y P1 P2 w) (hn : n0 + 4 ≤ n1) (hC : n1 + 6 ≤ C) (k : Ap C w w') : CS n0 n1 f ia xa ib xb x y P1 P2 w' :=
  ⟨h.ta.ap k (by omega), h.tb.ap k (by omega), h.r1.ap k (by omega), h.r2.ap k (by omega), h.ca.ap k (by omega) (by omega) (by omega), h.cb.ap k (by omega) (by omega) (by omega)⟩
theorem CS.stepA {ia' : Nat} {xa' : Dg} (h : CS n0 n1 f ia xa ib xb x y P1 P2 w) (hn : n0 + 4 ≤ n1) (k : K2 (n1 + 1 + 1) (n1 + 1) w w') (hc : Cb (n1 + 1 + 1) (n1 + 1) n1 f ia' xa' w') : CS n0 n1 f ia' xa' ib xb x y P1 P2 w' :=
  ⟨h.ta.k2 k (by omega) (by omega), h.tb.k2 k (by omega) (by omega), h.r1.k2 k (by omega) (by omega), h.r2.k2 k (by omega) (by omega), hc, h.cb.k2 k (by omega) (by omega) (by omega) (by omega) (by omega) (by omega)⟩
theorem CS.stepB {ib' : Nat} {xb' : Dg} (h : CS n0 n1 f ia xa ib xb x y P1 P2 w) (hn : n0 + 4 ≤ n1) (k : K2 (n1 + 1 + 1 + 1 + 1 + 1) (n1 + 1 + 1 + 1 + 1) w w') (hc : Cb (n1 + 1 + 1 + 1 + 1 + 1) (n1 + 1 + 1 + 1 + 1) (n1 + 1 + 1 + 1) f ib' xb' w') : CS n0 n1 f ia xa ib' xb' x y P1 P2 w' :=
  ⟨h.ta.k2 k (by omega) (by omega), h.tb.k2 k (by omega) (by omega), h.r1.k2 k (by omega) (by omega), h.r2.k2 k (by omega) (by omega), h.ca.k2 k (by omega) (by omega) (by omega) (by omega) (by omega) (by omega), hc⟩
theorem CS.putA (h : CS n0 n1 f ia xa ib xb x y P1 P2 w) (hn : n0 + 4 ≤ n1) (z : Dg) : CS n0 n1 f ia xa ib xb z y P1 P2 ((w.setCell ⟨n0, 0, none⟩ (.int .u64 ((z.1 : Nat) : Int))).setCell ⟨n0, 1, none⟩ (.int .u64 ((z.2 : Nat) : Int))) := by
  have k := ap2 n0 w (.int .u64 ((z.1 : Nat) : Int)) (.int .u64 ((z.2 : Nat) : Int))
  exact ⟨h.ta.store2 z.1 z.2, h.tb.ap k (by omega), h.r1.ap k (by omega), h.r2.ap k (by omega), h.ca.ap k (by omega) (by omega) (by omega), h.cb.ap k (by omega) (by omega) (by omega)⟩
theorem CS.putB (h : CS n0 n1 f ia xa ib xb x y P1 P2 w) (hn : n0 + 4 ≤ n1) (z : Dg) : CS n0 n1 f ia xa ib xb x z P1 P2 ((w.setCell ⟨n0 + 1, 0, none⟩ (.int .u64 ((z.1 : Nat) : Int))).setCell ⟨n0 + 1, 1, none⟩ (.int .u64 ((z.2 : Nat) : Int))) := by
  have k := ap2 (n0 + 1) w (.int .u64 ((z.1 : Nat) : Int)) (.int .u64 ((z.2 : Nat) : Int))
  exact ⟨h.ta.ap k (by omega), h.tb.store2 z.1 z.2, h.r1.ap k (by omega), h.r2.ap k (by omega), h.ca.ap k (by omega) (by omega) (by omega), h.cb.ap k (by omega) (by omega) (by omega)⟩
theorem ap4 (T : Nat) (w : World) (a b c d : Value) : Ap T w ((((w.setCell ⟨T, 0, none⟩ a).setCell ⟨T, 1, none⟩ b).setCell ⟨T, 2, none⟩ c).setCell ⟨T, 3, none⟩ d) := ((((Ap.refl _ _).setCell _ _).setCell _ _).setCell _ _).setCell _ _
theorem CS.put1 (h : CS n0 n1 f ia xa ib xb x y P1 P2 w) (hn : n0 + 4 ≤ n1) (Q : Dg × Dg) : CS n0 n1 f ia xa ib xb x y Q P2 ((((w.setCell ⟨n0 + 1 + 1, 0, none⟩ (.int .u64 ((Q.1.1 : Nat) : Int))).setCell ⟨n0 + 1 + 1, 1, none⟩ (.int .u64 ((Q.1.2 : Nat) : Int))).setCell ⟨n0 + 1 + 1, 2, none⟩ (.int .u64 ((Q.2.1 : Nat) : Int))).setCell ⟨n0 + 1 + 1, 3, none⟩ (.int .u64 ((Q.2.2 : Nat) : Int))) := by
  have k := ap4 (n0 + 1 + 1) w (.int .u64 ((Q.1.1 : Nat) : Int)) (.int .u64 ((Q.1.2 : Nat) : Int)) (.int .u64 ((Q.2.1 : Nat) : Int)) (.int .u64 ((Q.2.2 : Nat) : Int))
  exact ⟨h.ta.ap k (by omega), h.tb.ap k (by omega), h.r1.store4 (pst Q), h.r2.ap k (by omega), h.ca.ap k (by omega) (by omega) (by omega), h.cb.ap k (by omega) (by omega) (by omega)⟩
theorem CS.put2 (h : CS n0 n1 f ia xa ib xb x y P1 P2 w) (hn : n0 + 4 ≤ n1) (Q : Dg × Dg) : CS n0 n1 f ia xa ib xb x y P1 Q ((((w.setCell ⟨n0 + 1 + 1 + 1, 0, none⟩ (.int .u64 ((Q.1.1 : Nat) : Int))).setCell ⟨n0 + 1 + 1 + 1, 1, none⟩ (.int .u64 ((Q.1.2 : Nat) : Int))).setCell ⟨n0 + 1 + 1 + 1, 2, none⟩ (.int .u64 ((Q.2.1 : Nat) : Int))).setCell ⟨n0 + 1 + 1 + 1, 3, none⟩ (.int .u64 ((Q.2.2 : Nat) : Int))) := by
  have k := ap4 (n0 + 1 + 1 + 1) w (.int .u64 ((Q.1.1 : Nat) : Int)) (.int .u64 ((Q.1.2 : Nat) : Int)) (.int .u64 ((Q.2.1 : Nat) : Int)) (.int .u64 ((Q.2.2 : Nat) : Int))
  exact ⟨h.ta.ap k (by omega), h.tb.ap k (by omega), h.r1.ap k (by omega), h.r2.store4 (pst Q), h.ca.ap k (by omega) (by omega) (by omega), h.cb.ap k (by omega) (by omega) (by omega)⟩
end
/-- The four boxes of Clash. -/
theorem cl_new {w : World} (hT : Tab w) (x y : Dg) (n0 : Nat) (hn : n0 = w.heap.size) : ∃ u, u = (((w.alloc (.cells #[.int .u64 ((x.1 : Nat) : Int), .int .u64 ((x.2 : Nat) : Int)] 36)).alloc (.cells #[.int .u64 ((y.1 : Nat) : Int), .int .u64 ((y.2 : Nat) : Int)] 36)).alloc (.cells #[.int .u64 0, .int .u64 0, .int .u64 0, .int .u64 0] 81)).alloc (.cells #[.int .u64 0, .int .u64 0, .int .u64 0, .int .u64 0] 81) ∧
    Blk n0 u [x.1, x.2] ∧ Blk (n0 + 1) u [y.1, y.2] ∧ Blk (n0 + 1 + 1) u (fl4 (ix (pst (zD, zD)))) ∧ Blk (n0 + 1 + 1 + 1) u (fl4 (ix (pst (zD, zD)))) ∧ On w u ∧ u.heap.size = n0 + 1 + 1 + 1 + 1 := by
  subst hn
  have o1 := (On.refl hT).alloc (.cells #[.int .u64 ((x.1 : Nat) : Int), .int .u64 ((x.2 : Nat) : Int)] 36)
  have o2 := (On.refl o1.tab).alloc (.cells #[.int .u64 ((y.1 : Nat) : Int), .int .u64 ((y.2 : Nat) : Int)] 36)
  have o3 := (On.refl o2.tab).alloc (.cells #[.int .u64 0, .int .u64 0, .int .u64 0, .int .u64 0] 81)
  have o4 := (On.refl o3.tab).alloc (.cells #[.int .u64 0, .int .u64 0, .int .u64 0, .int .u64 0] 81)
  have b1 := blk_new2 w x.1 x.2 36
  have b2 := blk_new2 (w.alloc (.cells #[.int .u64 ((x.1 : Nat) : Int), .int .u64 ((x.2 : Nat) : Int)] 36)) y.1 y.2 36
  have b3 := blk_new4 ((w.alloc (.cells #[.int .u64 ((x.1 : Nat) : Int), .int .u64 ((x.2 : Nat) : Int)] 36)).alloc (.cells #[.int .u64 ((y.1 : Nat) : Int), .int .u64 ((y.2 : Nat) : Int)] 36)) 0 0 0 0 81
  have b4 := blk_new4 (((w.alloc (.cells #[.int .u64 ((x.1 : Nat) : Int), .int .u64 ((x.2 : Nat) : Int)] 36)).alloc (.cells #[.int .u64 ((y.1 : Nat) : Int), .int .u64 ((y.2 : Nat) : Int)] 36)).alloc (.cells #[.int .u64 0, .int .u64 0, .int .u64 0, .int .u64 0] 81)) 0 0 0 0 81
  have s1 : (w.alloc (.cells #[.int .u64 ((x.1 : Nat) : Int), .int .u64 ((x.2 : Nat) : Int)] 36)).heap.size = w.heap.size + 1 := by simp
  have s2 : ((w.alloc (.cells #[.int .u64 ((x.1 : Nat) : Int), .int .u64 ((x.2 : Nat) : Int)] 36)).alloc (.cells #[.int .u64 ((y.1 : Nat) : Int), .int .u64 ((y.2 : Nat) : Int)] 36)).heap.size = w.heap.size + 1 + 1 := by simp
  have s3 : (((w.alloc (.cells #[.int .u64 ((x.1 : Nat) : Int), .int .u64 ((x.2 : Nat) : Int)] 36)).alloc (.cells #[.int .u64 ((y.1 : Nat) : Int), .int .u64 ((y.2 : Nat) : Int)] 36)).alloc (.cells #[.int .u64 0, .int .u64 0, .int .u64 0, .int .u64 0] 81)).heap.size = w.heap.size + 1 + 1 + 1 := by simp
  rw [s1] at b2
  rw [s2] at b3
  rw [s3] at b4
  exact ⟨_, rfl, ((b1.on o2).on o3).on o4, (b2.on o3).on o4, b3.on o4, b4, o1.trans (o2.trans (o3.trans o4)), by simp⟩
/-- What Clash returns. -/
def clashV (f i : Int) (a b : Dg) (p q : List Dg) : (Dg × Dg) × (Dg × Dg) × Bool :=
  if p.length = q.length ∧ opnB f i a p = true ∧ opnB f i b q = true ∧ clF f i.toNat a p p.length = clF f i.toNat b q p.length then csF f i.toNat a b p q p.length else ((zD, zD), (zD, zD), false)
abbrev clV (r : (Dg × Dg) × (Dg × Dg) × Bool) : Value := .tuple #[prV r.1, prV r.2.1, .bool r.2.2]
theorem zero_pairs {w : World} {R S : Nat} {g g' : Nat → Nat} (hne : R ≠ S) (hR : Blk R w (fl4 g)) (hS : Blk S w (fl4 g')) : (((((((((w.setCell ⟨R, 0, none⟩ (.int .u64 0)).setCell ⟨R, 1, none⟩ (.int .u64 0)).setCell ⟨R, 2, none⟩ (.int .u64 0)).setCell ⟨R, 3, none⟩ (.int .u64 0)).setCell ⟨S, 0, none⟩ (.int .u64 0)).setCell ⟨S, 1, none⟩ (.int .u64 0)).setCell ⟨S, 2, none⟩ (.int .u64 0)).setCell ⟨S, 3, none⟩ (.int .u64 0)).cell? ⟨R, 0, none⟩ = some (.int .u64 0) ∧ ((((((((w.setCell ⟨R, 0, none⟩ (.int .u64 0)).setCell ⟨R, 1, none⟩ (.int .u64 0)).setCell ⟨R, 2, none⟩ (.int .u64 0)).setCell ⟨R, 3, none⟩ (.int .u64 0)).setCell ⟨S, 0, none⟩ (.int .u64 0)).setCell ⟨S, 1, none⟩ (.int .u64 0)).setCell ⟨S, 2, none⟩ (.int .u64 0)).setCell ⟨S, 3, none⟩ (.int .u64 0)).cell? ⟨R, 1, none⟩ = some (.int .u64 0) ∧ ((((((((w.setCell ⟨R, 0, none⟩ (.int .u64 0)).setCell ⟨R, 1, none⟩ (.int .u64 0)).setCell ⟨R, 2, none⟩ (.int .u64 0)).setCell ⟨R, 3, none⟩ (.int .u64 0)).setCell ⟨S, 0, none⟩ (.int .u64 0)).setCell ⟨S, 1, none⟩ (.int .u64 0)).setCell ⟨S, 2, none⟩ (.int .u64 0)).setCell ⟨S, 3, none⟩ (.int .u64 0)).cell? ⟨R, 2, none⟩ = some (.int .u64 0) ∧ ((((((((w.setCell ⟨R, 0, none⟩ (.int .u64 0)).setCell ⟨R, 1, none⟩ (.int .u64 0)).setCell ⟨R, 2, none⟩ (.int .u64 0)).setCell ⟨R, 3, none⟩ (.int .u64 0)).setCell ⟨S, 0, none⟩ (.int .u64 0)).setCell ⟨S, 1, none⟩ (.int .u64 0)).setCell ⟨S, 2, none⟩ (.int .u64 0)).setCell ⟨S, 3, none⟩ (.int .u64 0)).cell? ⟨R, 3, none⟩ = some (.int .u64 0)) ∧ ((((((((w.setCell ⟨R, 0, none⟩ (.int .u64 0)).setCell ⟨R, 1, none⟩ (.int .u64 0)).setCell ⟨R, 2, none⟩ (.int .u64 0)).setCell ⟨R, 3, none⟩ (.int .u64 0)).setCell ⟨S, 0, none⟩ (.int .u64 0)).setCell ⟨S, 1, none⟩ (.int .u64 0)).setCell ⟨S, 2, none⟩ (.int .u64 0)).setCell ⟨S, 3, none⟩ (.int .u64 0)).cell? ⟨S, 0, none⟩ = some (.int .u64 0) ∧ ((((((((w.setCell ⟨R, 0, none⟩ (.int .u64 0)).setCell ⟨R, 1, none⟩ (.int .u64 0)).setCell ⟨R, 2, none⟩ (.int .u64 0)).setCell ⟨R, 3, none⟩ (.int .u64 0)).setCell ⟨S, 0, none⟩ (.int .u64 0)).setCell ⟨S, 1, none⟩ (.int .u64 0)).setCell ⟨S, 2, none⟩ (.int .u64 0)).setCell ⟨S, 3, none⟩ (.int .u64 0)).cell? ⟨S, 1, none⟩ = some (.int .u64 0) ∧ ((((((((w.setCell ⟨R, 0, none⟩ (.int .u64 0)).setCell ⟨R, 1, none⟩ (.int .u64 0)).setCell ⟨R, 2, none⟩ (.int .u64 0)).setCell ⟨R, 3, none⟩ (.int .u64 0)).setCell ⟨S, 0, none⟩ (.int .u64 0)).setCell ⟨S, 1, none⟩ (.int .u64 0)).setCell ⟨S, 2, none⟩ (.int .u64 0)).setCell ⟨S, 3, none⟩ (.int .u64 0)).cell? ⟨S, 2, none⟩ = some (.int .u64 0) ∧ ((((((((w.setCell ⟨R, 0, none⟩ (.int .u64 0)).setCell ⟨R, 1, none⟩ (.int .u64 0)).setCell ⟨R, 2, none⟩ (.int .u64 0)).setCell ⟨R, 3, none⟩ (.int .u64 0)).setCell ⟨S, 0, none⟩ (.int .u64 0)).setCell ⟨S, 1, none⟩ (.int .u64 0)).setCell ⟨S, 2, none⟩ (.int .u64 0)).setCell ⟨S, 3, none⟩ (.int .u64 0)).cell? ⟨S, 3, none⟩ = some (.int .u64 0) := by
  have h1 := (hR.store4 ⟨0, 0, 0, 0⟩).other4 (C := S) hne (.int .u64 0) (.int .u64 0) (.int .u64 0) (.int .u64 0)
  have h2 := (hS.other4 (C := R) hne.symm (.int .u64 0) (.int .u64 0) (.int .u64 0) (.int .u64 0)).store4 ⟨0, 0, 0, 0⟩
  exact ⟨h1.cells4, h2.cells4⟩
theorem build_pr (w : World) : (Instr.build 81 #[]).run Tryd.prog w = .ok (.agg #[.int .u64 0, .int .u64 0, .int .u64 0, .int .u64 0]) w := run_build w _ #[] #[.int .u64 0, .int .u64 0, .int .u64 0, .int .u64 0] (by kernel_rfl)
end Go.Proofs.YthepmahjpejmdaaDoor

/- Package tree: Clash, the good case: what the call returns. -/
namespace Go.Proofs.YthepmahjpejmdaaDoor
open Go.RowKit
set_option linter.unusedVariables false

theorem climber_new (f : Int) (i : Nat) (x : Dg) (w : World) (hT : Tab w) :
    Calls Tryd.prog 50 #[.int .i64 f, .int .i64 (i : Int), dgV x] w fun e w' =>
      e = .returned (.func (.func 60) #[] #[.pointer (some ⟨w.heap.size + 1 + 1, 0, none⟩), .pointer (some ⟨w.heap.size + 1, 0, none⟩), .pointer (some ⟨w.heap.size, 0, none⟩)]) ∧ On w w' ∧ Cb (w.heap.size + 1 + 1) (w.heap.size + 1) w.heap.size f i x w' ∧ w'.heap.size = w.heap.size + 1 + 1 + 1 :=
  (climber_any f (i : Int) x w).mono fun e w' ⟨he, hw⟩ => by
    subst hw
    exact ⟨he, (((On.refl hT).alloc _).alloc _).alloc _, cb_new f i x w _ rfl, by simp⟩
def clR (f : Int) (i : Nat) (a b : Dg) (p q : List Dg) : (Dg × Dg) × (Dg × Dg) × Bool := if clF f i a p p.length = clF f i b q p.length then csF f i a b p q p.length else ((zD, zD), (zD, zD), false)
end Go.Proofs.YthepmahjpejmdaaDoor

/- Package tree: Clash in all cases; what it says of openings. -/
namespace Go.Proofs.YthepmahjpejmdaaDoor
open Go.RowKit
set_option linter.unusedVariables false

/-- What is found are two different pairs with one node. -/
theorem clash_found (f i : Int) (a b : Dg) (p q : List Dg) (h : (clashV f i a b p q).2.2 = true) :
    (clashV f i a b p q).1 ≠ (clashV f i a b p q).2.1 ∧ nodeF f (clashV f i a b p q).1.1 (clashV f i a b p q).1.2 = nodeF f (clashV f i a b p q).2.1.1 (clashV f i a b p q).2.1.2 := by
  unfold clashV at h ⊢
  by_cases hc : p.length = q.length ∧ opnB f i a p = true ∧ opnB f i b q = true ∧ clF f i.toNat a p p.length = clF f i.toNat b q p.length
  · rw [if_pos hc] at h ⊢
    obtain ⟨h1, h2⟩ := csF_found f i.toNat a b p q p.length h
    exact ⟨h1, h2 hc.2.2.2⟩
  · rw [if_neg hc] at h; exact absurd h (by simp)
theorem checkB_parts {f i : Int} {cp : List Dg} {x : Dg} {p : List Dg} (h : checkB f cp i x p = true) : opnB f i x p = true ∧ clF f i.toNat x p p.length = cp.getD (i.toNat / 2 ^ p.length) zD := by
  unfold checkB at h
  cases hl : logN cp.length with
  | none => rw [hl] at h; simp at h
  | some c =>
    rw [hl] at h
    simp only [Bool.and_eq_true, decide_eq_true_eq] at h
    exact ⟨h.2.1, h.2.2.2.2⟩
theorem listD_ext {p q : List Dg} (hl : p.length = q.length) (h : ∀ t, t < p.length → p.getD t zD = q.getD t zD) : p = q := ext_dg hl fun j hj => h j (by omega)
/-- Who opens a place in two ways is found out. -/
theorem binds_plain (f i : Int) (cp : List Dg) (a b : Dg) (p q : List Dg) (hl : p.length = q.length) (h1 : checkB f cp i a p = true) (h2 : checkB f cp i b q = true) (hn : (clashV f i a b p q).2.2 = false) : a = b ∧ p = q := by
  obtain ⟨o1, c1⟩ := checkB_parts h1
  obtain ⟨o2, c2⟩ := checkB_parts h2
  have hc : clF f i.toNat a p p.length = clF f i.toNat b q p.length := by rw [c1]; rw [hl] at c1 ⊢; rw [c2]
  unfold clashV at hn
  rw [if_pos ⟨hl, o1, o2, hc⟩] at hn
  rcases Nat.eq_zero_or_pos p.length with h0 | h0
  · rw [h0] at hc
    exact ⟨hc, listD_ext hl fun t ht => absurd ht (by omega)⟩
  · obtain ⟨e1, e2⟩ := csF_none f i.toNat a b p q p.length h0 hn
    exact ⟨e1, listD_ext hl e2⟩
end Go.Proofs.YthepmahjpejmdaaDoor
