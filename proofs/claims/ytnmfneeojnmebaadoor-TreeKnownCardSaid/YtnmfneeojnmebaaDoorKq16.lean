/- Package tree: Check: what the call returns. -/
import Derived.Test.YtnmfneeojnmebaaDoorKq14
import Derived.Deep.RegionWith
import Derived.Test.YtnmfneeojnmebaaDoorKq15
import Derived.Test.YtnmfneeojnmebaaDoorKq13
set_option linter.unusedSimpArgs false
set_option linter.unusedVariables false
/- Package tree: Check: what the call returns. -/
namespace Go.Proofs.YtnmfneeojnmebaaDoor
open Go.RowKit
set_option linter.unusedVariables false

/-- What Climb returns. -/
def climbV (f i : Int) (x : Dg) (p : List Dg) : Dg := if opnB f i x p = true then clF f i.toNat x p p.length else zD
theorem climbV_yes {f i : Int} {x : Dg} {p : List Dg} (h : opnB f i x p = true) : climbV f i x p = clF f i.toNat x p p.length := if_pos h
theorem climbV_no {f i : Int} {x : Dg} {p : List Dg} (h : opnB f i x p = false) : climbV f i x p = zD := if_neg (by rw [h]; simp)
theorem opnB_nat {f i : Int} {x : Dg} {p : List Dg} (h : opnB f i x p = true) : i = (i.toNat : Int) := by
  unfold opnB at h
  simp only [Bool.and_eq_true, decide_eq_true_eq] at h
  have := h.2.1
  omega
theorem climbV_sm (f i : Int) (x : Dg) (p : List Dg) (hx : SmD x) : SmD (climbV f i x p) := by
  unfold climbV; split
  · exact clF_sm _ _ _ _ hx _
  · exact zD_sm
theorem climb_any (f i : Int) (x : Dg) (p : List Dg) (v : Value) (w : World) (hT : Tab w) (hx : SmD x) (hR : DR w v p) (hi : i ≤ 9223372036854775807) :
    Calls Tryd.prog 27 #[.int .i64 f, .int .i64 i, dgV x, v] w fun e w' => e = .returned (dgV (climbV f i x p)) ∧ On w w' := by
  cases h : opnB f i x p
  · rw [climbV_no h]; exact climb_no f i x p v w hT hx hR h
  · rw [climbV_yes h]
    have hn := opnB_nat h
    generalize i.toNat = n at *
    subst hn
    exact climb_yes f n x p v w hT hR (by omega) h
/-- What Check returns. -/
def checkB (f : Int) (cp : List Dg) (i : Int) (x : Dg) (p : List Dg) : Bool :=
  match logN cp.length with
  | none => false
  | some c => decide (c + p.length ≤ 18) && (opnB f i x p && (okA f cp && (decide (i.toNat / 2 ^ p.length < cp.length) && decide (clF f i.toNat x p p.length = cp.getD (i.toNat / 2 ^ p.length) zD))))
theorem eq_dg (a b : Dg) (w : World) : (Op.equalIn 10000 36 (dgV a) (dgV b)).run Tryd.prog w = .ok (decide (a = b)) w := by
  rw [eq2]
  obtain ⟨x, y⟩ := a
  obtain ⟨z, u⟩ := b
  congr 1
  simp only [Prod.mk.injEq, Bool.decide_and]
  congr 1 <;> (rw [Bool.eq_iff_iff]; simp; omega)
set_option maxHeartbeats 1000000 in
set_option maxRecDepth 100000 in
theorem check_none (f : Int) (cp : List Dg) (cv : Value) (i : Int) (x : Dg) (p : List Dg) (v : Value) (w : World) (hT : TZ w) (hC : DR w cv cp) (hno : logN cp.length = none) (hP : DR w v p) :
    Calls Tryd.prog 29 #[.int .i64 f, cv, .int .i64 i, dgV x, v] w fun e w' => e = .returned (.bool false) ∧ On w w' := by
  obtain ⟨ca, cc, rfl⟩ := hC.shape
  obtain ⟨pa, pc, rfl⟩ := hP.shape
  have HX := Lib.hid (fun w => exponent_none cp.length w (by have := hC.2.1; omega) hno)
  have HO := Lib.hid ((On.refl hT.1).alloc (.cells #[.int .u64 ((x.1 : Nat) : Int), .int .u64 ((x.2 : Nat) : Int)] 36))
  clear hC hP hno hT
  go_enter Tryd.func29, Tryd.ntmps29
  go_wp2_with (go_at_call 37; refine (HX.out _).mono ?_; rintro e w' ⟨rfl, rfl⟩)
  go_ret
  exact ⟨rfl, HO.out⟩
set_option maxHeartbeats 4000000 in
set_option maxRecDepth 100000 in
theorem check_some (f : Int) (cp : List Dg) (cv : Value) (i : Int) (x : Dg) (p : List Dg) (v : Value) (c : Nat) (w : World) (hT : TZ w) (hC : DR w cv cp) (hc : logN cp.length = some c) (hx : SmD x) (hP : DR w v p) (hi : i ≤ 9223372036854775807) :
    Calls Tryd.prog 29 #[.int .i64 f, cv, .int .i64 i, dgV x, v] w fun e w' => e = .returned (.bool (decide (c + p.length ≤ 18) && (opnB f i x p && (okA f cp && (decide (i.toNat / 2 ^ p.length < cp.length) && decide (clF f i.toNat x p p.length = cp.getD (i.toNat / 2 ^ p.length) zD)))))) ∧ On w w' := by
  obtain ⟨ca, cc, rfl⟩ := hC.shape
  obtain ⟨pa, pc, rfl⟩ := hP.shape
  obtain ⟨hcl, hc18⟩ := logN_some hc
  obtain ⟨u, hu⟩ : ∃ u, u = w.alloc (.cells #[.int .u64 ((x.1 : Nat) : Int), .int .u64 ((x.2 : Nat) : Int)] 36) := ⟨_, rfl⟩
  have HU := Lib.hid hu
  have HO : Hid (On w u) := by refine Lib.hid ?_; rw [hu]; exact (On.refl hT.1).alloc _
  have HB : Hid (Blk w.heap.size u [x.1, x.2]) := by refine Lib.hid ?_; rw [hu]; exact blk_new2 w _ _ _
  have HX := Lib.hid (exponent_some c cp.length u (hT.on HO.out) hc18 hcl)
  have HI := Lib.hid (isOpening_any f i x p _ u HO.out.tab hx (hP.on HO.out))
  have HPR := Lib.hid (fun w' (h : On u w') => proper_any f cp _ w' h.tab ((hC.on HO.out).on h))
  have HCL := Lib.hid (fun w' (h : On u w') => climb_any f i x p _ w' h.tab hx ((hP.on HO.out).on h) hi)
  have HC := Lib.hid (hC.on HO.out)
  obtain ⟨x0, x1⟩ := HB.out.cells2
  have hpl := hP.2.1
  have hcl2 := hC.2.1
  clear hT hC hP hc hx hu hcl
  by_cases h18 : c + p.length ≤ 18
  rotate_left
  · have hd : decide (c + p.length ≤ 18) = false := decide_eq_false h18
    have hl : ¬ (c : Int) + (p.length : Int) ≤ 18 := by omega
    have hl2 : (18 : Int) < (c : Int) + (p.length : Int) := by omega
    rw [hd]
    clear hd h18 hl
    go_enter Tryd.func29, Tryd.ntmps29
    go_upto_region 1 with fail
    rw [← HU.out]
    go_wp2_with (first
      | (go_at_call 37; (with_reducible refine HX.out.mono ?_); rintro e w' ⟨rfl, rfl⟩))
    go_ret
    exact ⟨rfl, HO.out⟩
  have hd : decide (c + p.length ≤ 18) = true := decide_eq_true h18
  have hl2 : ¬ (18 : Int) < (c : Int) + (p.length : Int) := by omega
  have hdl : decide ((18 : Int) < (c : Int) + (p.length : Int)) = false := decide_eq_false hl2
  rw [hd]
  clear hd hl2
  cases hop : opnB f i x p
  · rw [hop] at HI; clear hop h18
    go_enter Tryd.func29, Tryd.ntmps29
    go_upto_region 1 with fail
    rw [← HU.out]
    go_wp2_with (first
      | (go_at_call 37; (with_reducible refine HX.out.mono ?_); rintro e w' ⟨rfl, rfl⟩)
      | (go_at_call 51; (with_reducible refine HI.out.mono ?_); rintro e w1 ⟨rfl, hO1⟩; have HO1 := Lib.hid hO1; clear hO1))
    go_ret
    exact ⟨rfl, HO.out.trans HO1.out⟩
  have HIN := Lib.hid (opnB_nat hop)
  have HCV := Lib.hid (climbV_yes hop)
  rw [hop] at HI
  clear hop
  cases hok : okA f cp
  · rw [hok] at HPR; clear hok h18 HCV
    go_enter Tryd.func29, Tryd.ntmps29
    go_upto_region 1 with fail
    rw [← HU.out]
    go_wp2_with (first
      | (go_at_call 37; (with_reducible refine HX.out.mono ?_); rintro e w' ⟨rfl, rfl⟩)
      | (go_at_call 51; (with_reducible refine HI.out.mono ?_); rintro e w1 ⟨rfl, hO1⟩; have HO1 := Lib.hid hO1; clear hO1)
      | (go_at_call 39; (with_reducible refine (HPR.out _ HO1.out).mono ?_); rintro e w2 ⟨rfl, hO2⟩; have HO2 := Lib.hid (HO1.out.trans hO2); clear hO2))
    go_ret
    exact ⟨rfl, HO.out.trans HO2.out⟩
  rw [hok] at HPR
  clear hok
  rw [HCV.out] at HCL
  clear HCV
  have hin := HIN.out
  clear HIN
  generalize i.toNat = j at *
  subst hin
  have hsh : ((j : Nat) : Int) / 2 ^ p.length = ((j / 2 ^ p.length : Nat) : Int) := by rw [Int.natCast_ediv]; simp
  have hqb : j / 2 ^ p.length ≤ j := Nat.div_le_self _ _
  generalize j / 2 ^ p.length = q at *
  by_cases hq : q < cp.length
  rotate_left
  · have hd : decide (q < cp.length) = false := decide_eq_false hq
    have hqd : decide (((q : Nat) : Int) < (cp.length : Int)) = false := by simp; omega
    have hq3 : cp.length ≤ q := by omega
    rw [hd]
    clear hd hq HCL
    go_enter Tryd.func29, Tryd.ntmps29
    go_upto_region 1 with fail
    rw [← HU.out]
    go_wp2_with (first
      | (go_at_call 37; (with_reducible refine HX.out.mono ?_); rintro e w' ⟨rfl, rfl⟩)
      | (go_at_call 51; (with_reducible refine HI.out.mono ?_); rintro e w1 ⟨rfl, hO1⟩; have HO1 := Lib.hid hO1; clear hO1)
      | (go_at_call 39; (with_reducible refine (HPR.out _ HO1.out).mono ?_); rintro e w2 ⟨rfl, hO2⟩; have HO2 := Lib.hid (HO1.out.trans hO2); clear hO2))
    refine region_keep_tail (fun wq => On w2 wq) 16 (by kernel_rfl) (by kernel_rfl) (On.refl HO2.out.tab).drew ?_
    simp only [List.take_succ_cons, List.take_zero, List.drop_succ_cons, List.drop_zero]
    refine quiet_start fun L9 hL9 => ?_
    refine quiet_take (v := ?nv0) hL9 (by kernel_rfl) (fun wq hwq => ?ny0) (fun L9 hL9 => ?nr0)
    case ny0 => (go_simp; try with_reducible rfl)
    try simp only [Act.put, List.setIfInBounds_toArray, List.set_cons_zero, List.set_cons_succ]
    refine quiet_take (v := ?nv1) hL9 (by kernel_rfl) (fun wq hwq => ?ny1) (fun L9 hL9 => ?nr1)
    case ny1 => (go_simp; try with_reducible rfl)
    try simp only [Act.put, List.setIfInBounds_toArray, List.set_cons_zero, List.set_cons_succ]
    refine quiet_take (v := ?nv2) hL9 (by kernel_rfl) (fun wq hwq => ?ny2) (fun L9 hL9 => ?nr2)
    case ny2 => (go_simp; try with_reducible rfl)
    try simp only [Act.put, List.setIfInBounds_toArray, List.set_cons_zero, List.set_cons_succ]
    refine quiet_take (v := .bool false) hL9 (by kernel_rfl) (fun wq hwq => ?ny3) (fun L9 hL9 => ?nr3)
    case ny3 => (go_simp; try with_reducible rfl)
    try simp only [Act.put, List.setIfInBounds_toArray, List.set_cons_zero, List.set_cons_succ]
    refine quiet_take (v := .bool false) hL9 (by kernel_rfl) (fun wq hwq => ?ny4) (fun L9 hL9 => ?nr4)
    case ny4 => (go_simp; try with_reducible rfl)
    try simp only [Act.put, List.setIfInBounds_toArray, List.set_cons_zero, List.set_cons_succ]
    refine quiet_skip hL9 (by kernel_rfl) (fun L9 hL9 => ?_)
    try simp only [Act.put, List.setIfInBounds_toArray, List.set_cons_zero, List.set_cons_succ]
    refine quiet_skip hL9 (by kernel_rfl) (fun L9 hL9 => ?_)
    try simp only [Act.put, List.setIfInBounds_toArray, List.set_cons_zero, List.set_cons_succ]
    refine quiet_skip hL9 (by kernel_rfl) (fun L9 hL9 => ?_)
    try simp only [Act.put, List.setIfInBounds_toArray, List.set_cons_zero, List.set_cons_succ]
    refine quiet_skip hL9 (by kernel_rfl) (fun L9 hL9 => ?_)
    try simp only [Act.put, List.setIfInBounds_toArray, List.set_cons_zero, List.set_cons_succ]
    refine quiet_skip hL9 (by kernel_rfl) (fun L9 hL9 => ?_)
    try simp only [Act.put, List.setIfInBounds_toArray, List.set_cons_zero, List.set_cons_succ]
    refine quiet_skip hL9 (by kernel_rfl) (fun L9 hL9 => ?_)
    try simp only [Act.put, List.setIfInBounds_toArray, List.set_cons_zero, List.set_cons_succ]
    refine quiet_skip hL9 (by kernel_rfl) (fun L9 hL9 => ?_)
    try simp only [Act.put, List.setIfInBounds_toArray, List.set_cons_zero, List.set_cons_succ]
    refine quiet_skip hL9 (by kernel_rfl) (fun L9 hL9 => ?_)
    try simp only [Act.put, List.setIfInBounds_toArray, List.set_cons_zero, List.set_cons_succ]
    refine quiet_skip hL9 (by kernel_rfl) (fun L9 hL9 => ?_)
    try simp only [Act.put, List.setIfInBounds_toArray, List.set_cons_zero, List.set_cons_succ]
    refine quiet_skip hL9 (by kernel_rfl) (fun L9 hL9 => ?_)
    try simp only [Act.put, List.setIfInBounds_toArray, List.set_cons_zero, List.set_cons_succ]
    refine quiet_take (v := .bool false) hL9 (by kernel_rfl) (fun wq hwq => ?ny15) (fun L9 hL9 => ?nr15)
    case ny15 => (go_simp; try with_reducible rfl)
    try simp only [Act.put, List.setIfInBounds_toArray, List.set_cons_zero, List.set_cons_succ]
    refine quiet_nil hL9 ?_
    clear hL9
    intro wz HOz
    have HOz := Lib.hid HOz
    go_wp2
    go_ret
    exact ⟨by simp, (HO.out.trans HO2.out).trans HOz.out⟩
  have hd : decide (q < cp.length) = true := decide_eq_true hq
  have hqd : decide (((q : Nat) : Int) < (cp.length : Int)) = true := by simp; omega
  have hql : ((q : Nat) : Int) < (cp.length : Int) := by omega
  rw [hd]
  clear hd
  obtain ⟨b, off, rfl, c0, c1⟩ := HC.out.cells q hq
  have HC0 := Lib.hid c0; have HC1 := Lib.hid c1
  generalize clF f j x p p.length = y at *
  generalize cp.getD q zD = z at *
  have heq := eq_dg y z
  generalize decide (y = z) = E at *
  clear c0 c1 hq
  go_enter Tryd.func29, Tryd.ntmps29
  go_upto_region 1 with fail
  rw [← HU.out]
  go_wp2_with (first
    | (go_at_call 37; (with_reducible refine HX.out.mono ?_); rintro e w' ⟨rfl, rfl⟩)
    | (go_at_call 51; (with_reducible refine HI.out.mono ?_); rintro e w1 ⟨rfl, hO1⟩; have HO1 := Lib.hid hO1; clear hO1)
    | (go_at_call 39; (with_reducible refine (HPR.out _ HO1.out).mono ?_); rintro e w2 ⟨rfl, hO2⟩; have HO2 := Lib.hid (HO1.out.trans hO2); clear hO2))
  have HO2' := Lib.hid HO2.out
  have HK : Hid (∀ wq, On w2 wq → (wq.cell? ⟨w.heap.size, 0, none⟩ = some (.int .u64 ((x.1 : Nat) : Int)) ∧ wq.cell? ⟨w.heap.size, 1, none⟩ = some (.int .u64 ((x.2 : Nat) : Int))) ∧ wq.cell? ⟨b, off + q * 2, none⟩ = some (.int .u64 ((z.1 : Nat) : Int)) ∧ wq.cell? ⟨b, off + q * 2 + 1, none⟩ = some (.int .u64 ((z.2 : Nat) : Int))) := fun wq h => by
    have hO := HO2.out.trans h
    exact ⟨(HB.out.on hO).cells2, (hO.cell (p := ⟨b, off + q * 2, none⟩) (cell_size HC0.out)).trans HC0.out, (hO.cell (p := ⟨b, off + q * 2 + 1, none⟩) (cell_size HC1.out)).trans HC1.out⟩
  replace HCL : Hid (∀ wq, On w2 wq → Calls Tryd.prog 27 #[.int .i64 f, .int .i64 ((j : Nat) : Int), dgV x, .slice pa p.length pc] wq fun e w' => e = .returned (dgV y) ∧ On w2 w') := fun wq h => (HCL.out wq (HO2.out.trans h)).mono fun e w' ⟨he, ho⟩ => ⟨he, h.trans ho⟩
  clear x0 x1
  refine region_keep_tail (fun wq => On w2 wq) 16 (by kernel_rfl) (by kernel_rfl) (On.refl HO2.out.tab).drew ?_
  simp only [List.take_succ_cons, List.take_zero, List.drop_succ_cons, List.drop_zero]
  refine quiet_start fun L9 hL9 => ?_
  refine quiet_take (v := ?mv0) hL9 (by kernel_rfl) (fun wq hwq => ?my0) (fun L9 hL9 => ?mr0)
  case my0 => (go_simp; try with_reducible rfl)
  try simp only [Act.put, List.setIfInBounds_toArray, List.set_cons_zero, List.set_cons_succ]
  refine quiet_take (v := ?mv1) hL9 (by kernel_rfl) (fun wq hwq => ?my1) (fun L9 hL9 => ?mr1)
  case my1 => (go_simp; try with_reducible rfl)
  try simp only [Act.put, List.setIfInBounds_toArray, List.set_cons_zero, List.set_cons_succ]
  refine quiet_take (v := ?mv2) hL9 (by kernel_rfl) (fun wq hwq => ?my2) (fun L9 hL9 => ?mr2)
  case my2 => (go_simp; try with_reducible rfl)
  try simp only [Act.put, List.setIfInBounds_toArray, List.set_cons_zero, List.set_cons_succ]
  refine quiet_take (v := .bool true) hL9 (by kernel_rfl) (fun wq hwq => ?my3) (fun L9 hL9 => ?mr3)
  case my3 => (go_simp; try with_reducible rfl)
  try simp only [Act.put, List.setIfInBounds_toArray, List.set_cons_zero, List.set_cons_succ]
  refine quiet_take (v := .bool true) hL9 (by kernel_rfl) (fun wq hwq => ?my4) (fun L9 hL9 => ?mr4)
  case my4 => (go_simp; try with_reducible rfl)
  try simp only [Act.put, List.setIfInBounds_toArray, List.set_cons_zero, List.set_cons_succ]
  refine quiet_take (v := ?mv5) hL9 (by kernel_rfl) (fun wq hwq => ?my5) (fun L9 hL9 => ?mr5)
  case my5 => (go_simp; try with_reducible rfl)
  try simp only [Act.put, List.setIfInBounds_toArray, List.set_cons_zero, List.set_cons_succ]
  refine quiet_take (v := ?mv6) hL9 (by kernel_rfl) (fun wq hwq => ?my6) (fun L9 hL9 => ?mr6)
  case my6 => (go_simp; try with_reducible rfl)
  try simp only [Act.put, List.setIfInBounds_toArray, List.set_cons_zero, List.set_cons_succ]
  refine quiet_take (v := dgV x) hL9 (by kernel_rfl) (fun wq hwq => ?my7) (fun L9 hL9 => ?mr7)
  case my7 => (obtain ⟨⟨x0, x1⟩, z0, z1⟩ := HK.out wq hwq; go_simp; try with_reducible rfl)
  try simp only [Act.put, List.setIfInBounds_toArray, List.set_cons_zero, List.set_cons_succ]
  refine quiet_take (v := ?mv8) hL9 (by kernel_rfl) (fun wq hwq => ?my8) (fun L9 hL9 => ?mr8)
  case my8 => (go_simp; try with_reducible rfl)
  try simp only [Act.put, List.setIfInBounds_toArray, List.set_cons_zero, List.set_cons_succ]
  refine quiet_take (v := dgV y) hL9 (by kernel_rfl) (fun wq hwq => ?my9) (fun L9 hL9 => ?mr9)
  case my9 => (go_simp; go_at_call 27; exact HCL.out wq hwq)
  try simp only [Act.put, List.setIfInBounds_toArray, List.set_cons_zero, List.set_cons_succ]
  refine quiet_take (v := ?mv10) hL9 (by kernel_rfl) (fun wq hwq => ?my10) (fun L9 hL9 => ?mr10)
  case my10 => (go_simp; try with_reducible rfl)
  try simp only [Act.put, List.setIfInBounds_toArray, List.set_cons_zero, List.set_cons_succ]
  refine quiet_take (v := ?mv11) hL9 (by kernel_rfl) (fun wq hwq => ?my11) (fun L9 hL9 => ?mr11)
  case my11 => (go_simp; try with_reducible rfl)
  try simp only [Act.put, List.setIfInBounds_toArray, List.set_cons_zero, List.set_cons_succ]
  refine quiet_take (v := .pointer (some ⟨b, off + q * 2, none⟩)) hL9 (by kernel_rfl) (fun wq hwq => ?my12) (fun L9 hL9 => ?mr12)
  case my12 => (go_simp; try with_reducible rfl)
  try simp only [Act.put, List.setIfInBounds_toArray, List.set_cons_zero, List.set_cons_succ]
  refine quiet_take (v := dgV z) hL9 (by kernel_rfl) (fun wq hwq => ?my13) (fun L9 hL9 => ?mr13)
  case my13 => (obtain ⟨⟨x0, x1⟩, z0, z1⟩ := HK.out wq hwq; go_simp; try with_reducible rfl)
  try simp only [Act.put, List.setIfInBounds_toArray, List.set_cons_zero, List.set_cons_succ]
  refine quiet_take (v := .bool E) hL9 (by kernel_rfl) (fun wq hwq => ?my14) (fun L9 hL9 => ?mr14)
  case my14 => (go_simp; try with_reducible rfl)
  try simp only [Act.put, List.setIfInBounds_toArray, List.set_cons_zero, List.set_cons_succ]
  refine quiet_take (v := .bool E) hL9 (by kernel_rfl) (fun wq hwq => ?my15) (fun L9 hL9 => ?mr15)
  case my15 => (go_simp; try with_reducible rfl)
  try simp only [Act.put, List.setIfInBounds_toArray, List.set_cons_zero, List.set_cons_succ]
  refine quiet_nil hL9 ?_
  clear hL9
  intro wz HOz
  have HOz := Lib.hid HOz
  go_wp2
  go_ret
  exact ⟨by simp, (HO.out.trans HO2.out).trans HOz.out⟩
theorem check_any (f : Int) (cp : List Dg) (cv : Value) (i : Int) (x : Dg) (p : List Dg) (v : Value) (w : World) (hT : TZ w) (hC : DR w cv cp) (hx : SmD x) (hP : DR w v p) (hi : i ≤ 9223372036854775807) :
    Calls Tryd.prog 29 #[.int .i64 f, cv, .int .i64 i, dgV x, v] w fun e w' => e = .returned (.bool (checkB f cp i x p)) ∧ On w w' := by
  unfold checkB
  rcases h : logN cp.length with _ | c
  · exact check_none f cp cv i x p v w hT hC h hP
  · exact check_some f cp cv i x p v c w hT hC h hx hP hi
end Go.Proofs.YtnmfneeojnmebaaDoor

/- Comparing digests, and pairs of digests. -/
namespace Go.Proofs.YtnmfneeojnmebaaDoor
open Go.RowKit
set_option linter.unusedVariables false

theorem cellsD : Tryd.prog.cellsOf 36 = 2 := by kernel_rfl
theorem eqDg (d : Nat) (a b : Dg) (w : World) : (Op.equalIn (d + 1 + 1) 36 (dgV a) (dgV b)).run Tryd.prog w = .ok (decide (a = b)) w := by
  obtain ⟨i, hi⟩ : ∃ i, Tryd.prog.info? 34 = some i := Option.isSome_iff_exists.1 (by kernel_rfl)
  rw [run_equalIn_array w (d + 1) _ _ Tryd.underlying36 hi, cellsU]
  rw [show List.range 2 = [0, 1] from rfl]
  rw [items_step d 0 _ _ _ _ _ w rfl rfl, items_step d 1 _ _ _ _ _ w rfl rfl]
  obtain ⟨x, y⟩ := a
  obtain ⟨z, u⟩ := b
  simp only [Prod.mk.injEq, Bool.decide_and]
  have e1 : ((x : Int) == (z : Int)) = decide (x = z) := by rw [Bool.eq_iff_iff]; simp; omega
  have e2 : ((y : Int) == (u : Int)) = decide (y = u) := by rw [Bool.eq_iff_iff]; simp; omega
  rw [e1, e2]
  cases decide (x = z) <;> cases decide (y = u) <;> simp [Op.eqItems]
theorem part_dg (xs : Array Value) (off : Nat) (v : Value) (h : Value.agg (xs.extract off (off + 2)) = v) (w : World) : (part 36 xs off).run Tryd.prog w = .ok v w := by
  obtain ⟨i, hi⟩ : ∃ i, Tryd.prog.info? 36 = some i := Option.isSome_iff_exists.1 (by kernel_rfl)
  have hs := run_sizeOf w hi
  rw [cellsD] at hs
  simp [part, isAgg, run_underlying Tryd.underlying36, hs, h]
theorem eq_pr (P Q : Dg × Dg) (w : World) : (Op.equalIn 10000 48 (prV P) (prV Q)).run Tryd.prog w = .ok (decide (P = Q)) w := by
  obtain ⟨i, hi⟩ : ∃ i, Tryd.prog.info? 36 = some i := Option.isSome_iff_exists.1 (by kernel_rfl)
  rw [show (10000 : Nat) = 9997 + 1 + 1 + 1 from rfl, run_equalIn_array w (9997 + 1 + 1) _ _ Tryd.underlying48 hi, cellsD]
  rw [show List.range 2 = [0, 1] from rfl]
  have hD : ∀ (a b : Dg) (w : World), (Op.equalIn 9999 36 (dgV a) (dgV b)).run Tryd.prog w = .ok (decide (a = b)) w := fun a b w => eqDg 9997 a b w
  obtain ⟨a, b⟩ := P
  obtain ⟨c, e⟩ := Q
  have h0 := fun w => part_dg (#[Value.int .u64 ((a.1 : Nat) : Int), .int .u64 ((a.2 : Nat) : Int), .int .u64 ((b.1 : Nat) : Int), .int .u64 ((b.2 : Nat) : Int)]) 0 (dgV a) rfl w
  have h1 := fun w => part_dg (#[Value.int .u64 ((a.1 : Nat) : Int), .int .u64 ((a.2 : Nat) : Int), .int .u64 ((b.1 : Nat) : Int), .int .u64 ((b.2 : Nat) : Int)]) 2 (dgV b) rfl w
  have h2 := fun w => part_dg (#[Value.int .u64 ((c.1 : Nat) : Int), .int .u64 ((c.2 : Nat) : Int), .int .u64 ((e.1 : Nat) : Int), .int .u64 ((e.2 : Nat) : Int)]) 0 (dgV c) rfl w
  have h3 := fun w => part_dg (#[Value.int .u64 ((c.1 : Nat) : Int), .int .u64 ((c.2 : Nat) : Int), .int .u64 ((e.1 : Nat) : Int), .int .u64 ((e.2 : Nat) : Int)]) 2 (dgV e) rfl w
  simp only [Op.eqItems, Sem.run_bind, Nat.zero_mul, Nat.one_mul, h0, h1, h2, h3, Result.andThen_ok, hD, Prod.mk.injEq, Bool.decide_and]
  cases decide (a = c)
  · simp
  · simp only [Bool.true_and]
    simp [h1, h3, hD, Result.andThen]
    by_cases hbe : b = e <;> simp [hbe]
end Go.Proofs.YtnmfneeojnmebaaDoor

/- Package tree: Clash: what the call returns. -/
namespace Go.Proofs.YtnmfneeojnmebaaDoor
open Go.RowKit
set_option linter.unusedVariables false

/-- The memory of Clash: the two digests, the two pairs found, the two climbers. -/
structure CS (n0 n1 : Nat) (f : Int) (ia : Nat) (xa : Dg) (ib : Nat) (xb : Dg) (x y : Dg) (P1 P2 : Dg × Dg) (w : World) : Prop where
  ta : Blk n0 w [x.1, x.2]
  tb : Blk (n0 + 1) w [y.1, y.2]
  r1 : Blk (n0 + 1 + 1) w (fl4 (ix (pst P1)))
  r2 : Blk (n0 + 1 + 1 + 1) w (fl4 (ix (pst P2)))
  ca : Cb (n1 + 1 + 1) (n1 + 1) n1 f ia xa w
  cb : Cb (n1 + 1 + 1 + 1 + 1 + 1) (n1 + 1 + 1 + 1 + 1) (n1 + 1 + 1 + 1) f ib xb w
section
variable {n0 n1 : Nat} {f : Int} {ia ib : Nat} {xa xb x y : Dg} {P1 P2 : Dg × Dg} {w w' : World}
theorem CS.on (h : CS n0 n1 f ia xa ib xb x y P1 P2 w) (k : On w w') : CS n0 n1 f ia xa ib xb x y P1 P2 w' := ⟨h.ta.on k, h.tb.on k, h.r1.on k, h.r2.on k, h.ca.on k, h.cb.on k⟩
theorem CS.ap {C : Nat} (h : CS n0 n1 f ia xa ib xb x y P1 P2 w) (hn : n0 + 4 ≤ n1) (hC : n1 + 6 ≤ C) (k : Ap C w w') : CS n0 n1 f ia xa ib xb x y P1 P2 w' :=
  ⟨h.ta.ap k (by omega), h.tb.ap k (by omega), h.r1.ap k (by omega), h.r2.ap k (by omega), h.ca.ap k (by omega) (by omega) (by omega), h.cb.ap k (by omega) (by omega) (by omega)⟩
theorem CS.stepA {ia' : Nat} {xa' : Dg} (h : CS n0 n1 f ia xa ib xb x y P1 P2 w) (hn : n0 + 4 ≤ n1) (k : K2 (n1 + 1 + 1) (n1 + 1) w w') (hc : Cb (n1 + 1 + 1) (n1 + 1) n1 f ia' xa' w') : CS n0 n1 f ia' xa' ib xb x y P1 P2 w' :=
  ⟨h.ta.k2 k (by omega) (by omega), h.tb.k2 k (by omega) (by omega), h.r1.k2 k (by omega) (by omega), h.r2.k2 k (by omega) (by omega), hc, h.cb.k2 k (by omega) (by omega) (by omega) (by omega) (by omega) (by omega)⟩
theorem CS.stepB {ib' : Nat} {xb' : Dg} (h : CS n0 n1 f ia xa ib xb x y P1 P2 w) (hn : n0 + 4 ≤ n1) (k : K2 (n1 + 1 + 1 + 1 + 1 + 1) (n1 + 1 + 1 + 1 + 1) w w') (hc : Cb (n1 + 1 + 1 + 1 + 1 + 1) (n1 + 1 + 1 + 1 + 1) (n1 + 1 + 1 + 1) f ib' xb' w') : CS n0 n1 f ia xa ib' xb' x y P1 P2 w' :=
  ⟨h.ta.k2 k (by omega) (by omega), h.tb.k2 k (by omega) (by omega), h.r1.k2 k (by omega) (by omega), h.r2.k2 k (by omega) (by omega), h.ca.k2 k (by omega) (by omega) (by omega) (by omega) (by omega) (by omega), hc⟩
theorem CS.putA (h : CS n0 n1 f ia xa ib xb x y P1 P2 w) (hn : n0 + 4 ≤ n1) (z : Dg) : CS n0 n1 f ia xa ib xb z y P1 P2 ((w.setCell ⟨n0, 0, none⟩ (.int .u64 ((z.1 : Nat) : Int))).setCell ⟨n0, 1, none⟩ (.int .u64 ((z.2 : Nat) : Int))) := by
  have k := ap2 n0 w (.int .u64 ((z.1 : Nat) : Int)) (.int .u64 ((z.2 : Nat) : Int))
  exact ⟨h.ta.store2 z.1 z.2, h.tb.ap k (by omega), h.r1.ap k (by omega), h.r2.ap k (by omega), h.ca.ap k (by omega) (by omega) (by omega), h.cb.ap k (by omega) (by omega) (by omega)⟩
theorem CS.putB (h : CS n0 n1 f ia xa ib xb x y P1 P2 w) (hn : n0 + 4 ≤ n1) (z : Dg) : CS n0 n1 f ia xa ib xb x z P1 P2 ((w.setCell ⟨n0 + 1, 0, none⟩ (.int .u64 ((z.1 : Nat) : Int))).setCell ⟨n0 + 1, 1, none⟩ (.int .u64 ((z.2 : Nat) : Int))) := by
  have k := ap2 (n0 + 1) w (.int .u64 ((z.1 : Nat) : Int)) (.int .u64 ((z.2 : Nat) : Int))
  exact ⟨h.ta.ap k (by omega), h.tb.store2 z.1 z.2, h.r1.ap k (by omega), h.r2.ap k (by omega), h.ca.ap k (by omega) (by omega) (by omega), h.cb.ap k (by omega) (by omega) (by omega)⟩
theorem ap4 (T : Nat) (w : World) (a b c d : Value) : Ap T w ((((w.setCell ⟨T, 0, none⟩ a).setCell ⟨T, 1, none⟩ b).setCell ⟨T, 2, none⟩ c).setCell ⟨T, 3, none⟩ d) := ((((Ap.refl _ _).setCell _ _).setCell _ _).setCell _ _).setCell _ _
theorem CS.put1 (h : CS n0 n1 f ia xa ib xb x y P1 P2 w) (hn : n0 + 4 ≤ n1) (Q : Dg × Dg) : CS n0 n1 f ia xa ib xb x y Q P2 ((((w.setCell ⟨n0 + 1 + 1, 0, none⟩ (.int .u64 ((Q.1.1 : Nat) : Int))).setCell ⟨n0 + 1 + 1, 1, none⟩ (.int .u64 ((Q.1.2 : Nat) : Int))).setCell ⟨n0 + 1 + 1, 2, none⟩ (.int .u64 ((Q.2.1 : Nat) : Int))).setCell ⟨n0 + 1 + 1, 3, none⟩ (.int .u64 ((Q.2.2 : Nat) : Int))) := by
  have k := ap4 (n0 + 1 + 1) w (.int .u64 ((Q.1.1 : Nat) : Int)) (.int .u64 ((Q.1.2 : Nat) : Int)) (.int .u64 ((Q.2.1 : Nat) : Int)) (.int .u64 ((Q.2.2 : Nat) : Int))
  exact ⟨h.ta.ap k (by omega), h.tb.ap k (by omega), h.r1.store4 (pst Q), h.r2.ap k (by omega), h.ca.ap k (by omega) (by omega) (by omega), h.cb.ap k (by omega) (by omega) (by omega)⟩
theorem CS.put2 (h : CS n0 n1 f ia xa ib xb x y P1 P2 w) (hn : n0 + 4 ≤ n1) (Q : Dg × Dg) : CS n0 n1 f ia xa ib xb x y P1 Q ((((w.setCell ⟨n0 + 1 + 1 + 1, 0, none⟩ (.int .u64 ((Q.1.1 : Nat) : Int))).setCell ⟨n0 + 1 + 1 + 1, 1, none⟩ (.int .u64 ((Q.1.2 : Nat) : Int))).setCell ⟨n0 + 1 + 1 + 1, 2, none⟩ (.int .u64 ((Q.2.1 : Nat) : Int))).setCell ⟨n0 + 1 + 1 + 1, 3, none⟩ (.int .u64 ((Q.2.2 : Nat) : Int))) := by
  have k := ap4 (n0 + 1 + 1 + 1) w (.int .u64 ((Q.1.1 : Nat) : Int)) (.int .u64 ((Q.1.2 : Nat) : Int)) (.int .u64 ((Q.2.1 : Nat) : Int)) (.int .u64 ((Q.2.2 : Nat) : Int))
  exact ⟨h.ta.ap k (by omega), h.tb.ap k (by omega), h.r1.ap k (by omega), h.r2.store4 (pst Q), h.ca.ap k (by omega) (by omega) (by omega), h.cb.ap k (by omega) (by omega) (by omega)⟩
end
/-- The four boxes of Clash. -/
theorem cl_new {w : World} (hT : Tab w) (x y : Dg) (n0 : Nat) (hn : n0 = w.heap.size) : ∃ u, u = (((w.alloc (.cells #[.int .u64 ((x.1 : Nat) : Int), .int .u64 ((x.2 : Nat) : Int)] 36)).alloc (.cells #[.int .u64 ((y.1 : Nat) : Int), .int .u64 ((y.2 : Nat) : Int)] 36)).alloc (.cells #[.int .u64 0, .int .u64 0, .int .u64 0, .int .u64 0] 48)).alloc (.cells #[.int .u64 0, .int .u64 0, .int .u64 0, .int .u64 0] 48) ∧
    Blk n0 u [x.1, x.2] ∧ Blk (n0 + 1) u [y.1, y.2] ∧ Blk (n0 + 1 + 1) u (fl4 (ix (pst (zD, zD)))) ∧ Blk (n0 + 1 + 1 + 1) u (fl4 (ix (pst (zD, zD)))) ∧ On w u ∧ u.heap.size = n0 + 1 + 1 + 1 + 1 := by
  subst hn
  have o1 := (On.refl hT).alloc (.cells #[.int .u64 ((x.1 : Nat) : Int), .int .u64 ((x.2 : Nat) : Int)] 36)
  have o2 := (On.refl o1.tab).alloc (.cells #[.int .u64 ((y.1 : Nat) : Int), .int .u64 ((y.2 : Nat) : Int)] 36)
  have o3 := (On.refl o2.tab).alloc (.cells #[.int .u64 0, .int .u64 0, .int .u64 0, .int .u64 0] 48)
  have o4 := (On.refl o3.tab).alloc (.cells #[.int .u64 0, .int .u64 0, .int .u64 0, .int .u64 0] 48)
  have b1 := blk_new2 w x.1 x.2 36
  have b2 := blk_new2 (w.alloc (.cells #[.int .u64 ((x.1 : Nat) : Int), .int .u64 ((x.2 : Nat) : Int)] 36)) y.1 y.2 36
  have b3 := blk_new4 ((w.alloc (.cells #[.int .u64 ((x.1 : Nat) : Int), .int .u64 ((x.2 : Nat) : Int)] 36)).alloc (.cells #[.int .u64 ((y.1 : Nat) : Int), .int .u64 ((y.2 : Nat) : Int)] 36)) 0 0 0 0 48
  have b4 := blk_new4 (((w.alloc (.cells #[.int .u64 ((x.1 : Nat) : Int), .int .u64 ((x.2 : Nat) : Int)] 36)).alloc (.cells #[.int .u64 ((y.1 : Nat) : Int), .int .u64 ((y.2 : Nat) : Int)] 36)).alloc (.cells #[.int .u64 0, .int .u64 0, .int .u64 0, .int .u64 0] 48)) 0 0 0 0 48
  have s1 : (w.alloc (.cells #[.int .u64 ((x.1 : Nat) : Int), .int .u64 ((x.2 : Nat) : Int)] 36)).heap.size = w.heap.size + 1 := by simp
  have s2 : ((w.alloc (.cells #[.int .u64 ((x.1 : Nat) : Int), .int .u64 ((x.2 : Nat) : Int)] 36)).alloc (.cells #[.int .u64 ((y.1 : Nat) : Int), .int .u64 ((y.2 : Nat) : Int)] 36)).heap.size = w.heap.size + 1 + 1 := by simp
  have s3 : (((w.alloc (.cells #[.int .u64 ((x.1 : Nat) : Int), .int .u64 ((x.2 : Nat) : Int)] 36)).alloc (.cells #[.int .u64 ((y.1 : Nat) : Int), .int .u64 ((y.2 : Nat) : Int)] 36)).alloc (.cells #[.int .u64 0, .int .u64 0, .int .u64 0, .int .u64 0] 48)).heap.size = w.heap.size + 1 + 1 + 1 := by simp
  rw [s1] at b2
  rw [s2] at b3
  rw [s3] at b4
  exact ⟨_, rfl, ((b1.on o2).on o3).on o4, (b2.on o3).on o4, b3.on o4, b4, o1.trans (o2.trans (o3.trans o4)), by simp⟩
/-- What Clash returns. -/
def clashV (f i : Int) (a b : Dg) (p q : List Dg) : (Dg × Dg) × (Dg × Dg) × Bool :=
  if p.length = q.length ∧ opnB f i a p = true ∧ opnB f i b q = true ∧ clF f i.toNat a p p.length = clF f i.toNat b q p.length then csF f i.toNat a b p q p.length else ((zD, zD), (zD, zD), false)
abbrev clV (r : (Dg × Dg) × (Dg × Dg) × Bool) : Value := .tuple #[prV r.1, prV r.2.1, .bool r.2.2]
theorem zero_pairs {w : World} {R S : Nat} {g g' : Nat → Nat} (hne : R ≠ S) (hR : Blk R w (fl4 g)) (hS : Blk S w (fl4 g')) : (((((((((w.setCell ⟨R, 0, none⟩ (.int .u64 0)).setCell ⟨R, 1, none⟩ (.int .u64 0)).setCell ⟨R, 2, none⟩ (.int .u64 0)).setCell ⟨R, 3, none⟩ (.int .u64 0)).setCell ⟨S, 0, none⟩ (.int .u64 0)).setCell ⟨S, 1, none⟩ (.int .u64 0)).setCell ⟨S, 2, none⟩ (.int .u64 0)).setCell ⟨S, 3, none⟩ (.int .u64 0)).cell? ⟨R, 0, none⟩ = some (.int .u64 0) ∧ ((((((((w.setCell ⟨R, 0, none⟩ (.int .u64 0)).setCell ⟨R, 1, none⟩ (.int .u64 0)).setCell ⟨R, 2, none⟩ (.int .u64 0)).setCell ⟨R, 3, none⟩ (.int .u64 0)).setCell ⟨S, 0, none⟩ (.int .u64 0)).setCell ⟨S, 1, none⟩ (.int .u64 0)).setCell ⟨S, 2, none⟩ (.int .u64 0)).setCell ⟨S, 3, none⟩ (.int .u64 0)).cell? ⟨R, 1, none⟩ = some (.int .u64 0) ∧ ((((((((w.setCell ⟨R, 0, none⟩ (.int .u64 0)).setCell ⟨R, 1, none⟩ (.int .u64 0)).setCell ⟨R, 2, none⟩ (.int .u64 0)).setCell ⟨R, 3, none⟩ (.int .u64 0)).setCell ⟨S, 0, none⟩ (.int .u64 0)).setCell ⟨S, 1, none⟩ (.int .u64 0)).setCell ⟨S, 2, none⟩ (.int .u64 0)).setCell ⟨S, 3, none⟩ (.int .u64 0)).cell? ⟨R, 2, none⟩ = some (.int .u64 0) ∧ ((((((((w.setCell ⟨R, 0, none⟩ (.int .u64 0)).setCell ⟨R, 1, none⟩ (.int .u64 0)).setCell ⟨R, 2, none⟩ (.int .u64 0)).setCell ⟨R, 3, none⟩ (.int .u64 0)).setCell ⟨S, 0, none⟩ (.int .u64 0)).setCell ⟨S, 1, none⟩ (.int .u64 0)).setCell ⟨S, 2, none⟩ (.int .u64 0)).setCell ⟨S, 3, none⟩ (.int .u64 0)).cell? ⟨R, 3, none⟩ = some (.int .u64 0)) ∧ ((((((((w.setCell ⟨R, 0, none⟩ (.int .u64 0)).setCell ⟨R, 1, none⟩ (.int .u64 0)).setCell ⟨R, 2, none⟩ (.int .u64 0)).setCell ⟨R, 3, none⟩ (.int .u64 0)).setCell ⟨S, 0, none⟩ (.int .u64 0)).setCell ⟨S, 1, none⟩ (.int .u64 0)).setCell ⟨S, 2, none⟩ (.int .u64 0)).setCell ⟨S, 3, none⟩ (.int .u64 0)).cell? ⟨S, 0, none⟩ = some (.int .u64 0) ∧ ((((((((w.setCell ⟨R, 0, none⟩ (.int .u64 0)).setCell ⟨R, 1, none⟩ (.int .u64 0)).setCell ⟨R, 2, none⟩ (.int .u64 0)).setCell ⟨R, 3, none⟩ (.int .u64 0)).setCell ⟨S, 0, none⟩ (.int .u64 0)).setCell ⟨S, 1, none⟩ (.int .u64 0)).setCell ⟨S, 2, none⟩ (.int .u64 0)).setCell ⟨S, 3, none⟩ (.int .u64 0)).cell? ⟨S, 1, none⟩ = some (.int .u64 0) ∧ ((((((((w.setCell ⟨R, 0, none⟩ (.int .u64 0)).setCell ⟨R, 1, none⟩ (.int .u64 0)).setCell ⟨R, 2, none⟩ (.int .u64 0)).setCell ⟨R, 3, none⟩ (.int .u64 0)).setCell ⟨S, 0, none⟩ (.int .u64 0)).setCell ⟨S, 1, none⟩ (.int .u64 0)).setCell ⟨S, 2, none⟩ (.int .u64 0)).setCell ⟨S, 3, none⟩ (.int .u64 0)).cell? ⟨S, 2, none⟩ = some (.int .u64 0) ∧ ((((((((w.setCell ⟨R, 0, none⟩ (.int .u64 0)).setCell ⟨R, 1, none⟩ (.int .u64 0)).setCell ⟨R, 2, none⟩ (.int .u64 0)).setCell ⟨R, 3, none⟩ (.int .u64 0)).setCell ⟨S, 0, none⟩ (.int .u64 0)).setCell ⟨S, 1, none⟩ (.int .u64 0)).setCell ⟨S, 2, none⟩ (.int .u64 0)).setCell ⟨S, 3, none⟩ (.int .u64 0)).cell? ⟨S, 3, none⟩ = some (.int .u64 0) := by
  have h1 := (hR.store4 ⟨0, 0, 0, 0⟩).other4 (C := S) hne (.int .u64 0) (.int .u64 0) (.int .u64 0) (.int .u64 0)
  have h2 := (hS.other4 (C := R) hne.symm (.int .u64 0) (.int .u64 0) (.int .u64 0) (.int .u64 0)).store4 ⟨0, 0, 0, 0⟩
  exact ⟨h1.cells4, h2.cells4⟩
theorem build_pr (w : World) : (Instr.build 48 #[]).run Tryd.prog w = .ok (.agg #[.int .u64 0, .int .u64 0, .int .u64 0, .int .u64 0]) w := run_build w _ #[] #[.int .u64 0, .int .u64 0, .int .u64 0, .int .u64 0] (by kernel_rfl)
set_option maxHeartbeats 1000000 in
set_option maxRecDepth 100000 in
theorem clash_no (f i : Int) (a b : Dg) (p q : List Dg) (pv qv : Value) (w : World) (hT : Tab w) (ha : SmD a) (hb : SmD b) (hP : DR w pv p) (hQ : DR w qv q) (hno : ¬ (p.length = q.length ∧ opnB f i a p = true ∧ opnB f i b q = true)) :
    Calls Tryd.prog 31 #[.int .i64 f, .int .i64 i, dgV a, dgV b, pv, qv] w fun e w' => e = .returned (.tuple #[.agg #[.int .u64 0, .int .u64 0, .int .u64 0, .int .u64 0], .agg #[.int .u64 0, .int .u64 0, .int .u64 0, .int .u64 0], .bool false]) ∧ On w w' := by
  obtain ⟨pa, pc, rfl⟩ := hP.shape
  obtain ⟨qa, qc, rfl⟩ := hQ.shape
  obtain ⟨n0, hn0⟩ : ∃ n0, n0 = w.heap.size := ⟨_, rfl⟩
  obtain ⟨u, hu, hB⟩ := cl_new hT a b n0 hn0
  have HU := Lib.hid hu
  have HB := Lib.hid hB
  have HN0 := Lib.hid hn0
  have hou := hB.2.2.2.2.1
  have hpl := hP.2.1
  have hql := hQ.2.1
  have HI1 : Hid (∀ w', On u w' → Calls Tryd.prog 51 #[.int .i64 f, .int .i64 i, dgV a, .slice pa p.length pc] w' fun e w'' => e = .returned (.bool (opnB f i a p)) ∧ On w' w'') := fun w' h => isOpening_any f i a p _ w' h.tab ha ((hP.on hou).on h)
  have HI2 : Hid (∀ w', On u w' → Calls Tryd.prog 51 #[.int .i64 f, .int .i64 i, dgV b, .slice qa q.length qc] w' fun e w'' => e = .returned (.bool (opnB f i b q)) ∧ On w' w'') := fun w' h => isOpening_any f i b q _ w' h.tab hb ((hQ.on hou).on h)
  obtain ⟨x0, x1⟩ := hB.1.cells2
  have HY := Lib.hid (fun w' (h : On u w') => (hB.2.1.on h).cells2)
  obtain ⟨y0, y1⟩ := hB.2.1.cells2
  clear hT hP hQ hu hB hou hn0
  by_cases hl : p.length = q.length
  rotate_left
  · have hne : ¬ (p.length : Int) = (q.length : Int) := by omega
    have hnb : ((p.length : Int) != (q.length : Int)) = true := by simp; omega
    clear hno hl
    go_enter Tryd.func31, Tryd.ntmps31
    go_upto_region 1 with fail
    rw [← HN0.out, ← HU.out]
    go_upto_region 2 with fail
    have HRz := Lib.hid (HB.out.2.2.1.on (On.refl HB.out.2.2.2.2.1.tab))
    have HSz := Lib.hid (HB.out.2.2.2.1.on (On.refl HB.out.2.2.2.2.1.tab))
    have HOz := Lib.hid (HB.out.2.2.2.2.1.trans (On.refl HB.out.2.2.2.2.1.tab))
    obtain ⟨r0, r1, r2, r3⟩ := HRz.out.cells4
    simp only [pst, ix] at r0 r1 r2 r3
    obtain ⟨g0, g1, g2, g3⟩ := HRz.out.free4
    have HSy := Lib.hid (HSz.out.other4 (C := n0 + 1 + 1) (by omega) (.int .u64 0) (.int .u64 0) (.int .u64 0) (.int .u64 0))
    obtain ⟨s0, s1, s2, s3⟩ := HSy.out.cells4
    simp only [pst, ix] at s0 s1 s2 s3
    obtain ⟨k0, k1, k2, k3⟩ := HSy.out.free4
    have HE := Lib.hid (zero_pairs (by omega) HRz.out HSz.out)
    clear HRz HSz HSy
    refine wp_region_lit ?_
    refine wpList_built rfl 48 [] rfl [] rfl #[.int .u64 0, .int .u64 0, .int .u64 0, .int .u64 0] (build_pr _) ?_
    refine wpList_built rfl 48 [] rfl [] rfl #[.int .u64 0, .int .u64 0, .int .u64 0, .int .u64 0] (build_pr _) ?_
    go_wp2
    obtain ⟨⟨p0, p1, p2, p3⟩, q0, q1, q2, q3⟩ := HE.out
    refine bodyPost_ret (v := .tuple #[.agg #[.int .u64 0, .int .u64 0, .int .u64 0, .int .u64 0], .agg #[.int .u64 0, .int .u64 0, .int .u64 0, .int .u64 0], .bool false]) (by simp [results, Tryd.results31, go_sem, p0, p1, p2, p3, q0, q1, q2, q3]; try rfl) rfl ?_
    have hN0 := HN0.out
    exact ⟨rfl, (HOz.out.store4 (by omega) _ _ _ _).store4 (by omega) _ _ _ _⟩
  have hnb : ((p.length : Int) != (q.length : Int)) = false := by simp; omega
  cases h1 : opnB f i a p
  · rw [h1] at HI1
    clear hno hl h1
    go_enter Tryd.func31, Tryd.ntmps31
    go_upto_region 1 with fail
    rw [← HN0.out, ← HU.out]
    go_upto_region 2 with (go_at_call 51; (with_reducible refine (HI1.out _ (On.refl HB.out.2.2.2.2.1.tab)).mono ?_); rintro e w1 ⟨rfl, hO1⟩; have HO1 := Lib.hid (hO1); clear hO1)
    have HRz := Lib.hid (HB.out.2.2.1.on HO1.out)
    have HSz := Lib.hid (HB.out.2.2.2.1.on HO1.out)
    have HOz := Lib.hid (HB.out.2.2.2.2.1.trans HO1.out)
    obtain ⟨r0, r1, r2, r3⟩ := HRz.out.cells4
    simp only [pst, ix] at r0 r1 r2 r3
    obtain ⟨g0, g1, g2, g3⟩ := HRz.out.free4
    have HSy := Lib.hid (HSz.out.other4 (C := n0 + 1 + 1) (by omega) (.int .u64 0) (.int .u64 0) (.int .u64 0) (.int .u64 0))
    obtain ⟨s0, s1, s2, s3⟩ := HSy.out.cells4
    simp only [pst, ix] at s0 s1 s2 s3
    obtain ⟨k0, k1, k2, k3⟩ := HSy.out.free4
    have HE := Lib.hid (zero_pairs (by omega) HRz.out HSz.out)
    clear HRz HSz HSy
    refine wp_region_lit ?_
    refine wpList_built rfl 48 [] rfl [] rfl #[.int .u64 0, .int .u64 0, .int .u64 0, .int .u64 0] (build_pr _) ?_
    refine wpList_built rfl 48 [] rfl [] rfl #[.int .u64 0, .int .u64 0, .int .u64 0, .int .u64 0] (build_pr _) ?_
    go_wp2
    obtain ⟨⟨p0, p1, p2, p3⟩, q0, q1, q2, q3⟩ := HE.out
    refine bodyPost_ret (v := .tuple #[.agg #[.int .u64 0, .int .u64 0, .int .u64 0, .int .u64 0], .agg #[.int .u64 0, .int .u64 0, .int .u64 0, .int .u64 0], .bool false]) (by simp [results, Tryd.results31, go_sem, p0, p1, p2, p3, q0, q1, q2, q3]; try rfl) rfl ?_
    have hN0 := HN0.out
    exact ⟨rfl, (HOz.out.store4 (by omega) _ _ _ _).store4 (by omega) _ _ _ _⟩
  have h2 : opnB f i b q = false := by
    cases h : opnB f i b q
    · rfl
    · exact absurd ⟨hl, h1, h⟩ hno
  rw [h1] at HI1
  rw [h2] at HI2
  clear hno hl h1 h2 y0 y1
  go_enter Tryd.func31, Tryd.ntmps31
  go_upto_region 1 with fail
  rw [← HN0.out, ← HU.out]
  go_upto_region 2 with (first | (go_at_call 51; (with_reducible refine (HI1.out _ (On.refl HB.out.2.2.2.2.1.tab)).mono ?_); rintro e w1 ⟨rfl, hO1⟩; have HO1 := Lib.hid (hO1); clear hO1; obtain ⟨y0, y1⟩ := HY.out _ HO1.out) | (go_at_call 51; (with_reducible refine (HI2.out _ HO1.out).mono ?_); rintro e w2 ⟨rfl, hO2⟩; have HO2 := Lib.hid (HO1.out.trans hO2); clear hO2))
  have HRz := Lib.hid (HB.out.2.2.1.on HO2.out)
  have HSz := Lib.hid (HB.out.2.2.2.1.on HO2.out)
  have HOz := Lib.hid (HB.out.2.2.2.2.1.trans HO2.out)
  obtain ⟨r0, r1, r2, r3⟩ := HRz.out.cells4
  simp only [pst, ix] at r0 r1 r2 r3
  obtain ⟨g0, g1, g2, g3⟩ := HRz.out.free4
  have HSy := Lib.hid (HSz.out.other4 (C := n0 + 1 + 1) (by omega) (.int .u64 0) (.int .u64 0) (.int .u64 0) (.int .u64 0))
  obtain ⟨s0, s1, s2, s3⟩ := HSy.out.cells4
  simp only [pst, ix] at s0 s1 s2 s3
  obtain ⟨k0, k1, k2, k3⟩ := HSy.out.free4
  have HE := Lib.hid (zero_pairs (by omega) HRz.out HSz.out)
  clear HRz HSz HSy
  refine wp_region_lit ?_
  refine wpList_built rfl 48 [] rfl [] rfl #[.int .u64 0, .int .u64 0, .int .u64 0, .int .u64 0] (build_pr _) ?_
  refine wpList_built rfl 48 [] rfl [] rfl #[.int .u64 0, .int .u64 0, .int .u64 0, .int .u64 0] (build_pr _) ?_
  go_wp2
  obtain ⟨⟨p0, p1, p2, p3⟩, q0, q1, q2, q3⟩ := HE.out
  refine bodyPost_ret (v := .tuple #[.agg #[.int .u64 0, .int .u64 0, .int .u64 0, .int .u64 0], .agg #[.int .u64 0, .int .u64 0, .int .u64 0, .int .u64 0], .bool false]) (by simp [results, Tryd.results31, go_sem, p0, p1, p2, p3, q0, q1, q2, q3]; try rfl) rfl ?_
  have hN0 := HN0.out
  exact ⟨rfl, (HOz.out.store4 (by omega) _ _ _ _).store4 (by omega) _ _ _ _⟩
end Go.Proofs.YtnmfneeojnmebaaDoor

/- Package tree: Clash, the good case: what the call returns. -/
namespace Go.Proofs.YtnmfneeojnmebaaDoor
open Go.RowKit
set_option linter.unusedVariables false

theorem climber_new (f : Int) (i : Nat) (x : Dg) (w : World) (hT : Tab w) :
    Calls Tryd.prog 52 #[.int .i64 f, .int .i64 (i : Int), dgV x] w fun e w' =>
      e = .returned (.func (.func 64) #[] #[.pointer (some ⟨w.heap.size + 1 + 1, 0, none⟩), .pointer (some ⟨w.heap.size + 1, 0, none⟩), .pointer (some ⟨w.heap.size, 0, none⟩)]) ∧ On w w' ∧ Cb (w.heap.size + 1 + 1) (w.heap.size + 1) w.heap.size f i x w' ∧ w'.heap.size = w.heap.size + 1 + 1 + 1 :=
  (climber_any f (i : Int) x w).mono fun e w' ⟨he, hw⟩ => by
    subst hw
    exact ⟨he, (((On.refl hT).alloc _).alloc _).alloc _, cb_new f i x w _ rfl, by simp⟩
def clR (f : Int) (i : Nat) (a b : Dg) (p q : List Dg) : (Dg × Dg) × (Dg × Dg) × Bool := if clF f i a p p.length = clF f i b q p.length then csF f i a b p q p.length else ((zD, zD), (zD, zD), false)
set_option maxHeartbeats 2000000 in
set_option maxRecDepth 100000 in
theorem clash_yes (f : Int) (i : Nat) (a b : Dg) (p q : List Dg) (pv qv : Value) (w : World) (hT : Tab w) (hP : DR w pv p) (hQ : DR w qv q) (hi : i ≤ 9223372036854775807) (hlq : p.length = q.length) (hop : opnB f (i : Int) a p = true) (hoq : opnB f (i : Int) b q = true) :
    Calls Tryd.prog 31 #[.int .i64 f, .int .i64 (i : Int), dgV a, dgV b, pv, qv] w fun e w' => e = .returned (clV (clR f i a b p q)) ∧ On w w' := by
  obtain ⟨pa, pc, rfl⟩ := hP.shape
  obtain ⟨qa, qc, rfl⟩ := hQ.shape
  obtain ⟨hv, hpl, hx, hpo⟩ := opnB_parts hop
  obtain ⟨_, hql, hy, hqo⟩ := opnB_parts hoq
  have HSA := Lib.hid (okD_sm hx)
  have HSB := Lib.hid (okD_sm hy)
  obtain ⟨n0, hn0⟩ : ∃ n0, n0 = w.heap.size := ⟨_, rfl⟩
  obtain ⟨u, hu, hB⟩ := cl_new hT a b n0 hn0
  have hou := hB.2.2.2.2.1
  have HIA : Hid (∀ w', On u w' → Calls Tryd.prog 51 #[.int .i64 f, .int .i64 (i : Int), dgV a, .slice pa p.length pc] w' fun e w'' => e = .returned (.bool true) ∧ On w' w'') := fun w' h => by have h2 := isOpening_any f (i : Int) a p _ w' h.tab HSA.out (hP.on (hou.trans h)); rw [hop] at h2; exact h2
  have HIB : Hid (∀ w', On u w' → Calls Tryd.prog 51 #[.int .i64 f, .int .i64 (i : Int), dgV b, .slice qa q.length qc] w' fun e w'' => e = .returned (.bool true) ∧ On w' w'') := fun w' h => by have h2 := isOpening_any f (i : Int) b q _ w' h.tab HSB.out (hQ.on (hou.trans h)); rw [hoq] at h2; exact h2
  have HU := Lib.hid hu
  have HB := Lib.hid hB
  have HN0 := Lib.hid hn0
  have HPR := Lib.hid hP
  have HQR := Lib.hid hQ
  have HLQ := Lib.hid hlq
  have HPL := Lib.hid hpl
  have HIM := Lib.hid hi
  have HW0P := Lib.hid hT.size
  have HNW : Hid (w.heap.size ≤ n0) := by rw [hn0]; exact Nat.le_refl _
  have HSU : Hid (u.heap.size = n0 + 1 + 1 + 1 + 1) := hB.2.2.2.2.2
  have hnb : ((p.length : Int) != (q.length : Int)) = false := by simp; omega
  obtain ⟨x0, x1⟩ := hB.1.cells2
  obtain ⟨y0, y1⟩ := hB.2.1.cells2
  clear hT hP hQ hu hB hou hn0 hi hlq hop hoq hv hpl hx hpo hql hy hqo
  go_enter Tryd.func31, Tryd.ntmps31
  go_upto_region 1 with fail
  rw [← HN0.out, ← HU.out]
  go_wp2_with fail
  with_reducible refine (HIA.out _ (On.refl HB.out.2.2.2.2.1.tab)).mono ?_
  rintro e w1 ⟨rfl, hO1⟩
  have HO1 := Lib.hid hO1
  clear hO1 x0 x1 y0 y1
  obtain ⟨y0, y1⟩ := (HB.out.2.1.on HO1.out).cells2
  go_wp2_with fail
  with_reducible refine (HIB.out _ HO1.out).mono ?_
  rintro e w2 ⟨rfl, hO2⟩
  have hu2 := HO1.out.trans hO2
  have HO2 := Lib.hid (HB.out.2.2.2.2.1.trans hu2)
  have HBb := Lib.hid (And.intro (HB.out.1.on hu2) (And.intro (HB.out.2.1.on hu2) (And.intro (HB.out.2.2.1.on hu2) (HB.out.2.2.2.1.on hu2))))
  have HN01 : Hid (n0 + 4 ≤ w2.heap.size) := by have h9 := hu2.size; rw [HSU.out] at h9; exact h9
  clear hO2 hu2 y0 y1 HIA HIB HO1 HB HU
  have HK : Hid (∀ wq, On w2 wq → _) := fun wq hq => And.intro (HBb.out.1.on hq).cells2 (HBb.out.2.1.on hq).cells2
  go_upto_region 3 with fail
  clear hnb
  refine region_head_tail (S := fun wq => On w2 wq) 9 (by kernel_rfl) (by kernel_rfl) ?_
  obtain ⟨V0, hV0⟩ : ∃ V0, V0 = w2.drew := ⟨_, rfl⟩
  have HV0 : Hid (On w2 V0) := by rw [hV0]; exact (On.refl HO2.out.tab).drew
  have HN1 : Hid (V0.heap.size = w2.heap.size) := by rw [hV0]; rfl
  rw [← hV0]
  clear hV0
  have hSd := HV0.out
  refine HeadG.take (i := 0) (v := ?hev1z0) rfl (by kernel_rfl) (by kernel_rfl) (by kernel_rfl) (by kernel_rfl) (by kernel_rfl) (by kernel_rfl) (by kernel_rfl) (fun _ _ _ h => h) (Or.inl ⟨by kernel_rfl, ?hey1z0⟩) hSd ?her1z0
  case hey1z0 => (intro w' hSw; skip; go_simp; try with_reducible rfl)
  try simp only [Act.put, List.setIfInBounds_toArray, List.set_cons_zero, List.set_cons_succ, List.getElem_toArray, List.getElem_cons_zero, List.getElem_cons_succ]
  refine HeadG.take (i := 1) (v := ?hev2z1) rfl (by kernel_rfl) (by kernel_rfl) (by kernel_rfl) (by kernel_rfl) (by kernel_rfl) (by kernel_rfl) (by kernel_rfl) (fun _ _ _ h => h) (Or.inl ⟨by kernel_rfl, ?hey2z1⟩) hSd ?her2z1
  case hey2z1 => (intro w' hSw; skip; go_simp; try with_reducible rfl)
  try simp only [Act.put, List.setIfInBounds_toArray, List.set_cons_zero, List.set_cons_succ, List.getElem_toArray, List.getElem_cons_zero, List.getElem_cons_succ]
  refine HeadG.take (i := 2) (v := dgV a) rfl (by kernel_rfl) (by kernel_rfl) (by kernel_rfl) (by kernel_rfl) (by kernel_rfl) (by kernel_rfl) (by kernel_rfl) (fun _ _ _ h => h) (Or.inl ⟨by kernel_rfl, ?hey3z2⟩) hSd ?her3z2
  case hey3z2 => (intro w' hSw; obtain ⟨⟨x0, x1⟩, y0, y1⟩ := HK.out _ hSw; go_simp; try with_reducible rfl; try simp)
  try simp only [Act.put, List.setIfInBounds_toArray, List.set_cons_zero, List.set_cons_succ, List.getElem_toArray, List.getElem_cons_zero, List.getElem_cons_succ]
  refine HeadG.take (i := 4) (v := ?hev4z4) rfl (by kernel_rfl) (by kernel_rfl) (by kernel_rfl) (by kernel_rfl) (by kernel_rfl) (by kernel_rfl) (by kernel_rfl) (fun _ _ _ h => h) (Or.inl ⟨by kernel_rfl, ?hey4z4⟩) hSd ?her4z4
  case hey4z4 => (intro w' hSw; skip; go_simp; try with_reducible rfl)
  try simp only [Act.put, List.setIfInBounds_toArray, List.set_cons_zero, List.set_cons_succ, List.getElem_toArray, List.getElem_cons_zero, List.getElem_cons_succ]
  refine HeadG.take (i := 5) (v := ?hev5z5) rfl (by kernel_rfl) (by kernel_rfl) (by kernel_rfl) (by kernel_rfl) (by kernel_rfl) (by kernel_rfl) (by kernel_rfl) (fun _ _ _ h => h) (Or.inl ⟨by kernel_rfl, ?hey5z5⟩) hSd ?her5z5
  case hey5z5 => (intro w' hSw; skip; go_simp; try with_reducible rfl)
  try simp only [Act.put, List.setIfInBounds_toArray, List.set_cons_zero, List.set_cons_succ, List.getElem_toArray, List.getElem_cons_zero, List.getElem_cons_succ]
  refine HeadG.take (i := 6) (v := dgV b) rfl (by kernel_rfl) (by kernel_rfl) (by kernel_rfl) (by kernel_rfl) (by kernel_rfl) (by kernel_rfl) (by kernel_rfl) (fun _ _ _ h => h) (Or.inl ⟨by kernel_rfl, ?hey6z6⟩) hSd ?her6z6
  case hey6z6 => (intro w' hSw; obtain ⟨⟨x0, x1⟩, y0, y1⟩ := HK.out _ hSw; go_simp; try with_reducible rfl; try simp)
  try simp only [Act.put, List.setIfInBounds_toArray, List.set_cons_zero, List.set_cons_succ, List.getElem_toArray, List.getElem_cons_zero, List.getElem_cons_succ]
  clear hSd
  refine HeadG.one (i := 3) rfl (by kernel_rfl) (by kernel_rfl) (fun K9 hK9 => ?_)
  go_simp
  go_at_call 52
  with_reducible refine (climber_new f i a V0 (HO2.out.trans HV0.out).tab).mono ?_
  rintro e V1 ⟨rfl, hOa, hCa, hsa⟩
  have HV1 := Lib.hid (HV0.out.trans hOa)
  have HCa := Lib.hid hCa
  have HOa := Lib.hid hOa
  have HSa := Lib.hid hsa
  clear hCa hOa hsa
  refine hK9.out _ _ HV1.out ?_
  clear hK9 K9
  try simp only [Act.put, List.setIfInBounds_toArray, List.set_cons_zero, List.set_cons_succ, List.getElem_toArray, List.getElem_cons_zero, List.getElem_cons_succ]
  refine HeadG.one (i := 7) rfl (by kernel_rfl) (by kernel_rfl) (fun K9 hK9 => ?_)
  go_simp
  go_at_call 52
  with_reducible refine (climber_new f i b V1 (HO2.out.trans HV1.out).tab).mono ?_
  rintro e V2 ⟨rfl, hOb, hCb, hsb⟩
  have HV2 := Lib.hid (HV1.out.trans hOb)
  have HCb := Lib.hid hCb
  have HOb := Lib.hid hOb
  have HSb := Lib.hid hsb
  clear hCb hOb hsb
  refine hK9.out _ _ HV2.out ?_
  clear hK9 K9
  try simp only [Act.put, List.setIfInBounds_toArray, List.set_cons_zero, List.set_cons_succ, List.getElem_toArray, List.getElem_cons_zero, List.getElem_cons_succ]
  refine HeadG.one (i := 8) rfl (by kernel_rfl) (by kernel_rfl) (fun K9 hK9 => ?_)
  go_simp
  refine hK9.out _ _ HV2.out ?_
  clear hK9 K9
  try simp only [Act.put, List.setIfInBounds_toArray, List.set_cons_zero, List.set_cons_succ, List.getElem_toArray, List.getElem_cons_zero, List.getElem_cons_succ]
  refine HeadG.last (i := 9) rfl (by kernel_rfl) (by kernel_rfl) (by kernel_rfl) (fun K9 hK9 => ?_)
  go_simp
  refine hK9.out _ _ ?_
  clear hK9 K9
  try simp only [Act.put, List.setIfInBounds_toArray, List.set_cons_zero, List.set_cons_succ, List.getElem_toArray, List.getElem_cons_zero, List.getElem_cons_succ]
  have HCB := HCb
  rw [HSa.out] at HCB ⊢
  rw [HN1.out] at HCB HCa ⊢
  have HSz : Hid (w2.heap.size + 6 ≤ V2.heap.size) := by rw [HSb.out, HSa.out, HN1.out]; exact Nat.le_refl _
  have HCS : Hid (CS n0 w2.heap.size f i a i b a b (zD, zD) (zD, zD) V2) := ⟨HBb.out.1.on HV2.out, HBb.out.2.1.on HV2.out, HBb.out.2.2.1.on HV2.out, HBb.out.2.2.2.on HV2.out, HCa.out.on HOb.out, HCB.out⟩
  have HO3 := Lib.hid (HO2.out.trans HV2.out)
  clear HCa HCb HCB HOa HOb HSa HSb HV0 HV1 HV2 HK HBb
  generalize hn1 : w2.heap.size = n1 at *
  clear hn1
  go_upto_region 5 with fail
  go_loopw [14, 53] (fun fv vi wr => ∃ k : Nat, k ≤ p.length ∧ vi = .int .i64 (k : Int) ∧ fv = .bool (csF f i a b p q k).2.2 ∧ Hid (CS n0 n1 f (i / 2 ^ k) (clF f i a p k) (i / 2 ^ k) (clF f i b q k) (clF f i a p k) (clF f i b q k) (csF f i a b p q k).1 (csF f i a b p q k).2.1 wr) ∧ Hid (On w wr) ∧ Hid (n1 + 6 ≤ wr.heap.size)) (fun _ vi _ => p.length - (intOf vi).toNat)
  case atStart => exact ⟨0, Nat.zero_le _, rfl, rfl, by rw [Nat.pow_zero, Nat.div_one]; exact HCS.out, HO3.out, HSz.out⟩
  case round =>
    clear HCS HO3 HSz
    obtain ⟨k, hk, rfl, rfl, HCS, HON, HSZ⟩ := hrel
    by_cases hkn : k < p.length
    · have hkq : k < q.length := by rw [← HLQ.out]; exact hkn
      obtain ⟨bp, op, rfl, cp0, cp1⟩ := HPR.out.cells k hkn
      obtain ⟨bq, oq, rfl, cq0, cq1⟩ := HQR.out.cells k hkq
      have hsp := HPR.out.sm k
      have hsq := HQR.out.sm k
      have HXA := Lib.hid (clF_sm f i a p HSA.out k)
      have HXB := Lib.hid (clF_sm f i b q HSB.out k)
      have hi2 : i / 2 ^ k / 2 = i / 2 ^ (k + 1) := by rw [Nat.pow_succ, Nat.div_div_eq_div_mul]
      have hik : i / 2 ^ k ≤ 9223372036854775807 := Nat.le_trans (Nat.div_le_self _ _) HIM.out
      have hna : nodeF f (prD (i / 2 ^ k) (clF f i a p k) (p.getD k zD)).1 (prD (i / 2 ^ k) (clF f i a p k) (p.getD k zD)).2 = clF f i a p (k + 1) := rfl
      have hnb : nodeF f (prD (i / 2 ^ k) (clF f i b q k) (q.getD k zD)).1 (prD (i / 2 ^ k) (clF f i b q k) (q.getD k zD)).2 = clF f i b q (k + 1) := rfl
      have hcs : csF f i a b p q (k + 1) = if prD (i / 2 ^ k) (clF f i a p k) (p.getD k zD) ≠ prD (i / 2 ^ k) (clF f i b q k) (q.getD k zD) then (prD (i / 2 ^ k) (clF f i a p k) (p.getD k zD), prD (i / 2 ^ k) (clF f i b q k) (q.getD k zD), true) else csF f i a b p q k := rfl
      have HCE0A : Hid (∀ wq, On w wq → wq.cell? ⟨bp, op + k * 2, none⟩ = some (.int .u64 (((p.getD k zD).1 : Nat) : Int)) ∧ wq.cell? ⟨bp, op + k * 2 + 1, none⟩ = some (.int .u64 (((p.getD k zD).2 : Nat) : Int))) := fun wq h => ⟨(h.cell (p := ⟨bp, op + k * 2, none⟩) (cell_size cp0)).trans cp0, (h.cell (p := ⟨bp, op + k * 2 + 1, none⟩) (cell_size cp1)).trans cp1⟩
      have HCE0B : Hid (∀ wq, On w wq → wq.cell? ⟨bq, oq + k * 2, none⟩ = some (.int .u64 (((q.getD k zD).1 : Nat) : Int)) ∧ wq.cell? ⟨bq, oq + k * 2 + 1, none⟩ = some (.int .u64 (((q.getD k zD).2 : Nat) : Int))) := fun wq h => ⟨(h.cell (p := ⟨bq, oq + k * 2, none⟩) (cell_size cq0)).trans cq0, (h.cell (p := ⟨bq, oq + k * 2 + 1, none⟩) (cell_size cq1)).trans cq1⟩
      clear cp0 cp1 cq0 cq1
      generalize hnae : clF f i a p (k + 1) = na at *
      generalize hnbe : clF f i b q (k + 1) = nb at *
      have HNAE := Lib.hid hnae
      have HNBE := Lib.hid hnbe
      clear hnae hnbe
      generalize hPA : prD (i / 2 ^ k) (clF f i a p k) (p.getD k zD) = PA at *
      generalize hPB : prD (i / 2 ^ k) (clF f i b q k) (q.getD k zD) = PB at *
      generalize clF f i a p k = xa at *
      generalize clF f i b q k = xb at *
      generalize p.getD k zD = pa at *
      generalize q.getD k zD = pb at *
      generalize hi2e : i / 2 ^ (k + 1) = i2 at *
      have HI2E := Lib.hid hi2e
      clear hi2e
      generalize i / 2 ^ k = ik at *
      generalize hcc : csF f i a b p q (k + 1) = c2 at *
      generalize csF f i a b p q k = cc at *
      obtain ⟨P1, P2, fd⟩ := cc
      have HCEA := HCE0A
      have HCEB := HCE0B
      have HPSA := Lib.hid hsp
      have HPSB := Lib.hid hsq
      have HPRA := Lib.hid hPA
      have HPRB := Lib.hid hPB
      have HNDA := Lib.hid hna
      have HNDB := Lib.hid hnb
      have HI2 := Lib.hid hi2
      have HIK := Lib.hid hik
      have HC2 := Lib.hid hcs
      have HCC := Lib.hid hcc
      simp only at HCS
      clear hsp hsq hPA hPB hna hnb hi2 hik hcs hcc HCE0A HCE0B
      have hlt : (k : Int) < (p.length : Int) := by omega
      have hltq : (k : Int) < (q.length : Int) := by omega
      have l0 : (0 : Int) ≤ (k : Int) := by omega
      have hpl := HPL.out
      have hn01 := HN01.out
      have hsz := HSZ.out
      have hnw := HNW.out
      have hw0 := HW0P.out
      obtain ⟨T, hTe⟩ : ∃ T, T = wr.heap.size := ⟨_, rfl⟩
      have HTT : Hid (Blk T ((wr.alloc (.cells #[.int .u64 0, .int .u64 0, .int .u64 0, .int .u64 0] 48)).alloc (.cells #[.int .u64 0, .int .u64 0, .int .u64 0, .int .u64 0] 48)) (fl4 (ix ⟨0, 0, 0, 0⟩)) ∧ Blk (T + 1) ((wr.alloc (.cells #[.int .u64 0, .int .u64 0, .int .u64 0, .int .u64 0] 48)).alloc (.cells #[.int .u64 0, .int .u64 0, .int .u64 0, .int .u64 0] 48)) (fl4 (ix ⟨0, 0, 0, 0⟩))) := by
        rw [hTe]; exact ⟨(blk_new4 wr 0 0 0 0 _).on ((On.refl ((On.refl HON.out.tab).alloc _).tab).alloc _), by have := blk_new4 (wr.alloc (.cells #[.int .u64 0, .int .u64 0, .int .u64 0, .int .u64 0] 48)) 0 0 0 0 48; simpa using this⟩
      have HOU : Hid (On wr ((wr.alloc (.cells #[.int .u64 0, .int .u64 0, .int .u64 0, .int .u64 0] 48)).alloc (.cells #[.int .u64 0, .int .u64 0, .int .u64 0, .int .u64 0] 48))) := ((On.refl HON.out.tab).alloc _).alloc _
      go_upto_region 8 with fail
      rw [← hTe]
      rw [← hTe] at hsz
      generalize (wr.alloc (.cells #[.int .u64 0, .int .u64 0, .int .u64 0, .int .u64 0] 48)).alloc (.cells #[.int .u64 0, .int .u64 0, .int .u64 0, .int .u64 0] 48) = U0 at *
      have HCS0 := Lib.hid (HCS.out.on HOU.out)
      have HTB0 := Lib.hid HTT.out.1
      have HTO0 := Lib.hid HTT.out.2
      have HON0 := Lib.hid (HON.out.trans HOU.out)
      have HT1 : Hid (T + 1 < U0.heap.size) := HTO0.out.1
      clear HCS HON HTT HOU hTe HSZ
      obtain ⟨c0, c1⟩ := HCEA.out _ HON0.out
      have HCL : Hid (Calls Tryd.prog 64 #[dgV pa, .pointer (some ⟨n1 + 1 + 1, 0, none⟩), .pointer (some ⟨n1 + 1, 0, none⟩), .pointer (some ⟨n1, 0, none⟩)] U0 fun e w' => e = .returned (.tuple #[prV PA, dgV na]) ∧ Cb (n1 + 1 + 1) (n1 + 1) (n1) f i2 na w' ∧ K2 (n1 + 1 + 1) (n1 + 1) U0 w') := by
        have h := climb1_any (n1 + 1 + 1) (n1 + 1) (n1) f ik xa pa U0 HON0.out.tab HCS0.out.ca HXA.out HPSA.out HIK.out (by omega) (by omega)
        rw [HPRA.out, HNDA.out, HI2.out] at h; exact h
      obtain ⟨t0, t1⟩ := HCS0.out.ta.cells2
      go_wp2_with fail
      with_reducible refine HCL.out.mono ?_
      rintro e U1 ⟨rfl, hC, hK⟩
      have hcs : CS n0 n1 f i2 na ik xb xa xb P1 P2 U1 := HCS0.out.stepA HN01.out hK hC
      have htb := HTB0.out.k2 hK (by omega) (by omega)
      have hto := HTO0.out.k2 hK (by omega) (by omega)
      have hon := HON0.out.k2 (by omega) (by omega) hK
      clear c0 c1 HCL t0 t1
      obtain ⟨t0, t1, t2, t3⟩ := htb.cells4
      obtain ⟨f0, f1, f2, f3⟩ := htb.free4
      have htb2 : Blk (T) ((((U1.setCell ⟨T, 0, none⟩ (.int .u64 ((PA.1.1 : Nat) : Int))).setCell ⟨T, 1, none⟩ (.int .u64 ((PA.1.2 : Nat) : Int))).setCell ⟨T, 2, none⟩ (.int .u64 ((PA.2.1 : Nat) : Int))).setCell ⟨T, 3, none⟩ (.int .u64 ((PA.2.2 : Nat) : Int))) (fl4 (ix (pst PA))) := htb.store4 (pst PA)
      have hto2 := hto.other4 (C := T) (by omega) (.int .u64 ((PA.1.1 : Nat) : Int)) (.int .u64 ((PA.1.2 : Nat) : Int)) (.int .u64 ((PA.2.1 : Nat) : Int)) (.int .u64 ((PA.2.2 : Nat) : Int))
      have hcs2 := hcs.ap HN01.out (C := T) (by omega) (ap4 (T) U1 (.int .u64 ((PA.1.1 : Nat) : Int)) (.int .u64 ((PA.1.2 : Nat) : Int)) (.int .u64 ((PA.2.1 : Nat) : Int)) (.int .u64 ((PA.2.2 : Nat) : Int)))
      have hon2 := hon.store4 (C := T) (by omega) (.int .u64 ((PA.1.1 : Nat) : Int)) (.int .u64 ((PA.1.2 : Nat) : Int)) (.int .u64 ((PA.2.1 : Nat) : Int)) (.int .u64 ((PA.2.2 : Nat) : Int))
      obtain ⟨d0, d1⟩ := hcs2.ta.cells2
      have e0 := hcs2.ta.free 0
      have e1 := hcs2.ta.free 1
      have hcs3 := hcs2.putA HN01.out na
      have htb3 := htb2.ap (ap2 (n0) _ (.int .u64 ((na.1 : Nat) : Int)) (.int .u64 ((na.2 : Nat) : Int))) (by omega)
      have hto3 := hto2.ap (ap2 (n0) _ (.int .u64 ((na.1 : Nat) : Int)) (.int .u64 ((na.2 : Nat) : Int))) (by omega)
      have hon3 := hon2.store2 (C := n0) (by omega) (.int .u64 ((na.1 : Nat) : Int)) (.int .u64 ((na.2 : Nat) : Int))
      have HCS2 := Lib.hid hcs3
      have HTB2 := Lib.hid htb3
      have HTO2 := Lib.hid hto3
      have HON2 := Lib.hid hon3
      clear hC hK hcs htb hto hon htb2 hto2 hcs2 hon2 hcs3 htb3 hto3 hon3
      go_upto_region 9 with fail
      generalize ((((((U1.setCell ⟨T, 0, none⟩ (.int .u64 ((PA.1.1 : Nat) : Int))).setCell ⟨T, 1, none⟩ (.int .u64 ((PA.1.2 : Nat) : Int))).setCell ⟨T, 2, none⟩ (.int .u64 ((PA.2.1 : Nat) : Int))).setCell ⟨T, 3, none⟩ (.int .u64 ((PA.2.2 : Nat) : Int))).setCell ⟨n0, 0, none⟩ (.int .u64 ((na.1 : Nat) : Int))).setCell ⟨n0, 1, none⟩ (.int .u64 ((na.2 : Nat) : Int))) = U2 at *
      clear t0 t1 t2 t3 f0 f1 f2 f3 d0 d1 e0 e1
      obtain ⟨c0, c1⟩ := HCEB.out _ HON2.out
      have HCL : Hid (Calls Tryd.prog 64 #[dgV pb, .pointer (some ⟨n1 + 1 + 1 + 1 + 1 + 1, 0, none⟩), .pointer (some ⟨n1 + 1 + 1 + 1 + 1, 0, none⟩), .pointer (some ⟨n1 + 1 + 1 + 1, 0, none⟩)] U2 fun e w' => e = .returned (.tuple #[prV PB, dgV nb]) ∧ Cb (n1 + 1 + 1 + 1 + 1 + 1) (n1 + 1 + 1 + 1 + 1) (n1 + 1 + 1 + 1) f i2 nb w' ∧ K2 (n1 + 1 + 1 + 1 + 1 + 1) (n1 + 1 + 1 + 1 + 1) U2 w') := by
        have h := climb1_any (n1 + 1 + 1 + 1 + 1 + 1) (n1 + 1 + 1 + 1 + 1) (n1 + 1 + 1 + 1) f ik xb pb U2 HON2.out.tab HCS2.out.cb HXB.out HPSB.out HIK.out (by omega) (by omega)
        rw [HPRB.out, HNDB.out, HI2.out] at h; exact h
      obtain ⟨t0, t1⟩ := HCS2.out.tb.cells2
      go_wp2_with fail
      with_reducible refine HCL.out.mono ?_
      rintro e U3 ⟨rfl, hC, hK⟩
      have hcs : CS n0 n1 f i2 na i2 nb na xb P1 P2 U3 := HCS2.out.stepB HN01.out hK hC
      have htb := HTO2.out.k2 hK (by omega) (by omega)
      have hto := HTB2.out.k2 hK (by omega) (by omega)
      have hon := HON2.out.k2 (by omega) (by omega) hK
      clear c0 c1 HCL t0 t1
      obtain ⟨t0, t1, t2, t3⟩ := htb.cells4
      obtain ⟨f0, f1, f2, f3⟩ := htb.free4
      have htb2 : Blk (T + 1) ((((U3.setCell ⟨T + 1, 0, none⟩ (.int .u64 ((PB.1.1 : Nat) : Int))).setCell ⟨T + 1, 1, none⟩ (.int .u64 ((PB.1.2 : Nat) : Int))).setCell ⟨T + 1, 2, none⟩ (.int .u64 ((PB.2.1 : Nat) : Int))).setCell ⟨T + 1, 3, none⟩ (.int .u64 ((PB.2.2 : Nat) : Int))) (fl4 (ix (pst PB))) := htb.store4 (pst PB)
      have hto2 := hto.other4 (C := T + 1) (by omega) (.int .u64 ((PB.1.1 : Nat) : Int)) (.int .u64 ((PB.1.2 : Nat) : Int)) (.int .u64 ((PB.2.1 : Nat) : Int)) (.int .u64 ((PB.2.2 : Nat) : Int))
      have hcs2 := hcs.ap HN01.out (C := T + 1) (by omega) (ap4 (T + 1) U3 (.int .u64 ((PB.1.1 : Nat) : Int)) (.int .u64 ((PB.1.2 : Nat) : Int)) (.int .u64 ((PB.2.1 : Nat) : Int)) (.int .u64 ((PB.2.2 : Nat) : Int)))
      have hon2 := hon.store4 (C := T + 1) (by omega) (.int .u64 ((PB.1.1 : Nat) : Int)) (.int .u64 ((PB.1.2 : Nat) : Int)) (.int .u64 ((PB.2.1 : Nat) : Int)) (.int .u64 ((PB.2.2 : Nat) : Int))
      obtain ⟨d0, d1⟩ := hcs2.tb.cells2
      have e0 := hcs2.tb.free 0
      have e1 := hcs2.tb.free 1
      have hcs3 := hcs2.putB HN01.out nb
      have htb3 := htb2.ap (ap2 (n0 + 1) _ (.int .u64 ((nb.1 : Nat) : Int)) (.int .u64 ((nb.2 : Nat) : Int))) (by omega)
      have hto3 := hto2.ap (ap2 (n0 + 1) _ (.int .u64 ((nb.1 : Nat) : Int)) (.int .u64 ((nb.2 : Nat) : Int))) (by omega)
      have hon3 := hon2.store2 (C := n0 + 1) (by omega) (.int .u64 ((nb.1 : Nat) : Int)) (.int .u64 ((nb.2 : Nat) : Int))
      have HCS4 := Lib.hid hcs3
      have HTB4 := Lib.hid htb3
      have HTO4 := Lib.hid hto3
      have HON4 := Lib.hid hon3
      clear hC hK hcs htb hto hon htb2 hto2 hcs2 hon2 hcs3 htb3 hto3 hon3
      go_upto_region 10 with fail
      generalize ((((((U3.setCell ⟨T + 1, 0, none⟩ (.int .u64 ((PB.1.1 : Nat) : Int))).setCell ⟨T + 1, 1, none⟩ (.int .u64 ((PB.1.2 : Nat) : Int))).setCell ⟨T + 1, 2, none⟩ (.int .u64 ((PB.2.1 : Nat) : Int))).setCell ⟨T + 1, 3, none⟩ (.int .u64 ((PB.2.2 : Nat) : Int))).setCell ⟨n0 + 1, 0, none⟩ (.int .u64 ((nb.1 : Nat) : Int))).setCell ⟨n0 + 1, 1, none⟩ (.int .u64 ((nb.2 : Nat) : Int))) = U4 at *
      clear t0 t1 t2 t3 f0 f1 f2 f3 d0 d1 e0 e1
      obtain ⟨g0, g1, g2, g3⟩ := HTO4.out.cells4
      obtain ⟨h0, h1, h2, h3⟩ := HTB4.out.cells4
      simp only [pst, ix] at g0 g1 g2 g3 h0 h1 h2 h3
      have hq := eq_pr PA PB
      have HSZ4 : Hid (n1 + 6 ≤ U4.heap.size) := by have h9 := HTB4.out.1; show _ ≤ _; omega
      by_cases hpe : PA = PB
      · have hd : decide (PA = PB) = true := decide_eq_true hpe
        rw [hd] at hq
        have hc2 : c2 = (P1, P2, fd) := by rw [HC2.out, if_neg (by simp [hpe])]
        clear hd hpe
        have HH := Lib.hid hc2
        clear hc2
        go_wp2
        go_roundw
        case rel => exact ⟨k + 1, by omega, by go_num, by rw [HCC.out, HH.out], by rw [HCC.out, HH.out, HNAE.out, HNBE.out, HI2E.out]; exact HCS4.out, HON4.out, HSZ4.out⟩
        case measure => simp [intOf]; omega
      · have hd : decide (PA = PB) = false := decide_eq_false hpe
        rw [hd] at hq
        have hc2 : c2 = (PA, PB, true) := by rw [HC2.out, if_pos hpe]
        clear hd hpe
        obtain ⟨r0, r1, r2, r3⟩ := HCS4.out.r1.free4
        obtain ⟨s0, s1, s2, s3⟩ := HCS4.out.r2.free4
        obtain ⟨j0, j1, j2, j3⟩ := HCS4.out.r1.cells4
        obtain ⟨m0, m1, m2, m3⟩ := HCS4.out.r2.cells4
        have HCS5 : Hid (CS n0 n1 f i2 na i2 nb na nb PA PB ((((((((U4.setCell ⟨n0 + 1 + 1, 0, none⟩ (.int .u64 ((PA.1.1 : Nat) : Int))).setCell ⟨n0 + 1 + 1, 1, none⟩ (.int .u64 ((PA.1.2 : Nat) : Int))).setCell ⟨n0 + 1 + 1, 2, none⟩ (.int .u64 ((PA.2.1 : Nat) : Int))).setCell ⟨n0 + 1 + 1, 3, none⟩ (.int .u64 ((PA.2.2 : Nat) : Int))).setCell ⟨n0 + 1 + 1 + 1, 0, none⟩ (.int .u64 ((PB.1.1 : Nat) : Int))).setCell ⟨n0 + 1 + 1 + 1, 1, none⟩ (.int .u64 ((PB.1.2 : Nat) : Int))).setCell ⟨n0 + 1 + 1 + 1, 2, none⟩ (.int .u64 ((PB.2.1 : Nat) : Int))).setCell ⟨n0 + 1 + 1 + 1, 3, none⟩ (.int .u64 ((PB.2.2 : Nat) : Int))).drew) := Lib.hid (((HCS4.out.put1 HN01.out PA).put2 HN01.out PB).on ((On.refl ((HON4.out.store4 (C := n0 + 1 + 1) (by omega) _ _ _ _).store4 (C := n0 + 1 + 1 + 1) (by omega) _ _ _ _).tab).drew))
        have HON5 : Hid (On w ((((((((U4.setCell ⟨n0 + 1 + 1, 0, none⟩ (.int .u64 ((PA.1.1 : Nat) : Int))).setCell ⟨n0 + 1 + 1, 1, none⟩ (.int .u64 ((PA.1.2 : Nat) : Int))).setCell ⟨n0 + 1 + 1, 2, none⟩ (.int .u64 ((PA.2.1 : Nat) : Int))).setCell ⟨n0 + 1 + 1, 3, none⟩ (.int .u64 ((PA.2.2 : Nat) : Int))).setCell ⟨n0 + 1 + 1 + 1, 0, none⟩ (.int .u64 ((PB.1.1 : Nat) : Int))).setCell ⟨n0 + 1 + 1 + 1, 1, none⟩ (.int .u64 ((PB.1.2 : Nat) : Int))).setCell ⟨n0 + 1 + 1 + 1, 2, none⟩ (.int .u64 ((PB.2.1 : Nat) : Int))).setCell ⟨n0 + 1 + 1 + 1, 3, none⟩ (.int .u64 ((PB.2.2 : Nat) : Int))).drew) := Lib.hid (((HON4.out.store4 (C := n0 + 1 + 1) (by omega) (.int .u64 ((PA.1.1 : Nat) : Int)) (.int .u64 ((PA.1.2 : Nat) : Int)) (.int .u64 ((PA.2.1 : Nat) : Int)) (.int .u64 ((PA.2.2 : Nat) : Int))).store4 (C := n0 + 1 + 1 + 1) (by omega) (.int .u64 ((PB.1.1 : Nat) : Int)) (.int .u64 ((PB.1.2 : Nat) : Int)) (.int .u64 ((PB.2.1 : Nat) : Int)) (.int .u64 ((PB.2.2 : Nat) : Int))).drew)
        have HH := Lib.hid hc2
        clear hc2
        have HSZ5 : Hid (n1 + 6 ≤ ((((((((U4.setCell ⟨n0 + 1 + 1, 0, none⟩ (.int .u64 ((PA.1.1 : Nat) : Int))).setCell ⟨n0 + 1 + 1, 1, none⟩ (.int .u64 ((PA.1.2 : Nat) : Int))).setCell ⟨n0 + 1 + 1, 2, none⟩ (.int .u64 ((PA.2.1 : Nat) : Int))).setCell ⟨n0 + 1 + 1, 3, none⟩ (.int .u64 ((PA.2.2 : Nat) : Int))).setCell ⟨n0 + 1 + 1 + 1, 0, none⟩ (.int .u64 ((PB.1.1 : Nat) : Int))).setCell ⟨n0 + 1 + 1 + 1, 1, none⟩ (.int .u64 ((PB.1.2 : Nat) : Int))).setCell ⟨n0 + 1 + 1 + 1, 2, none⟩ (.int .u64 ((PB.2.1 : Nat) : Int))).setCell ⟨n0 + 1 + 1 + 1, 3, none⟩ (.int .u64 ((PB.2.2 : Nat) : Int))).drew.heap.size) := Lib.hid (by have h9 := HSZ4.out; simpa [World.setCell] using h9)
        go_upto_region 11 with fail
        clear hq g0 g1 g2 g3 h0 h1 h2 h3
        obtain ⟨g0, g1, g2, g3⟩ := HTO4.out.cells4
        obtain ⟨h0, h1, h2, h3⟩ := HTB4.out.cells4
        simp only [pst, ix] at g0 g1 g2 g3 h0 h1 h2 h3
        go_region_with (fail)
        all_goals clear r0 r1 r2 r3 s0 s1 s2 s3 j0 j1 j2 j3 m0 m1 m2 m3
        all_goals go_wp2
        all_goals go_roundw
        all_goals first | exact ⟨k + 1, by omega, by go_num, by rw [HCC.out, HH.out], by rw [HCC.out, HH.out, HNAE.out, HNBE.out, HI2E.out]; exact HCS5.out, HON5.out, HSZ5.out⟩ | (simp [intOf]; omega)
    · obtain rfl : k = p.length := by omega
      have hn01 := HN01.out
      have hnw := HNW.out
      have hw0 := HW0P.out
      generalize hxa : clF f i a p p.length = xa at *
      generalize hxb : clF f i b q p.length = xb at *
      generalize hcc : csF f i a b p q p.length = cc at *
      obtain ⟨P1, P2, fd⟩ := cc
      simp only at HCS
      have hr : clR f i a b p q = if xa = xb then (P1, P2, fd) else ((zD, zD), (zD, zD), false) := by unfold clR; rw [hxa, hxb, hcc]
      have HRR := Lib.hid hr
      clear hxa hxb hcc hr
      obtain ⟨x0, x1⟩ := HCS.out.ta.cells2
      obtain ⟨y0, y1⟩ := HCS.out.tb.cells2
      have hq := eq_dg xa xb
      by_cases hxe : xa = xb
      · have hd : decide (xa = xb) = true := decide_eq_true hxe
        rw [hd] at hq
        have HV : Hid (clR f i a b p q = (P1, P2, fd)) := HRR.out.trans (if_pos hxe)
        clear hd hxe
        have hb1 := HCS.out.r1
        have hb2 := HCS.out.r2
        have hst : Blk (n0 + 1 + 1) ((((((((wr.setCell ⟨n0 + 1 + 1, 0, none⟩ (.int .u64 ((P1.1.1 : Nat) : Int))).setCell ⟨n0 + 1 + 1, 1, none⟩ (.int .u64 ((P1.1.2 : Nat) : Int))).setCell ⟨n0 + 1 + 1, 2, none⟩ (.int .u64 ((P1.2.1 : Nat) : Int))).setCell ⟨n0 + 1 + 1, 3, none⟩ (.int .u64 ((P1.2.2 : Nat) : Int))).setCell ⟨n0 + 1 + 1 + 1, 0, none⟩ (.int .u64 ((P2.1.1 : Nat) : Int))).setCell ⟨n0 + 1 + 1 + 1, 1, none⟩ (.int .u64 ((P2.1.2 : Nat) : Int))).setCell ⟨n0 + 1 + 1 + 1, 2, none⟩ (.int .u64 ((P2.2.1 : Nat) : Int))).setCell ⟨n0 + 1 + 1 + 1, 3, none⟩ (.int .u64 ((P2.2.2 : Nat) : Int))) (fl4 (ix (pst P1))) ∧ Blk (n0 + 1 + 1 + 1) ((((((((wr.setCell ⟨n0 + 1 + 1, 0, none⟩ (.int .u64 ((P1.1.1 : Nat) : Int))).setCell ⟨n0 + 1 + 1, 1, none⟩ (.int .u64 ((P1.1.2 : Nat) : Int))).setCell ⟨n0 + 1 + 1, 2, none⟩ (.int .u64 ((P1.2.1 : Nat) : Int))).setCell ⟨n0 + 1 + 1, 3, none⟩ (.int .u64 ((P1.2.2 : Nat) : Int))).setCell ⟨n0 + 1 + 1 + 1, 0, none⟩ (.int .u64 ((P2.1.1 : Nat) : Int))).setCell ⟨n0 + 1 + 1 + 1, 1, none⟩ (.int .u64 ((P2.1.2 : Nat) : Int))).setCell ⟨n0 + 1 + 1 + 1, 2, none⟩ (.int .u64 ((P2.2.1 : Nat) : Int))).setCell ⟨n0 + 1 + 1 + 1, 3, none⟩ (.int .u64 ((P2.2.2 : Nat) : Int))) (fl4 (ix (pst P2))) := ⟨(hb1.store4 (pst P1)).other4 (C := n0 + 1 + 1 + 1) (by omega) _ _ _ _, (hb2.other4 (C := n0 + 1 + 1) (by omega) _ _ _ _).store4 (pst P2)⟩
        have HST := Lib.hid hst
        have HOX : Hid (On w ((((((((wr.setCell ⟨n0 + 1 + 1, 0, none⟩ (.int .u64 ((P1.1.1 : Nat) : Int))).setCell ⟨n0 + 1 + 1, 1, none⟩ (.int .u64 ((P1.1.2 : Nat) : Int))).setCell ⟨n0 + 1 + 1, 2, none⟩ (.int .u64 ((P1.2.1 : Nat) : Int))).setCell ⟨n0 + 1 + 1, 3, none⟩ (.int .u64 ((P1.2.2 : Nat) : Int))).setCell ⟨n0 + 1 + 1 + 1, 0, none⟩ (.int .u64 ((P2.1.1 : Nat) : Int))).setCell ⟨n0 + 1 + 1 + 1, 1, none⟩ (.int .u64 ((P2.1.2 : Nat) : Int))).setCell ⟨n0 + 1 + 1 + 1, 2, none⟩ (.int .u64 ((P2.2.1 : Nat) : Int))).setCell ⟨n0 + 1 + 1 + 1, 3, none⟩ (.int .u64 ((P2.2.2 : Nat) : Int))).drew) := Lib.hid (((HON.out.store4 (C := n0 + 1 + 1) (by omega) _ _ _ _).store4 (C := n0 + 1 + 1 + 1) (by omega) _ _ _ _).drew)
        go_upto_region 15 with fail
        clear hq x0 x1 y0 y1 hst
        obtain ⟨g0, g1, g2, g3⟩ := hb1.cells4
        obtain ⟨h0, h1, h2, h3⟩ := hb2.cells4
        simp only [pst, ix] at g0 g1 g2 g3 h0 h1 h2 h3
        obtain ⟨r0, r1, r2, r3⟩ := hb1.free4
        obtain ⟨s0, s1, s2, s3⟩ := hb2.free4
        clear hb1 hb2
        go_region_with (fail)
        all_goals clear g0 g1 g2 g3 h0 h1 h2 h3 r0 r1 r2 r3 s0 s1 s2 s3
        all_goals go_wp2
        all_goals obtain ⟨p0, p1, p2, p3⟩ := HST.out.1.cells4
        all_goals obtain ⟨q0, q1, q2, q3⟩ := HST.out.2.cells4
        all_goals simp only [pst, ix] at p0 p1 p2 p3 q0 q1 q2 q3
        all_goals refine bodyPost_ret (v := .tuple #[prV P1, prV P2, .bool fd]) (by simp [results, Tryd.results31, go_sem, p0, p1, p2, p3, q0, q1, q2, q3]; try rfl) rfl ?_
        all_goals exact ⟨by rw [HV.out], HOX.out⟩
      · have hd : decide (xa = xb) = false := decide_eq_false hxe
        rw [hd] at hq
        have HV : Hid (clR f i a b p q = ((zD, zD), (zD, zD), false)) := HRR.out.trans (if_neg hxe)
        clear hd hxe
        go_upto_region 14 with fail
        clear hq x0 x1 y0 y1
        have HRz := Lib.hid HCS.out.r1
        have HSz := Lib.hid HCS.out.r2
        obtain ⟨r0, r1, r2, r3⟩ := HRz.out.cells4
        simp only [pst, ix] at r0 r1 r2 r3
        obtain ⟨g0, g1, g2, g3⟩ := HRz.out.free4
        have HSy := Lib.hid (HSz.out.other4 (C := n0 + 1 + 1) (by omega) (.int .u64 0) (.int .u64 0) (.int .u64 0) (.int .u64 0))
        obtain ⟨s0, s1, s2, s3⟩ := HSy.out.cells4
        simp only [pst, ix] at s0 s1 s2 s3
        obtain ⟨k0, k1, k2, k3⟩ := HSy.out.free4
        have HE := Lib.hid (zero_pairs (by omega) HRz.out HSz.out)
        clear HRz HSz HSy
        refine wp_region_lit ?_
        refine wpList_built rfl 48 [] rfl [] rfl #[.int .u64 0, .int .u64 0, .int .u64 0, .int .u64 0] (build_pr _) ?_
        refine wpList_built rfl 48 [] rfl [] rfl #[.int .u64 0, .int .u64 0, .int .u64 0, .int .u64 0] (build_pr _) ?_
        go_wp2
        obtain ⟨⟨p0, p1, p2, p3⟩, q0, q1, q2, q3⟩ := HE.out
        refine bodyPost_ret (v := .tuple #[.agg #[.int .u64 0, .int .u64 0, .int .u64 0, .int .u64 0], .agg #[.int .u64 0, .int .u64 0, .int .u64 0, .int .u64 0], .bool false]) (by simp [results, Tryd.results31, go_sem, p0, p1, p2, p3, q0, q1, q2, q3]; try rfl) rfl ?_
        exact ⟨by rw [HV.out]; rfl, (HON.out.store4 (by omega) _ _ _ _).store4 (by omega) _ _ _ _⟩
end Go.Proofs.YtnmfneeojnmebaaDoor

/- Package tree: Clash in all cases; what it says of openings. -/
namespace Go.Proofs.YtnmfneeojnmebaaDoor
open Go.RowKit
set_option linter.unusedVariables false

theorem clash_any (f i : Int) (a b : Dg) (p q : List Dg) (pv qv : Value) (w : World) (hT : Tab w) (ha : SmD a) (hb : SmD b) (hP : DR w pv p) (hQ : DR w qv q) (hi : i ≤ 9223372036854775807) :
    Calls Tryd.prog 31 #[.int .i64 f, .int .i64 i, dgV a, dgV b, pv, qv] w fun e w' => e = .returned (clV (clashV f i a b p q)) ∧ On w w' := by
  by_cases h : p.length = q.length ∧ opnB f i a p = true ∧ opnB f i b q = true
  · have hn := opnB_nat h.2.1
    have e : clashV f i a b p q = clR f i.toNat a b p q := by
      unfold clashV clR
      by_cases hc : clF f i.toNat a p p.length = clF f i.toNat b q p.length
      · rw [if_pos ⟨h.1, h.2.1, h.2.2, hc⟩, if_pos hc]
      · rw [if_neg (fun hh => hc hh.2.2.2), if_neg hc]
    rw [e]
    obtain ⟨h1, h2, h3⟩ := h
    generalize i.toNat = n at *
    subst hn
    exact clash_yes f n a b p q pv qv w hT hP hQ (by omega) h1 h2 h3
  · have e : clashV f i a b p q = ((zD, zD), (zD, zD), false) := if_neg (fun hh => h ⟨hh.1, hh.2.1, hh.2.2.1⟩)
    rw [e]
    exact clash_no f i a b p q pv qv w hT ha hb hP hQ h
/-- What is found are two different pairs with one node. -/
theorem clash_found (f i : Int) (a b : Dg) (p q : List Dg) (h : (clashV f i a b p q).2.2 = true) :
    (clashV f i a b p q).1 ≠ (clashV f i a b p q).2.1 ∧ nodeF f (clashV f i a b p q).1.1 (clashV f i a b p q).1.2 = nodeF f (clashV f i a b p q).2.1.1 (clashV f i a b p q).2.1.2 := by
  unfold clashV at h ⊢
  by_cases hc : p.length = q.length ∧ opnB f i a p = true ∧ opnB f i b q = true ∧ clF f i.toNat a p p.length = clF f i.toNat b q p.length
  · rw [if_pos hc] at h ⊢
    obtain ⟨h1, h2⟩ := csF_found f i.toNat a b p q p.length h
    exact ⟨h1, h2 hc.2.2.2⟩
  · rw [if_neg hc] at h; exact absurd h (by simp)
theorem checkB_parts {f i : Int} {cp : List Dg} {x : Dg} {p : List Dg} (h : checkB f cp i x p = true) : opnB f i x p = true ∧ clF f i.toNat x p p.length = cp.getD (i.toNat / 2 ^ p.length) zD := by
  unfold checkB at h
  cases hl : logN cp.length with
  | none => rw [hl] at h; simp at h
  | some c =>
    rw [hl] at h
    simp only [Bool.and_eq_true, decide_eq_true_eq] at h
    exact ⟨h.2.1, h.2.2.2.2⟩
theorem listD_ext {p q : List Dg} (hl : p.length = q.length) (h : ∀ t, t < p.length → p.getD t zD = q.getD t zD) : p = q := ext_dg hl fun j hj => h j (by omega)
/-- Who opens a place in two ways is found out. -/
theorem binds_plain (f i : Int) (cp : List Dg) (a b : Dg) (p q : List Dg) (hl : p.length = q.length) (h1 : checkB f cp i a p = true) (h2 : checkB f cp i b q = true) (hn : (clashV f i a b p q).2.2 = false) : a = b ∧ p = q := by
  obtain ⟨o1, c1⟩ := checkB_parts h1
  obtain ⟨o2, c2⟩ := checkB_parts h2
  have hc : clF f i.toNat a p p.length = clF f i.toNat b q p.length := by rw [c1]; rw [hl] at c1 ⊢; rw [c2]
  unfold clashV at hn
  rw [if_pos ⟨hl, o1, o2, hc⟩] at hn
  rcases Nat.eq_zero_or_pos p.length with h0 | h0
  · rw [h0] at hc
    exact ⟨hc, listD_ext hl fun t ht => absurd ht (by omega)⟩
  · obtain ⟨e1, e2⟩ := csF_none f i.toNat a b p q p.length h0 hn
    exact ⟨e1, listD_ext hl e2⟩
end Go.Proofs.YtnmfneeojnmebaaDoor
