/- Package tree: Check: what the call returns. -/
import Derived.Test.YtnmfneeojnmebaaDoorKt15
import Derived.Deep.RegionWith
import Derived.Test.YtnmfneeojnmebaaDoorKt18
import Derived.Test.YtnmfneeojnmebaaDoorKt14
/- Package tree: Check: what the call returns. -/
namespace Go.Proofs.YtnmfneeojnmebaaDoor
open Go.RowKit
set_option linter.unusedVariables false

/-- What Climb returns. -/
def climbV (f i : Int) (x : Dg) (p : List Dg) : Dg := if opnB f i x p = true then clF f i.toNat x p p.length else zD
theorem climbV_yes {f i : Int} {x : Dg} {p : List Dg} (h : opnB f i x p = true) : climbV f i x p = clF f i.toNat x p p.length := if_pos h
theorem climbV_no {f i : Int} {x : Dg} {p : List Dg} (h : opnB f i x p = false) : climbV f i x p = zD := if_neg (by rw [h]; simp)
theorem opnB_nat {f i : Int} {x : Dg} {p : List Dg} (h : opnB f i x p = true) : i = (i.toNat : Int) := by
  unfold opnB at h
  simp only [Bool.and_eq_true, decide_eq_true_eq] at h
  have := h.2.1
  omega
theorem climbV_sm (f i : Int) (x : Dg) (p : List Dg) (hx : SmD x) : SmD (climbV f i x p) := by
  unfold climbV; split
  · exact clF_sm _ _ _ _ hx _
  · exact zD_sm
theorem climb_any (f i : Int) (x : Dg) (p : List Dg) (v : Value) (w : World) (hT : Tab w) (hx : SmD x) (hR : DR w v p) (hi : i ≤ 9223372036854775807) :
    Calls Tryd.prog 27 #[.int .i64 f, .int .i64 i, dgV x, v] w fun e w' => e = .returned (dgV (climbV f i x p)) ∧ On w w' := by
  cases h : opnB f i x p
  · rw [climbV_no h]; exact climb_no f i x p v w hT hx hR h
  · rw [climbV_yes h]
    have hn := opnB_nat h
    generalize i.toNat = n at *
    subst hn
    exact climb_yes f n x p v w hT hR (by omega) h
/-- What Check returns. -/
def checkB (f : Int) (cp : List Dg) (i : Int) (x : Dg) (p : List Dg) : Bool :=
  match logN cp.length with
  | none => false
  | some c => decide (c + p.length ≤ 18) && (opnB f i x p && (okA f cp && (decide (i.toNat / 2 ^ p.length < cp.length) && decide (clF f i.toNat x p p.length = cp.getD (i.toNat / 2 ^ p.length) zD))))
theorem eq_dg (a b : Dg) (w : World) : (Op.equalIn 10000 36 (dgV a) (dgV b)).run Tryd.prog w = .ok (decide (a = b)) w := by
  rw [eq2]
  obtain ⟨x, y⟩ := a
  obtain ⟨z, u⟩ := b
  congr 1
  simp only [Prod.mk.injEq, Bool.decide_and]
  congr 1 <;> (rw [Bool.eq_iff_iff]; simp; omega)
set_option maxHeartbeats 1000000 in
set_option maxRecDepth 100000 in
theorem check_none (f : Int) (cp : List Dg) (cv : Value) (i : Int) (x : Dg) (p : List Dg) (v : Value) (w : World) (hT : TZ w) (hC : DR w cv cp) (hno : logN cp.length = none) (hP : DR w v p) :
    Calls Tryd.prog 29 #[.int .i64 f, cv, .int .i64 i, dgV x, v] w fun e w' => e = .returned (.bool false) ∧ On w w' := by
  obtain ⟨ca, cc, rfl⟩ := hC.shape
  obtain ⟨pa, pc, rfl⟩ := hP.shape
  have HX := Lib.hid (fun w => exponent_none cp.length w (by have := hC.2.1; omega) hno)
  have HO := Lib.hid ((On.refl hT.1).alloc (.cells #[.int .u64 ((x.1 : Nat) : Int), .int .u64 ((x.2 : Nat) : Int)] 36))
  clear hC hP hno hT
  go_enter Tryd.func29, Tryd.ntmps29
  go_wp2_with (go_at_call 37; refine (HX.out _).mono ?_; rintro e w' ⟨rfl, rfl⟩)
  go_ret
  exact ⟨rfl, HO.out⟩
set_option maxHeartbeats 4000000 in
set_option maxRecDepth 100000 in
theorem check_some (f : Int) (cp : List Dg) (cv : Value) (i : Int) (x : Dg) (p : List Dg) (v : Value) (c : Nat) (w : World) (hT : TZ w) (hC : DR w cv cp) (hc : logN cp.length = some c) (hx : SmD x) (hP : DR w v p) (hi : i ≤ 9223372036854775807) :
    Calls Tryd.prog 29 #[.int .i64 f, cv, .int .i64 i, dgV x, v] w fun e w' => e = .returned (.bool (decide (c + p.length ≤ 18) && (opnB f i x p && (okA f cp && (decide (i.toNat / 2 ^ p.length < cp.length) && decide (clF f i.toNat x p p.length = cp.getD (i.toNat / 2 ^ p.length) zD)))))) ∧ On w w' := by
  obtain ⟨ca, cc, rfl⟩ := hC.shape
  obtain ⟨pa, pc, rfl⟩ := hP.shape
  obtain ⟨hcl, hc18⟩ := logN_some hc
  obtain ⟨u, hu⟩ : ∃ u, u = w.alloc (.cells #[.int .u64 ((x.1 : Nat) : Int), .int .u64 ((x.2 : Nat) : Int)] 36) := ⟨_, rfl⟩
  have HU := Lib.hid hu
  have HO : Hid (On w u) := by refine Lib.hid ?_; rw [hu]; exact (On.refl hT.1).alloc _
  have HB : Hid (Blk w.heap.size u [x.1, x.2]) := by refine Lib.hid ?_; rw [hu]; exact blk_new2 w _ _ _
  have HX := Lib.hid (exponent_some c cp.length u (hT.on HO.out) hc18 hcl)
  have HI := Lib.hid (isOpening_any f i x p _ u HO.out.tab hx (hP.on HO.out))
  have HPR := Lib.hid (fun w' (h : On u w') => proper_any f cp _ w' h.tab ((hC.on HO.out).on h))
  have HCL := Lib.hid (fun w' (h : On u w') => climb_any f i x p _ w' h.tab hx ((hP.on HO.out).on h) hi)
  have HC := Lib.hid (hC.on HO.out)
  obtain ⟨x0, x1⟩ := HB.out.cells2
  have hpl := hP.2.1
  have hcl2 := hC.2.1
  clear hT hC hP hc hx hu hcl
  by_cases h18 : c + p.length ≤ 18
  rotate_left
  · have hd : decide (c + p.length ≤ 18) = false := decide_eq_false h18
    have hl : ¬ (c : Int) + (p.length : Int) ≤ 18 := by omega
    have hl2 : (18 : Int) < (c : Int) + (p.length : Int) := by omega
    rw [hd]
    clear hd h18 hl
    go_enter Tryd.func29, Tryd.ntmps29
    go_upto_region 1 with fail
    rw [← HU.out]
    go_wp2_with (first
      | (go_at_call 37; (with_reducible refine HX.out.mono ?_); rintro e w' ⟨rfl, rfl⟩))
    go_ret
    exact ⟨rfl, HO.out⟩
  have hd : decide (c + p.length ≤ 18) = true := decide_eq_true h18
  have hl2 : ¬ (18 : Int) < (c : Int) + (p.length : Int) := by omega
  have hdl : decide ((18 : Int) < (c : Int) + (p.length : Int)) = false := decide_eq_false hl2
  rw [hd]
  clear hd hl2
  cases hop : opnB f i x p
  · rw [hop] at HI; clear hop h18
    go_enter Tryd.func29, Tryd.ntmps29
    go_upto_region 1 with fail
    rw [← HU.out]
    go_wp2_with (first
      | (go_at_call 37; (with_reducible refine HX.out.mono ?_); rintro e w' ⟨rfl, rfl⟩)
      | (go_at_call 51; (with_reducible refine HI.out.mono ?_); rintro e w1 ⟨rfl, hO1⟩; have HO1 := Lib.hid hO1; clear hO1))
    go_ret
    exact ⟨rfl, HO.out.trans HO1.out⟩
  have HIN := Lib.hid (opnB_nat hop)
  have HCV := Lib.hid (climbV_yes hop)
  rw [hop] at HI
  clear hop
  cases hok : okA f cp
  · rw [hok] at HPR; clear hok h18 HCV
    go_enter Tryd.func29, Tryd.ntmps29
    go_upto_region 1 with fail
    rw [← HU.out]
    go_wp2_with (first
      | (go_at_call 37; (with_reducible refine HX.out.mono ?_); rintro e w' ⟨rfl, rfl⟩)
      | (go_at_call 51; (with_reducible refine HI.out.mono ?_); rintro e w1 ⟨rfl, hO1⟩; have HO1 := Lib.hid hO1; clear hO1)
      | (go_at_call 39; (with_reducible refine (HPR.out _ HO1.out).mono ?_); rintro e w2 ⟨rfl, hO2⟩; have HO2 := Lib.hid (HO1.out.trans hO2); clear hO2))
    go_ret
    exact ⟨rfl, HO.out.trans HO2.out⟩
  rw [hok] at HPR
  clear hok
  rw [HCV.out] at HCL
  clear HCV
  have hin := HIN.out
  clear HIN
  generalize i.toNat = j at *
  subst hin
  have hsh : ((j : Nat) : Int) / 2 ^ p.length = ((j / 2 ^ p.length : Nat) : Int) := by rw [Int.natCast_ediv]; simp
  have hqb : j / 2 ^ p.length ≤ j := Nat.div_le_self _ _
  generalize j / 2 ^ p.length = q at *
  by_cases hq : q < cp.length
  rotate_left
  · have hd : decide (q < cp.length) = false := decide_eq_false hq
    have hqd : decide (((q : Nat) : Int) < (cp.length : Int)) = false := by simp; omega
    have hq3 : cp.length ≤ q := by omega
    rw [hd]
    clear hd hq HCL
    go_enter Tryd.func29, Tryd.ntmps29
    go_upto_region 1 with fail
    rw [← HU.out]
    go_wp2_with (first
      | (go_at_call 37; (with_reducible refine HX.out.mono ?_); rintro e w' ⟨rfl, rfl⟩)
      | (go_at_call 51; (with_reducible refine HI.out.mono ?_); rintro e w1 ⟨rfl, hO1⟩; have HO1 := Lib.hid hO1; clear hO1)
      | (go_at_call 39; (with_reducible refine (HPR.out _ HO1.out).mono ?_); rintro e w2 ⟨rfl, hO2⟩; have HO2 := Lib.hid (HO1.out.trans hO2); clear hO2))
    refine region_keep_tail (fun wq => On w2 wq) 16 (by kernel_rfl) (by kernel_rfl) (On.refl HO2.out.tab).drew ?_
    simp only [List.take_succ_cons, List.take_zero, List.drop_succ_cons, List.drop_zero]
    refine quiet_start fun L9 hL9 => ?_
    refine quiet_take (v := ?nv0) hL9 (by kernel_rfl) (fun wq hwq => ?ny0) (fun L9 hL9 => ?nr0)
    case ny0 => (go_simp; try with_reducible rfl)
    try simp only [Act.put, List.setIfInBounds_toArray, List.set_cons_zero, List.set_cons_succ]
    refine quiet_take (v := ?nv1) hL9 (by kernel_rfl) (fun wq hwq => ?ny1) (fun L9 hL9 => ?nr1)
    case ny1 => (go_simp; try with_reducible rfl)
    try simp only [Act.put, List.setIfInBounds_toArray, List.set_cons_zero, List.set_cons_succ]
    refine quiet_take (v := ?nv2) hL9 (by kernel_rfl) (fun wq hwq => ?ny2) (fun L9 hL9 => ?nr2)
    case ny2 => (go_simp; try with_reducible rfl)
    try simp only [Act.put, List.setIfInBounds_toArray, List.set_cons_zero, List.set_cons_succ]
    refine quiet_take (v := .bool false) hL9 (by kernel_rfl) (fun wq hwq => ?ny3) (fun L9 hL9 => ?nr3)
    case ny3 => (go_simp; try with_reducible rfl)
    try simp only [Act.put, List.setIfInBounds_toArray, List.set_cons_zero, List.set_cons_succ]
    refine quiet_take (v := .bool false) hL9 (by kernel_rfl) (fun wq hwq => ?ny4) (fun L9 hL9 => ?nr4)
    case ny4 => (go_simp; try with_reducible rfl)
    try simp only [Act.put, List.setIfInBounds_toArray, List.set_cons_zero, List.set_cons_succ]
    refine quiet_skip hL9 (by kernel_rfl) (fun L9 hL9 => ?_)
    try simp only [Act.put, List.setIfInBounds_toArray, List.set_cons_zero, List.set_cons_succ]
    refine quiet_skip hL9 (by kernel_rfl) (fun L9 hL9 => ?_)
    try simp only [Act.put, List.setIfInBounds_toArray, List.set_cons_zero, List.set_cons_succ]
    refine quiet_skip hL9 (by kernel_rfl) (fun L9 hL9 => ?_)
    try simp only [Act.put, List.setIfInBounds_toArray, List.set_cons_zero, List.set_cons_succ]
    refine quiet_skip hL9 (by kernel_rfl) (fun L9 hL9 => ?_)
    try simp only [Act.put, List.setIfInBounds_toArray, List.set_cons_zero, List.set_cons_succ]
    refine quiet_skip hL9 (by kernel_rfl) (fun L9 hL9 => ?_)
    try simp only [Act.put, List.setIfInBounds_toArray, List.set_cons_zero, List.set_cons_succ]
    refine quiet_skip hL9 (by kernel_rfl) (fun L9 hL9 => ?_)
    try simp only [Act.put, List.setIfInBounds_toArray, List.set_cons_zero, List.set_cons_succ]
    refine quiet_skip hL9 (by kernel_rfl) (fun L9 hL9 => ?_)
    try simp only [Act.put, List.setIfInBounds_toArray, List.set_cons_zero, List.set_cons_succ]
    refine quiet_skip hL9 (by kernel_rfl) (fun L9 hL9 => ?_)
    try simp only [Act.put, List.setIfInBounds_toArray, List.set_cons_zero, List.set_cons_succ]
    refine quiet_skip hL9 (by kernel_rfl) (fun L9 hL9 => ?_)
    try simp only [Act.put, List.setIfInBounds_toArray, List.set_cons_zero, List.set_cons_succ]
    refine quiet_skip hL9 (by kernel_rfl) (fun L9 hL9 => ?_)
    try simp only [Act.put, List.setIfInBounds_toArray, List.set_cons_zero, List.set_cons_succ]
    refine quiet_take (v := .bool false) hL9 (by kernel_rfl) (fun wq hwq => ?ny15) (fun L9 hL9 => ?nr15)
    case ny15 => (go_simp; try with_reducible rfl)
    try simp only [Act.put, List.setIfInBounds_toArray, List.set_cons_zero, List.set_cons_succ]
    refine quiet_nil hL9 ?_
    clear hL9
    intro wz HOz
    have HOz := Lib.hid HOz
    go_wp2
    go_ret
    exact ⟨by simp, (HO.out.trans HO2.out).trans HOz.out⟩
  have hd : decide (q < cp.length) = true := decide_eq_true hq
  have hqd : decide (((q : Nat) : Int) < (cp.length : Int)) = true := by simp; omega
  have hql : ((q : Nat) : Int) < (cp.length : Int) := by omega
  rw [hd]
  clear hd
  obtain ⟨b, off, rfl, c0, c1⟩ := HC.out.cells q hq
  have HC0 := Lib.hid c0; have HC1 := Lib.hid c1
  generalize clF f j x p p.length = y at *
  generalize cp.getD q zD = z at *
  have heq := eq_dg y z
  generalize decide (y = z) = E at *
  clear c0 c1 hq
  go_enter Tryd.func29, Tryd.ntmps29
  go_upto_region 1 with fail
  rw [← HU.out]
  go_wp2_with (first
    | (go_at_call 37; (with_reducible refine HX.out.mono ?_); rintro e w' ⟨rfl, rfl⟩)
    | (go_at_call 51; (with_reducible refine HI.out.mono ?_); rintro e w1 ⟨rfl, hO1⟩; have HO1 := Lib.hid hO1; clear hO1)
    | (go_at_call 39; (with_reducible refine (HPR.out _ HO1.out).mono ?_); rintro e w2 ⟨rfl, hO2⟩; have HO2 := Lib.hid (HO1.out.trans hO2); clear hO2))
  have HO2' := Lib.hid HO2.out
  have HK : Hid (∀ wq, On w2 wq → (wq.cell? ⟨w.heap.size, 0, none⟩ = some (.int .u64 ((x.1 : Nat) : Int)) ∧ wq.cell? ⟨w.heap.size, 1, none⟩ = some (.int .u64 ((x.2 : Nat) : Int))) ∧ wq.cell? ⟨b, off + q * 2, none⟩ = some (.int .u64 ((z.1 : Nat) : Int)) ∧ wq.cell? ⟨b, off + q * 2 + 1, none⟩ = some (.int .u64 ((z.2 : Nat) : Int))) := fun wq h => by
    have hO := HO2.out.trans h
    exact ⟨(HB.out.on hO).cells2, (hO.cell (p := ⟨b, off + q * 2, none⟩) (cell_size HC0.out)).trans HC0.out, (hO.cell (p := ⟨b, off + q * 2 + 1, none⟩) (cell_size HC1.out)).trans HC1.out⟩
  replace HCL : Hid (∀ wq, On w2 wq → Calls Tryd.prog 27 #[.int .i64 f, .int .i64 ((j : Nat) : Int), dgV x, .slice pa p.length pc] wq fun e w' => e = .returned (dgV y) ∧ On w2 w') := fun wq h => (HCL.out wq (HO2.out.trans h)).mono fun e w' ⟨he, ho⟩ => ⟨he, h.trans ho⟩
  clear x0 x1
  refine region_keep_tail (fun wq => On w2 wq) 16 (by kernel_rfl) (by kernel_rfl) (On.refl HO2.out.tab).drew ?_
  simp only [List.take_succ_cons, List.take_zero, List.drop_succ_cons, List.drop_zero]
  refine quiet_start fun L9 hL9 => ?_
  refine quiet_take (v := ?mv0) hL9 (by kernel_rfl) (fun wq hwq => ?my0) (fun L9 hL9 => ?mr0)
  case my0 => (go_simp; try with_reducible rfl)
  try simp only [Act.put, List.setIfInBounds_toArray, List.set_cons_zero, List.set_cons_succ]
  refine quiet_take (v := ?mv1) hL9 (by kernel_rfl) (fun wq hwq => ?my1) (fun L9 hL9 => ?mr1)
  case my1 => (go_simp; try with_reducible rfl)
  try simp only [Act.put, List.setIfInBounds_toArray, List.set_cons_zero, List.set_cons_succ]
  refine quiet_take (v := ?mv2) hL9 (by kernel_rfl) (fun wq hwq => ?my2) (fun L9 hL9 => ?mr2)
  case my2 => (go_simp; try with_reducible rfl)
  try simp only [Act.put, List.setIfInBounds_toArray, List.set_cons_zero, List.set_cons_succ]
  refine quiet_take (v := .bool true) hL9 (by kernel_rfl) (fun wq hwq => ?my3) (fun L9 hL9 => ?mr3)
  case my3 => (go_simp; try with_reducible rfl)
  try simp only [Act.put, List.setIfInBounds_toArray, List.set_cons_zero, List.set_cons_succ]
  refine quiet_take (v := .bool true) hL9 (by kernel_rfl) (fun wq hwq => ?my4) (fun L9 hL9 => ?mr4)
  case my4 => (go_simp; try with_reducible rfl)
  try simp only [Act.put, List.setIfInBounds_toArray, List.set_cons_zero, List.set_cons_succ]
  refine quiet_take (v := ?mv5) hL9 (by kernel_rfl) (fun wq hwq => ?my5) (fun L9 hL9 => ?mr5)
  case my5 => (go_simp; try with_reducible rfl)
  try simp only [Act.put, List.setIfInBounds_toArray, List.set_cons_zero, List.set_cons_succ]
  refine quiet_take (v := ?mv6) hL9 (by kernel_rfl) (fun wq hwq => ?my6) (fun L9 hL9 => ?mr6)
  case my6 => (go_simp; try with_reducible rfl)
  try simp only [Act.put, List.setIfInBounds_toArray, List.set_cons_zero, List.set_cons_succ]
  refine quiet_take (v := dgV x) hL9 (by kernel_rfl) (fun wq hwq => ?my7) (fun L9 hL9 => ?mr7)
  case my7 => (obtain ⟨⟨x0, x1⟩, z0, z1⟩ := HK.out wq hwq; go_simp; try with_reducible rfl)
  try simp only [Act.put, List.setIfInBounds_toArray, List.set_cons_zero, List.set_cons_succ]
  refine quiet_take (v := ?mv8) hL9 (by kernel_rfl) (fun wq hwq => ?my8) (fun L9 hL9 => ?mr8)
  case my8 => (go_simp; try with_reducible rfl)
  try simp only [Act.put, List.setIfInBounds_toArray, List.set_cons_zero, List.set_cons_succ]
  refine quiet_take (v := dgV y) hL9 (by kernel_rfl) (fun wq hwq => ?my9) (fun L9 hL9 => ?mr9)
  case my9 => (go_simp; go_at_call 27; exact HCL.out wq hwq)
  try simp only [Act.put, List.setIfInBounds_toArray, List.set_cons_zero, List.set_cons_succ]
  refine quiet_take (v := ?mv10) hL9 (by kernel_rfl) (fun wq hwq => ?my10) (fun L9 hL9 => ?mr10)
  case my10 => (go_simp; try with_reducible rfl)
  try simp only [Act.put, List.setIfInBounds_toArray, List.set_cons_zero, List.set_cons_succ]
  refine quiet_take (v := ?mv11) hL9 (by kernel_rfl) (fun wq hwq => ?my11) (fun L9 hL9 => ?mr11)
  case my11 => (go_simp; try with_reducible rfl)
  try simp only [Act.put, List.setIfInBounds_toArray, List.set_cons_zero, List.set_cons_succ]
  refine quiet_take (v := .pointer (some ⟨b, off + q * 2, none⟩)) hL9 (by kernel_rfl) (fun wq hwq => ?my12) (fun L9 hL9 => ?mr12)
  case my12 => (go_simp; try with_reducible rfl)
  try simp only [Act.put, List.setIfInBounds_toArray, List.set_cons_zero, List.set_cons_succ]
  refine quiet_take (v := dgV z) hL9 (by kernel_rfl) (fun wq hwq => ?my13) (fun L9 hL9 => ?mr13)
  case my13 => (obtain ⟨⟨x0, x1⟩, z0, z1⟩ := HK.out wq hwq; go_simp; try with_reducible rfl)
  try simp only [Act.put, List.setIfInBounds_toArray, List.set_cons_zero, List.set_cons_succ]
  refine quiet_take (v := .bool E) hL9 (by kernel_rfl) (fun wq hwq => ?my14) (fun L9 hL9 => ?mr14)
  case my14 => (go_simp; try with_reducible rfl)
  try simp only [Act.put, List.setIfInBounds_toArray, List.set_cons_zero, List.set_cons_succ]
  refine quiet_take (v := .bool E) hL9 (by kernel_rfl) (fun wq hwq => ?my15) (fun L9 hL9 => ?mr15)
  case my15 => (go_simp; try with_reducible rfl)
  try simp only [Act.put, List.setIfInBounds_toArray, List.set_cons_zero, List.set_cons_succ]
  refine quiet_nil hL9 ?_
  clear hL9
  intro wz HOz
  have HOz := Lib.hid HOz
  go_wp2
  go_ret
  exact ⟨by simp, (HO.out.trans HO2.out).trans HOz.out⟩
theorem check_any (f : Int) (cp : List Dg) (cv : Value) (i : Int) (x : Dg) (p : List Dg) (v : Value) (w : World) (hT : TZ w) (hC : DR w cv cp) (hx : SmD x) (hP : DR w v p) (hi : i ≤ 9223372036854775807) :
    Calls Tryd.prog 29 #[.int .i64 f, cv, .int .i64 i, dgV x, v] w fun e w' => e = .returned (.bool (checkB f cp i x p)) ∧ On w w' := by
  unfold checkB
  rcases h : logN cp.length with _ | c
  · exact check_none f cp cv i x p v w hT hC h hP
  · exact check_some f cp cv i x p v c w hT hC h hx hP hi
end Go.Proofs.YtnmfneeojnmebaaDoor
