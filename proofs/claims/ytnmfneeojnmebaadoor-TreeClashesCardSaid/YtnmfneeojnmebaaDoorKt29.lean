/- The document's trees: Clash: what the call returns. -/
import Derived.Test.YtnmfneeojnmebaaDoorKt28
import Derived.Test.YtnmfneeojnmebaaDoorKt19
import Derived.Deep.DeepCutAuto
import Derived.Deep.CutRange
set_option linter.unusedSimpArgs false
set_option linter.unusedVariables false
/- The document's trees: Clash: what the call returns. -/
namespace Go.Proofs.YtnmfneeojnmebaaDoor
open Go.RowKit
set_option linter.unusedVariables false

set_option maxHeartbeats 4000000 in
set_option maxRecDepth 100000 in
theorem rclash_zero (f i : Int) (a b : Dg) (p q : List Dg) (pv qv : Value) (w : World) (hT : Tab w) (ha : SmD a) (hb : SmD b) (hP : DR w pv p) (hQ : DR w qv q) (hi : i ≤ 9223372036854775807) (hno : validB f = true → 0 ≤ i → p.length = q.length → p.length ≤ 18 → okD f a = true → okD f b = true → okA f p = true → okA f q = true → climbV f i a p ≠ climbV f i b q) :
    Calls Tryd.prog 32 #[.int .i64 f, .int .i64 i, dgV a, dgV b, pv, qv] w fun e w' => e = .returned (clV ((zD, zD), (zD, zD), false)) ∧ On w w' := by
  obtain ⟨pa, pc, rfl⟩ := hP.shape
  obtain ⟨qa, qc, rfl⟩ := hQ.shape
  obtain ⟨n0, hn0⟩ : ∃ n0, n0 = w.heap.size := ⟨_, rfl⟩
  obtain ⟨u0, hu0, hB⟩ := cl_new hT a b n0 hn0
  have hou := hB.2.2.2.2.1
  have hal : On u0 (u0.alloc (.cells #[.int .u64 0, .int .u64 0, .int .u64 0, .int .u64 0] 48)) := (On.refl hou.tab).alloc _
  have hzb : Blk (n0 + 1 + 1 + 1 + 1) (u0.alloc (.cells #[.int .u64 0, .int .u64 0, .int .u64 0, .int .u64 0] 48)) (fl4 (ix (pst (zD, zD)))) := by
    have h := blk_new4 u0 0 0 0 0 48
    rw [hB.2.2.2.2.2] at h
    exact h
  obtain ⟨u, hu⟩ : ∃ u, u = u0.alloc (.cells #[.int .u64 0, .int .u64 0, .int .u64 0, .int .u64 0] 48) := ⟨_, rfl⟩
  have HO : Hid (On w u) := by rw [hu]; exact hou.trans hal
  have HSU : Hid (u.heap.size = n0 + 1 + 1 + 1 + 1 + 1) := by
    have e : (u0.alloc (.cells #[.int .u64 0, .int .u64 0, .int .u64 0, .int .u64 0] 48)).heap.size = u0.heap.size + 1 := by simp
    refine Lib.hid ?_
    rw [hu, e, hB.2.2.2.2.2]
  have HTA : Hid (Blk n0 u [a.1, a.2]) := by rw [hu]; exact hB.1.on hal
  have HTB : Hid (Blk (n0 + 1) u [b.1, b.2]) := by rw [hu]; exact hB.2.1.on hal
  obtain ⟨Z, hZ⟩ : ∃ Z : Dg × Dg, Z = (zD, zD) := ⟨_, rfl⟩
  have HR1 : Hid (Blk (n0 + 1 + 1) u (fl4 (ix (pst Z)))) := by rw [hu, hZ]; exact hB.2.2.1.on hal
  have HR2 : Hid (Blk (n0 + 1 + 1 + 1) u (fl4 (ix (pst Z)))) := by rw [hu, hZ]; exact hB.2.2.2.1.on hal
  have HZB : Hid (Blk (n0 + 1 + 1 + 1 + 1) u (fl4 (ix (pst Z)))) := by rw [hu, hZ]; exact hzb
  have HNW : Hid (w.heap.size ≤ n0) := by rw [hn0]; exact Nat.le_refl _
  rw [hu0] at hu
  have HU := Lib.hid hu
  have HN0 := Lib.hid hn0
  have HV0 : Hid (∀ wq, On u wq → Calls Tryd.prog 42 #[.int .i64 f] wq fun e w' => e = .returned (.bool (validB f)) ∧ On u w') := fun wq h => (rvalid_any f wq).mono fun e w' ⟨he, hw⟩ => ⟨he, hw ▸ h⟩
  have HPA0 : Hid (∀ wq, On u wq → Calls Tryd.prog 50 #[.int .i64 f, dgV a] wq fun e w' => e = .returned (.bool (okD f a)) ∧ On u w') := fun wq h => (rproper_any f a wq h.tab ha).mono fun e w' ⟨he, hw⟩ => ⟨he, h.trans hw⟩
  have HPB0 : Hid (∀ wq, On u wq → Calls Tryd.prog 50 #[.int .i64 f, dgV b] wq fun e w' => e = .returned (.bool (okD f b)) ∧ On u w') := fun wq h => (rproper_any f b wq h.tab hb).mono fun e w' ⟨he, hw⟩ => ⟨he, h.trans hw⟩
  have HAP0 : Hid (∀ wq, On u wq → Calls Tryd.prog 43 #[.int .i64 f, .slice pa p.length pc] wq fun e w' => e = .returned (.bool (okA f p)) ∧ On u w') := fun wq h => (rall_any f p _ wq h.tab (hP.on (HO.out.trans h))).mono fun e w' ⟨he, hw⟩ => ⟨he, h.trans hw⟩
  have HAQ0 : Hid (∀ wq, On u wq → Calls Tryd.prog 43 #[.int .i64 f, .slice qa q.length qc] wq fun e w' => e = .returned (.bool (okA f q)) ∧ On u w') := fun wq h => (rall_any f q _ wq h.tab (hQ.on (HO.out.trans h))).mono fun e w' ⟨he, hw⟩ => ⟨he, h.trans hw⟩
  have HCA0 : Hid (∀ wq, On u wq → Calls Tryd.prog 28 #[.int .i64 f, .int .i64 i, dgV a, .slice pa p.length pc] wq fun e w' => e = .returned (dgV (climbV f i a p)) ∧ On u w') := fun wq h => (rclimb_any f i a p _ wq h.tab ha (hP.on (HO.out.trans h)) hi).mono fun e w' ⟨he, hw⟩ => ⟨he, h.trans hw⟩
  have HCB0 : Hid (∀ wq, On u wq → Calls Tryd.prog 28 #[.int .i64 f, .int .i64 i, dgV b, .slice qa q.length qc] wq fun e w' => e = .returned (dgV (climbV f i b q)) ∧ On u w') := fun wq h => (rclimb_any f i b q _ wq h.tab hb (hQ.on (HO.out.trans h)) hi).mono fun e w' ⟨he, hw⟩ => ⟨he, h.trans hw⟩
  have HK : Hid (∀ wq, On u wq → _) := fun wq hq => And.intro (HTA.out.on hq).cells2 (HTB.out.on hq).cells2
  rw [← hZ]
  clear hZ
  clear hT ha hb hP hQ hB hou hal hzb hu hu0 hn0 hi
  go_enter Tryd.func32, Tryd.ntmps32
  go_upto_region 1 with fail
  go_upto_region 2 with fail
  rw [← HN0.out, ← HU.out]
  go_cut [77] (fun c w3 => c = .bool true ∧ Hid (On u w3))
  case first =>
    cases hv : validB f
    · have HV := HV0
      rw [hv] at HV
      clear HV0 HPA0 HPB0 HAP0 HAQ0 HCA0 HCB0 hno
      refine region_keep_tail (fun wq => On u wq) 55 (by kernel_rfl) (by kernel_rfl) (On.refl HO.out.tab).drew ?_
      simp only [List.take_succ_cons, List.take_zero, List.drop_succ_cons, List.drop_zero]
      refine quiet_start fun L9 hL9 => ?_
      refine quiet_take (v := ?k0v0) hL9 (by kernel_rfl) (fun wq hwq => ?k0y0) (fun L9 hL9 => ?k0r0)
      case k0y0 => (go_simp; try with_reducible rfl)
      try simp only [Act.put, List.setIfInBounds_toArray, List.set_cons_zero, List.set_cons_succ]
      refine quiet_take (v := .bool false) hL9 (by kernel_rfl) (fun wq hwq => ?k0y1) (fun L9 hL9 => ?k0r1)
      case k0y1 => (go_simp; go_at_call 42; exact HV.out wq hwq)
      try simp only [Act.put, List.setIfInBounds_toArray, List.set_cons_zero, List.set_cons_succ]
      refine quiet_take (v := .bool true) hL9 (by kernel_rfl) (fun wq hwq => ?k0y2) (fun L9 hL9 => ?k0r2)
      case k0y2 => (go_simp; try with_reducible rfl)
      try simp only [Act.put, List.setIfInBounds_toArray, List.set_cons_zero, List.set_cons_succ]
      refine quiet_take (v := .bool true) hL9 (by kernel_rfl) (fun wq hwq => ?k0y3) (fun L9 hL9 => ?k0r3)
      case k0y3 => (go_simp; try with_reducible rfl)
      try simp only [Act.put, List.setIfInBounds_toArray, List.set_cons_zero, List.set_cons_succ]
      refine quiet_skip hL9 (by kernel_rfl) (fun L9 hL9 => ?_)
      try simp only [Act.put, List.setIfInBounds_toArray, List.set_cons_zero, List.set_cons_succ]
      refine quiet_skip hL9 (by kernel_rfl) (fun L9 hL9 => ?_)
      try simp only [Act.put, List.setIfInBounds_toArray, List.set_cons_zero, List.set_cons_succ]
      refine quiet_take (v := .bool true) hL9 (by kernel_rfl) (fun wq hwq => ?k0y6) (fun L9 hL9 => ?k0r6)
      case k0y6 => (go_simp; try with_reducible rfl)
      try simp only [Act.put, List.setIfInBounds_toArray, List.set_cons_zero, List.set_cons_succ]
      refine quiet_take (v := .bool true) hL9 (by kernel_rfl) (fun wq hwq => ?k0y7) (fun L9 hL9 => ?k0r7)
      case k0y7 => (go_simp; try with_reducible rfl)
      try simp only [Act.put, List.setIfInBounds_toArray, List.set_cons_zero, List.set_cons_succ]
      refine quiet_skip hL9 (by kernel_rfl) (fun L9 hL9 => ?_)
      try simp only [Act.put, List.setIfInBounds_toArray, List.set_cons_zero, List.set_cons_succ]
      refine quiet_skip hL9 (by kernel_rfl) (fun L9 hL9 => ?_)
      try simp only [Act.put, List.setIfInBounds_toArray, List.set_cons_zero, List.set_cons_succ]
      refine quiet_skip hL9 (by kernel_rfl) (fun L9 hL9 => ?_)
      try simp only [Act.put, List.setIfInBounds_toArray, List.set_cons_zero, List.set_cons_succ]
      refine quiet_skip hL9 (by kernel_rfl) (fun L9 hL9 => ?_)
      try simp only [Act.put, List.setIfInBounds_toArray, List.set_cons_zero, List.set_cons_succ]
      refine quiet_skip hL9 (by kernel_rfl) (fun L9 hL9 => ?_)
      try simp only [Act.put, List.setIfInBounds_toArray, List.set_cons_zero, List.set_cons_succ]
      refine quiet_take (v := .bool true) hL9 (by kernel_rfl) (fun wq hwq => ?k0y13) (fun L9 hL9 => ?k0r13)
      case k0y13 => (go_simp; try with_reducible rfl)
      try simp only [Act.put, List.setIfInBounds_toArray, List.set_cons_zero, List.set_cons_succ]
      refine quiet_take (v := .bool true) hL9 (by kernel_rfl) (fun wq hwq => ?k0y14) (fun L9 hL9 => ?k0r14)
      case k0y14 => (go_simp; try with_reducible rfl)
      try simp only [Act.put, List.setIfInBounds_toArray, List.set_cons_zero, List.set_cons_succ]
      refine quiet_skip hL9 (by kernel_rfl) (fun L9 hL9 => ?_)
      try simp only [Act.put, List.setIfInBounds_toArray, List.set_cons_zero, List.set_cons_succ]
      refine quiet_skip hL9 (by kernel_rfl) (fun L9 hL9 => ?_)
      try simp only [Act.put, List.setIfInBounds_toArray, List.set_cons_zero, List.set_cons_succ]
      refine quiet_skip hL9 (by kernel_rfl) (fun L9 hL9 => ?_)
      try simp only [Act.put, List.setIfInBounds_toArray, List.set_cons_zero, List.set_cons_succ]
      refine quiet_take (v := .bool true) hL9 (by kernel_rfl) (fun wq hwq => ?k0y18) (fun L9 hL9 => ?k0r18)
      case k0y18 => (go_simp; try with_reducible rfl)
      try simp only [Act.put, List.setIfInBounds_toArray, List.set_cons_zero, List.set_cons_succ]
      refine quiet_take (v := .bool true) hL9 (by kernel_rfl) (fun wq hwq => ?k0y19) (fun L9 hL9 => ?k0r19)
      case k0y19 => (go_simp; try with_reducible rfl)
      try simp only [Act.put, List.setIfInBounds_toArray, List.set_cons_zero, List.set_cons_succ]
      refine quiet_skip hL9 (by kernel_rfl) (fun L9 hL9 => ?_)
      try simp only [Act.put, List.setIfInBounds_toArray, List.set_cons_zero, List.set_cons_succ]
      refine quiet_skip hL9 (by kernel_rfl) (fun L9 hL9 => ?_)
      try simp only [Act.put, List.setIfInBounds_toArray, List.set_cons_zero, List.set_cons_succ]
      refine quiet_skip hL9 (by kernel_rfl) (fun L9 hL9 => ?_)
      try simp only [Act.put, List.setIfInBounds_toArray, List.set_cons_zero, List.set_cons_succ]
      refine quiet_skip hL9 (by kernel_rfl) (fun L9 hL9 => ?_)
      try simp only [Act.put, List.setIfInBounds_toArray, List.set_cons_zero, List.set_cons_succ]
      refine quiet_take (v := .bool true) hL9 (by kernel_rfl) (fun wq hwq => ?k0y24) (fun L9 hL9 => ?k0r24)
      case k0y24 => (go_simp; try with_reducible rfl)
      try simp only [Act.put, List.setIfInBounds_toArray, List.set_cons_zero, List.set_cons_succ]
      refine quiet_take (v := .bool true) hL9 (by kernel_rfl) (fun wq hwq => ?k0y25) (fun L9 hL9 => ?k0r25)
      case k0y25 => (go_simp; try with_reducible rfl)
      try simp only [Act.put, List.setIfInBounds_toArray, List.set_cons_zero, List.set_cons_succ]
      refine quiet_skip hL9 (by kernel_rfl) (fun L9 hL9 => ?_)
      try simp only [Act.put, List.setIfInBounds_toArray, List.set_cons_zero, List.set_cons_succ]
      refine quiet_skip hL9 (by kernel_rfl) (fun L9 hL9 => ?_)
      try simp only [Act.put, List.setIfInBounds_toArray, List.set_cons_zero, List.set_cons_succ]
      refine quiet_skip hL9 (by kernel_rfl) (fun L9 hL9 => ?_)
      try simp only [Act.put, List.setIfInBounds_toArray, List.set_cons_zero, List.set_cons_succ]
      refine quiet_skip hL9 (by kernel_rfl) (fun L9 hL9 => ?_)
      try simp only [Act.put, List.setIfInBounds_toArray, List.set_cons_zero, List.set_cons_succ]
      refine quiet_take (v := .bool true) hL9 (by kernel_rfl) (fun wq hwq => ?k0y30) (fun L9 hL9 => ?k0r30)
      case k0y30 => (go_simp; try with_reducible rfl)
      try simp only [Act.put, List.setIfInBounds_toArray, List.set_cons_zero, List.set_cons_succ]
      refine quiet_take (v := .bool true) hL9 (by kernel_rfl) (fun wq hwq => ?k0y31) (fun L9 hL9 => ?k0r31)
      case k0y31 => (go_simp; try with_reducible rfl)
      try simp only [Act.put, List.setIfInBounds_toArray, List.set_cons_zero, List.set_cons_succ]
      refine quiet_skip hL9 (by kernel_rfl) (fun L9 hL9 => ?_)
      try simp only [Act.put, List.setIfInBounds_toArray, List.set_cons_zero, List.set_cons_succ]
      refine quiet_skip hL9 (by kernel_rfl) (fun L9 hL9 => ?_)
      try simp only [Act.put, List.setIfInBounds_toArray, List.set_cons_zero, List.set_cons_succ]
      refine quiet_skip hL9 (by kernel_rfl) (fun L9 hL9 => ?_)
      try simp only [Act.put, List.setIfInBounds_toArray, List.set_cons_zero, List.set_cons_succ]
      refine quiet_skip hL9 (by kernel_rfl) (fun L9 hL9 => ?_)
      try simp only [Act.put, List.setIfInBounds_toArray, List.set_cons_zero, List.set_cons_succ]
      refine quiet_take (v := .bool true) hL9 (by kernel_rfl) (fun wq hwq => ?k0y36) (fun L9 hL9 => ?k0r36)
      case k0y36 => (go_simp; try with_reducible rfl)
      try simp only [Act.put, List.setIfInBounds_toArray, List.set_cons_zero, List.set_cons_succ]
      refine quiet_take (v := .bool true) hL9 (by kernel_rfl) (fun wq hwq => ?k0y37) (fun L9 hL9 => ?k0r37)
      case k0y37 => (go_simp; try with_reducible rfl)
      try simp only [Act.put, List.setIfInBounds_toArray, List.set_cons_zero, List.set_cons_succ]
      refine quiet_skip hL9 (by kernel_rfl) (fun L9 hL9 => ?_)
      try simp only [Act.put, List.setIfInBounds_toArray, List.set_cons_zero, List.set_cons_succ]
      refine quiet_skip hL9 (by kernel_rfl) (fun L9 hL9 => ?_)
      try simp only [Act.put, List.setIfInBounds_toArray, List.set_cons_zero, List.set_cons_succ]
      refine quiet_skip hL9 (by kernel_rfl) (fun L9 hL9 => ?_)
      try simp only [Act.put, List.setIfInBounds_toArray, List.set_cons_zero, List.set_cons_succ]
      refine quiet_skip hL9 (by kernel_rfl) (fun L9 hL9 => ?_)
      try simp only [Act.put, List.setIfInBounds_toArray, List.set_cons_zero, List.set_cons_succ]
      refine quiet_take (v := .bool true) hL9 (by kernel_rfl) (fun wq hwq => ?k0y42) (fun L9 hL9 => ?k0r42)
      case k0y42 => (go_simp; try with_reducible rfl)
      try simp only [Act.put, List.setIfInBounds_toArray, List.set_cons_zero, List.set_cons_succ]
      refine quiet_take (v := .bool true) hL9 (by kernel_rfl) (fun wq hwq => ?k0y43) (fun L9 hL9 => ?k0r43)
      case k0y43 => (go_simp; try with_reducible rfl)
      try simp only [Act.put, List.setIfInBounds_toArray, List.set_cons_zero, List.set_cons_succ]
      refine quiet_skip hL9 (by kernel_rfl) (fun L9 hL9 => ?_)
      try simp only [Act.put, List.setIfInBounds_toArray, List.set_cons_zero, List.set_cons_succ]
      refine quiet_skip hL9 (by kernel_rfl) (fun L9 hL9 => ?_)
      try simp only [Act.put, List.setIfInBounds_toArray, List.set_cons_zero, List.set_cons_succ]
      refine quiet_skip hL9 (by kernel_rfl) (fun L9 hL9 => ?_)
      try simp only [Act.put, List.setIfInBounds_toArray, List.set_cons_zero, List.set_cons_succ]
      refine quiet_skip hL9 (by kernel_rfl) (fun L9 hL9 => ?_)
      try simp only [Act.put, List.setIfInBounds_toArray, List.set_cons_zero, List.set_cons_succ]
      refine quiet_skip hL9 (by kernel_rfl) (fun L9 hL9 => ?_)
      try simp only [Act.put, List.setIfInBounds_toArray, List.set_cons_zero, List.set_cons_succ]
      refine quiet_skip hL9 (by kernel_rfl) (fun L9 hL9 => ?_)
      try simp only [Act.put, List.setIfInBounds_toArray, List.set_cons_zero, List.set_cons_succ]
      refine quiet_skip hL9 (by kernel_rfl) (fun L9 hL9 => ?_)
      try simp only [Act.put, List.setIfInBounds_toArray, List.set_cons_zero, List.set_cons_succ]
      refine quiet_skip hL9 (by kernel_rfl) (fun L9 hL9 => ?_)
      try simp only [Act.put, List.setIfInBounds_toArray, List.set_cons_zero, List.set_cons_succ]
      refine quiet_skip hL9 (by kernel_rfl) (fun L9 hL9 => ?_)
      try simp only [Act.put, List.setIfInBounds_toArray, List.set_cons_zero, List.set_cons_succ]
      refine quiet_skip hL9 (by kernel_rfl) (fun L9 hL9 => ?_)
      try simp only [Act.put, List.setIfInBounds_toArray, List.set_cons_zero, List.set_cons_succ]
      refine quiet_skip hL9 (by kernel_rfl) (fun L9 hL9 => ?_)
      try simp only [Act.put, List.setIfInBounds_toArray, List.set_cons_zero, List.set_cons_succ]
      refine quiet_nil hL9 ?_
      clear hL9
      intro w3 hO3
      go_wp2_with fail
      go_meet
      exact ⟨rfl, hO3⟩
    · have HV := HV0
      rw [hv] at HV
      clear HV0
      by_cases h1 : i < 0
      · have HI := Lib.hid h1
        clear HPA0 HPB0 HAP0 HAQ0 HCA0 HCB0 hno h1
        refine region_keep_tail (fun wq => On u wq) 55 (by kernel_rfl) (by kernel_rfl) (On.refl HO.out.tab).drew ?_
        simp only [List.take_succ_cons, List.take_zero, List.drop_succ_cons, List.drop_zero]
        refine quiet_start fun L9 hL9 => ?_
        refine quiet_take (v := ?k1v0) hL9 (by kernel_rfl) (fun wq hwq => ?k1y0) (fun L9 hL9 => ?k1r0)
        case k1y0 => (go_simp; try with_reducible rfl)
        try simp only [Act.put, List.setIfInBounds_toArray, List.set_cons_zero, List.set_cons_succ]
        refine quiet_take (v := .bool true) hL9 (by kernel_rfl) (fun wq hwq => ?k1y1) (fun L9 hL9 => ?k1r1)
        case k1y1 => (go_simp; go_at_call 42; exact HV.out wq hwq)
        try simp only [Act.put, List.setIfInBounds_toArray, List.set_cons_zero, List.set_cons_succ]
        refine quiet_take (v := .bool false) hL9 (by kernel_rfl) (fun wq hwq => ?k1y2) (fun L9 hL9 => ?k1r2)
        case k1y2 => (go_simp; try with_reducible rfl)
        try simp only [Act.put, List.setIfInBounds_toArray, List.set_cons_zero, List.set_cons_succ]
        refine quiet_take (v := .bool false) hL9 (by kernel_rfl) (fun wq hwq => ?k1y3) (fun L9 hL9 => ?k1r3)
        case k1y3 => (go_simp; try with_reducible rfl)
        try simp only [Act.put, List.setIfInBounds_toArray, List.set_cons_zero, List.set_cons_succ]
        refine quiet_take (v := ?k1v4) hL9 (by kernel_rfl) (fun wq hwq => ?k1y4) (fun L9 hL9 => ?k1r4)
        case k1y4 => (go_simp; try with_reducible rfl)
        try simp only [Act.put, List.setIfInBounds_toArray, List.set_cons_zero, List.set_cons_succ]
        refine quiet_take (v := .bool true) hL9 (by kernel_rfl) (fun wq hwq => ?k1y5) (fun L9 hL9 => ?k1r5)
        case k1y5 => (have h1 := HI.out; go_simp; try with_reducible rfl; try simp [h1]; try omega)
        try simp only [Act.put, List.setIfInBounds_toArray, List.set_cons_zero, List.set_cons_succ]
        refine quiet_take (v := .bool true) hL9 (by kernel_rfl) (fun wq hwq => ?k1y6) (fun L9 hL9 => ?k1r6)
        case k1y6 => (go_simp; try with_reducible rfl)
        try simp only [Act.put, List.setIfInBounds_toArray, List.set_cons_zero, List.set_cons_succ]
        refine quiet_take (v := .bool true) hL9 (by kernel_rfl) (fun wq hwq => ?k1y7) (fun L9 hL9 => ?k1r7)
        case k1y7 => (go_simp; try with_reducible rfl)
        try simp only [Act.put, List.setIfInBounds_toArray, List.set_cons_zero, List.set_cons_succ]
        refine quiet_skip hL9 (by kernel_rfl) (fun L9 hL9 => ?_)
        try simp only [Act.put, List.setIfInBounds_toArray, List.set_cons_zero, List.set_cons_succ]
        refine quiet_skip hL9 (by kernel_rfl) (fun L9 hL9 => ?_)
        try simp only [Act.put, List.setIfInBounds_toArray, List.set_cons_zero, List.set_cons_succ]
        refine quiet_skip hL9 (by kernel_rfl) (fun L9 hL9 => ?_)
        try simp only [Act.put, List.setIfInBounds_toArray, List.set_cons_zero, List.set_cons_succ]
        refine quiet_skip hL9 (by kernel_rfl) (fun L9 hL9 => ?_)
        try simp only [Act.put, List.setIfInBounds_toArray, List.set_cons_zero, List.set_cons_succ]
        refine quiet_skip hL9 (by kernel_rfl) (fun L9 hL9 => ?_)
        try simp only [Act.put, List.setIfInBounds_toArray, List.set_cons_zero, List.set_cons_succ]
        refine quiet_take (v := .bool true) hL9 (by kernel_rfl) (fun wq hwq => ?k1y13) (fun L9 hL9 => ?k1r13)
        case k1y13 => (go_simp; try with_reducible rfl)
        try simp only [Act.put, List.setIfInBounds_toArray, List.set_cons_zero, List.set_cons_succ]
        refine quiet_take (v := .bool true) hL9 (by kernel_rfl) (fun wq hwq => ?k1y14) (fun L9 hL9 => ?k1r14)
        case k1y14 => (go_simp; try with_reducible rfl)
        try simp only [Act.put, List.setIfInBounds_toArray, List.set_cons_zero, List.set_cons_succ]
        refine quiet_skip hL9 (by kernel_rfl) (fun L9 hL9 => ?_)
        try simp only [Act.put, List.setIfInBounds_toArray, List.set_cons_zero, List.set_cons_succ]
        refine quiet_skip hL9 (by kernel_rfl) (fun L9 hL9 => ?_)
        try simp only [Act.put, List.setIfInBounds_toArray, List.set_cons_zero, List.set_cons_succ]
        refine quiet_skip hL9 (by kernel_rfl) (fun L9 hL9 => ?_)
        try simp only [Act.put, List.setIfInBounds_toArray, List.set_cons_zero, List.set_cons_succ]
        refine quiet_take (v := .bool true) hL9 (by kernel_rfl) (fun wq hwq => ?k1y18) (fun L9 hL9 => ?k1r18)
        case k1y18 => (go_simp; try with_reducible rfl)
        try simp only [Act.put, List.setIfInBounds_toArray, List.set_cons_zero, List.set_cons_succ]
        refine quiet_take (v := .bool true) hL9 (by kernel_rfl) (fun wq hwq => ?k1y19) (fun L9 hL9 => ?k1r19)
        case k1y19 => (go_simp; try with_reducible rfl)
        try simp only [Act.put, List.setIfInBounds_toArray, List.set_cons_zero, List.set_cons_succ]
        refine quiet_skip hL9 (by kernel_rfl) (fun L9 hL9 => ?_)
        try simp only [Act.put, List.setIfInBounds_toArray, List.set_cons_zero, List.set_cons_succ]
        refine quiet_skip hL9 (by kernel_rfl) (fun L9 hL9 => ?_)
        try simp only [Act.put, List.setIfInBounds_toArray, List.set_cons_zero, List.set_cons_succ]
        refine quiet_skip hL9 (by kernel_rfl) (fun L9 hL9 => ?_)
        try simp only [Act.put, List.setIfInBounds_toArray, List.set_cons_zero, List.set_cons_succ]
        refine quiet_skip hL9 (by kernel_rfl) (fun L9 hL9 => ?_)
        try simp only [Act.put, List.setIfInBounds_toArray, List.set_cons_zero, List.set_cons_succ]
        refine quiet_take (v := .bool true) hL9 (by kernel_rfl) (fun wq hwq => ?k1y24) (fun L9 hL9 => ?k1r24)
        case k1y24 => (go_simp; try with_reducible rfl)
        try simp only [Act.put, List.setIfInBounds_toArray, List.set_cons_zero, List.set_cons_succ]
        refine quiet_take (v := .bool true) hL9 (by kernel_rfl) (fun wq hwq => ?k1y25) (fun L9 hL9 => ?k1r25)
        case k1y25 => (go_simp; try with_reducible rfl)
        try simp only [Act.put, List.setIfInBounds_toArray, List.set_cons_zero, List.set_cons_succ]
        refine quiet_skip hL9 (by kernel_rfl) (fun L9 hL9 => ?_)
        try simp only [Act.put, List.setIfInBounds_toArray, List.set_cons_zero, List.set_cons_succ]
        refine quiet_skip hL9 (by kernel_rfl) (fun L9 hL9 => ?_)
        try simp only [Act.put, List.setIfInBounds_toArray, List.set_cons_zero, List.set_cons_succ]
        refine quiet_skip hL9 (by kernel_rfl) (fun L9 hL9 => ?_)
        try simp only [Act.put, List.setIfInBounds_toArray, List.set_cons_zero, List.set_cons_succ]
        refine quiet_skip hL9 (by kernel_rfl) (fun L9 hL9 => ?_)
        try simp only [Act.put, List.setIfInBounds_toArray, List.set_cons_zero, List.set_cons_succ]
        refine quiet_take (v := .bool true) hL9 (by kernel_rfl) (fun wq hwq => ?k1y30) (fun L9 hL9 => ?k1r30)
        case k1y30 => (go_simp; try with_reducible rfl)
        try simp only [Act.put, List.setIfInBounds_toArray, List.set_cons_zero, List.set_cons_succ]
        refine quiet_take (v := .bool true) hL9 (by kernel_rfl) (fun wq hwq => ?k1y31) (fun L9 hL9 => ?k1r31)
        case k1y31 => (go_simp; try with_reducible rfl)
        try simp only [Act.put, List.setIfInBounds_toArray, List.set_cons_zero, List.set_cons_succ]
        refine quiet_skip hL9 (by kernel_rfl) (fun L9 hL9 => ?_)
        try simp only [Act.put, List.setIfInBounds_toArray, List.set_cons_zero, List.set_cons_succ]
        refine quiet_skip hL9 (by kernel_rfl) (fun L9 hL9 => ?_)
        try simp only [Act.put, List.setIfInBounds_toArray, List.set_cons_zero, List.set_cons_succ]
        refine quiet_skip hL9 (by kernel_rfl) (fun L9 hL9 => ?_)
        try simp only [Act.put, List.setIfInBounds_toArray, List.set_cons_zero, List.set_cons_succ]
        refine quiet_skip hL9 (by kernel_rfl) (fun L9 hL9 => ?_)
        try simp only [Act.put, List.setIfInBounds_toArray, List.set_cons_zero, List.set_cons_succ]
        refine quiet_take (v := .bool true) hL9 (by kernel_rfl) (fun wq hwq => ?k1y36) (fun L9 hL9 => ?k1r36)
        case k1y36 => (go_simp; try with_reducible rfl)
        try simp only [Act.put, List.setIfInBounds_toArray, List.set_cons_zero, List.set_cons_succ]
        refine quiet_take (v := .bool true) hL9 (by kernel_rfl) (fun wq hwq => ?k1y37) (fun L9 hL9 => ?k1r37)
        case k1y37 => (go_simp; try with_reducible rfl)
        try simp only [Act.put, List.setIfInBounds_toArray, List.set_cons_zero, List.set_cons_succ]
        refine quiet_skip hL9 (by kernel_rfl) (fun L9 hL9 => ?_)
        try simp only [Act.put, List.setIfInBounds_toArray, List.set_cons_zero, List.set_cons_succ]
        refine quiet_skip hL9 (by kernel_rfl) (fun L9 hL9 => ?_)
        try simp only [Act.put, List.setIfInBounds_toArray, List.set_cons_zero, List.set_cons_succ]
        refine quiet_skip hL9 (by kernel_rfl) (fun L9 hL9 => ?_)
        try simp only [Act.put, List.setIfInBounds_toArray, List.set_cons_zero, List.set_cons_succ]
        refine quiet_skip hL9 (by kernel_rfl) (fun L9 hL9 => ?_)
        try simp only [Act.put, List.setIfInBounds_toArray, List.set_cons_zero, List.set_cons_succ]
        refine quiet_take (v := .bool true) hL9 (by kernel_rfl) (fun wq hwq => ?k1y42) (fun L9 hL9 => ?k1r42)
        case k1y42 => (go_simp; try with_reducible rfl)
        try simp only [Act.put, List.setIfInBounds_toArray, List.set_cons_zero, List.set_cons_succ]
        refine quiet_take (v := .bool true) hL9 (by kernel_rfl) (fun wq hwq => ?k1y43) (fun L9 hL9 => ?k1r43)
        case k1y43 => (go_simp; try with_reducible rfl)
        try simp only [Act.put, List.setIfInBounds_toArray, List.set_cons_zero, List.set_cons_succ]
        refine quiet_skip hL9 (by kernel_rfl) (fun L9 hL9 => ?_)
        try simp only [Act.put, List.setIfInBounds_toArray, List.set_cons_zero, List.set_cons_succ]
        refine quiet_skip hL9 (by kernel_rfl) (fun L9 hL9 => ?_)
        try simp only [Act.put, List.setIfInBounds_toArray, List.set_cons_zero, List.set_cons_succ]
        refine quiet_skip hL9 (by kernel_rfl) (fun L9 hL9 => ?_)
        try simp only [Act.put, List.setIfInBounds_toArray, List.set_cons_zero, List.set_cons_succ]
        refine quiet_skip hL9 (by kernel_rfl) (fun L9 hL9 => ?_)
        try simp only [Act.put, List.setIfInBounds_toArray, List.set_cons_zero, List.set_cons_succ]
        refine quiet_skip hL9 (by kernel_rfl) (fun L9 hL9 => ?_)
        try simp only [Act.put, List.setIfInBounds_toArray, List.set_cons_zero, List.set_cons_succ]
        refine quiet_skip hL9 (by kernel_rfl) (fun L9 hL9 => ?_)
        try simp only [Act.put, List.setIfInBounds_toArray, List.set_cons_zero, List.set_cons_succ]
        refine quiet_skip hL9 (by kernel_rfl) (fun L9 hL9 => ?_)
        try simp only [Act.put, List.setIfInBounds_toArray, List.set_cons_zero, List.set_cons_succ]
        refine quiet_skip hL9 (by kernel_rfl) (fun L9 hL9 => ?_)
        try simp only [Act.put, List.setIfInBounds_toArray, List.set_cons_zero, List.set_cons_succ]
        refine quiet_skip hL9 (by kernel_rfl) (fun L9 hL9 => ?_)
        try simp only [Act.put, List.setIfInBounds_toArray, List.set_cons_zero, List.set_cons_succ]
        refine quiet_skip hL9 (by kernel_rfl) (fun L9 hL9 => ?_)
        try simp only [Act.put, List.setIfInBounds_toArray, List.set_cons_zero, List.set_cons_succ]
        refine quiet_skip hL9 (by kernel_rfl) (fun L9 hL9 => ?_)
        try simp only [Act.put, List.setIfInBounds_toArray, List.set_cons_zero, List.set_cons_succ]
        refine quiet_nil hL9 ?_
        clear hL9
        intro w3 hO3
        go_wp2_with fail
        go_meet
        exact ⟨rfl, hO3⟩
      · have HI := Lib.hid h1
        by_cases h2 : p.length = q.length
        rotate_left
        · have HN : Hid (((p.length : Int) != (q.length : Int)) = true) := by refine Lib.hid ?_; simp; omega
          clear HPA0 HPB0 HAP0 HAQ0 HCA0 HCB0 hno h2
          refine region_keep_tail (fun wq => On u wq) 55 (by kernel_rfl) (by kernel_rfl) (On.refl HO.out.tab).drew ?_
          simp only [List.take_succ_cons, List.take_zero, List.drop_succ_cons, List.drop_zero]
          refine quiet_start fun L9 hL9 => ?_
          refine quiet_take (v := ?k2v0) hL9 (by kernel_rfl) (fun wq hwq => ?k2y0) (fun L9 hL9 => ?k2r0)
          case k2y0 => (go_simp; try with_reducible rfl)
          try simp only [Act.put, List.setIfInBounds_toArray, List.set_cons_zero, List.set_cons_succ]
          refine quiet_take (v := .bool true) hL9 (by kernel_rfl) (fun wq hwq => ?k2y1) (fun L9 hL9 => ?k2r1)
          case k2y1 => (go_simp; go_at_call 42; exact HV.out wq hwq)
          try simp only [Act.put, List.setIfInBounds_toArray, List.set_cons_zero, List.set_cons_succ]
          refine quiet_take (v := .bool false) hL9 (by kernel_rfl) (fun wq hwq => ?k2y2) (fun L9 hL9 => ?k2r2)
          case k2y2 => (go_simp; try with_reducible rfl)
          try simp only [Act.put, List.setIfInBounds_toArray, List.set_cons_zero, List.set_cons_succ]
          refine quiet_take (v := .bool false) hL9 (by kernel_rfl) (fun wq hwq => ?k2y3) (fun L9 hL9 => ?k2r3)
          case k2y3 => (go_simp; try with_reducible rfl)
          try simp only [Act.put, List.setIfInBounds_toArray, List.set_cons_zero, List.set_cons_succ]
          refine quiet_take (v := ?k2v4) hL9 (by kernel_rfl) (fun wq hwq => ?k2y4) (fun L9 hL9 => ?k2r4)
          case k2y4 => (go_simp; try with_reducible rfl)
          try simp only [Act.put, List.setIfInBounds_toArray, List.set_cons_zero, List.set_cons_succ]
          refine quiet_take (v := .bool false) hL9 (by kernel_rfl) (fun wq hwq => ?k2y5) (fun L9 hL9 => ?k2r5)
          case k2y5 => (have h1 := HI.out; go_simp; try with_reducible rfl; try simp [h1]; try omega)
          try simp only [Act.put, List.setIfInBounds_toArray, List.set_cons_zero, List.set_cons_succ]
          refine quiet_take (v := .bool false) hL9 (by kernel_rfl) (fun wq hwq => ?k2y6) (fun L9 hL9 => ?k2r6)
          case k2y6 => (go_simp; try with_reducible rfl)
          try simp only [Act.put, List.setIfInBounds_toArray, List.set_cons_zero, List.set_cons_succ]
          refine quiet_take (v := .bool false) hL9 (by kernel_rfl) (fun wq hwq => ?k2y7) (fun L9 hL9 => ?k2r7)
          case k2y7 => (go_simp; try with_reducible rfl)
          try simp only [Act.put, List.setIfInBounds_toArray, List.set_cons_zero, List.set_cons_succ]
          refine quiet_take (v := ?k2v8) hL9 (by kernel_rfl) (fun wq hwq => ?k2y8) (fun L9 hL9 => ?k2r8)
          case k2y8 => (go_simp; try with_reducible rfl)
          try simp only [Act.put, List.setIfInBounds_toArray, List.set_cons_zero, List.set_cons_succ]
          refine quiet_take (v := ?k2v9) hL9 (by kernel_rfl) (fun wq hwq => ?k2y9) (fun L9 hL9 => ?k2r9)
          case k2y9 => (go_simp; try with_reducible rfl)
          try simp only [Act.put, List.setIfInBounds_toArray, List.set_cons_zero, List.set_cons_succ]
          refine quiet_take (v := ?k2v10) hL9 (by kernel_rfl) (fun wq hwq => ?k2y10) (fun L9 hL9 => ?k2r10)
          case k2y10 => (go_simp; try with_reducible rfl)
          try simp only [Act.put, List.setIfInBounds_toArray, List.set_cons_zero, List.set_cons_succ]
          refine quiet_take (v := ?k2v11) hL9 (by kernel_rfl) (fun wq hwq => ?k2y11) (fun L9 hL9 => ?k2r11)
          case k2y11 => (go_simp; try with_reducible rfl)
          try simp only [Act.put, List.setIfInBounds_toArray, List.set_cons_zero, List.set_cons_succ]
          refine quiet_take (v := .bool true) hL9 (by kernel_rfl) (fun wq hwq => ?k2y12) (fun L9 hL9 => ?k2r12)
          case k2y12 => (have h1 := HN.out; go_simp; try with_reducible rfl; try simp [h1]; try omega)
          try simp only [Act.put, List.setIfInBounds_toArray, List.set_cons_zero, List.set_cons_succ]
          refine quiet_take (v := .bool true) hL9 (by kernel_rfl) (fun wq hwq => ?k2y13) (fun L9 hL9 => ?k2r13)
          case k2y13 => (go_simp; try with_reducible rfl)
          try simp only [Act.put, List.setIfInBounds_toArray, List.set_cons_zero, List.set_cons_succ]
          refine quiet_take (v := .bool true) hL9 (by kernel_rfl) (fun wq hwq => ?k2y14) (fun L9 hL9 => ?k2r14)
          case k2y14 => (go_simp; try with_reducible rfl)
          try simp only [Act.put, List.setIfInBounds_toArray, List.set_cons_zero, List.set_cons_succ]
          refine quiet_skip hL9 (by kernel_rfl) (fun L9 hL9 => ?_)
          try simp only [Act.put, List.setIfInBounds_toArray, List.set_cons_zero, List.set_cons_succ]
          refine quiet_skip hL9 (by kernel_rfl) (fun L9 hL9 => ?_)
          try simp only [Act.put, List.setIfInBounds_toArray, List.set_cons_zero, List.set_cons_succ]
          refine quiet_skip hL9 (by kernel_rfl) (fun L9 hL9 => ?_)
          try simp only [Act.put, List.setIfInBounds_toArray, List.set_cons_zero, List.set_cons_succ]
          refine quiet_take (v := .bool true) hL9 (by kernel_rfl) (fun wq hwq => ?k2y18) (fun L9 hL9 => ?k2r18)
          case k2y18 => (go_simp; try with_reducible rfl)
          try simp only [Act.put, List.setIfInBounds_toArray, List.set_cons_zero, List.set_cons_succ]
          refine quiet_take (v := .bool true) hL9 (by kernel_rfl) (fun wq hwq => ?k2y19) (fun L9 hL9 => ?k2r19)
          case k2y19 => (go_simp; try with_reducible rfl)
          try simp only [Act.put, List.setIfInBounds_toArray, List.set_cons_zero, List.set_cons_succ]
          refine quiet_skip hL9 (by kernel_rfl) (fun L9 hL9 => ?_)
          try simp only [Act.put, List.setIfInBounds_toArray, List.set_cons_zero, List.set_cons_succ]
          refine quiet_skip hL9 (by kernel_rfl) (fun L9 hL9 => ?_)
          try simp only [Act.put, List.setIfInBounds_toArray, List.set_cons_zero, List.set_cons_succ]
          refine quiet_skip hL9 (by kernel_rfl) (fun L9 hL9 => ?_)
          try simp only [Act.put, List.setIfInBounds_toArray, List.set_cons_zero, List.set_cons_succ]
          refine quiet_skip hL9 (by kernel_rfl) (fun L9 hL9 => ?_)
          try simp only [Act.put, List.setIfInBounds_toArray, List.set_cons_zero, List.set_cons_succ]
          refine quiet_take (v := .bool true) hL9 (by kernel_rfl) (fun wq hwq => ?k2y24) (fun L9 hL9 => ?k2r24)
          case k2y24 => (go_simp; try with_reducible rfl)
          try simp only [Act.put, List.setIfInBounds_toArray, List.set_cons_zero, List.set_cons_succ]
          refine quiet_take (v := .bool true) hL9 (by kernel_rfl) (fun wq hwq => ?k2y25) (fun L9 hL9 => ?k2r25)
          case k2y25 => (go_simp; try with_reducible rfl)
          try simp only [Act.put, List.setIfInBounds_toArray, List.set_cons_zero, List.set_cons_succ]
          refine quiet_skip hL9 (by kernel_rfl) (fun L9 hL9 => ?_)
          try simp only [Act.put, List.setIfInBounds_toArray, List.set_cons_zero, List.set_cons_succ]
          refine quiet_skip hL9 (by kernel_rfl) (fun L9 hL9 => ?_)
          try simp only [Act.put, List.setIfInBounds_toArray, List.set_cons_zero, List.set_cons_succ]
          refine quiet_skip hL9 (by kernel_rfl) (fun L9 hL9 => ?_)
          try simp only [Act.put, List.setIfInBounds_toArray, List.set_cons_zero, List.set_cons_succ]
          refine quiet_skip hL9 (by kernel_rfl) (fun L9 hL9 => ?_)
          try simp only [Act.put, List.setIfInBounds_toArray, List.set_cons_zero, List.set_cons_succ]
          refine quiet_take (v := .bool true) hL9 (by kernel_rfl) (fun wq hwq => ?k2y30) (fun L9 hL9 => ?k2r30)
          case k2y30 => (go_simp; try with_reducible rfl)
          try simp only [Act.put, List.setIfInBounds_toArray, List.set_cons_zero, List.set_cons_succ]
          refine quiet_take (v := .bool true) hL9 (by kernel_rfl) (fun wq hwq => ?k2y31) (fun L9 hL9 => ?k2r31)
          case k2y31 => (go_simp; try with_reducible rfl)
          try simp only [Act.put, List.setIfInBounds_toArray, List.set_cons_zero, List.set_cons_succ]
          refine quiet_skip hL9 (by kernel_rfl) (fun L9 hL9 => ?_)
          try simp only [Act.put, List.setIfInBounds_toArray, List.set_cons_zero, List.set_cons_succ]
          refine quiet_skip hL9 (by kernel_rfl) (fun L9 hL9 => ?_)
          try simp only [Act.put, List.setIfInBounds_toArray, List.set_cons_zero, List.set_cons_succ]
          refine quiet_skip hL9 (by kernel_rfl) (fun L9 hL9 => ?_)
          try simp only [Act.put, List.setIfInBounds_toArray, List.set_cons_zero, List.set_cons_succ]
          refine quiet_skip hL9 (by kernel_rfl) (fun L9 hL9 => ?_)
          try simp only [Act.put, List.setIfInBounds_toArray, List.set_cons_zero, List.set_cons_succ]
          refine quiet_take (v := .bool true) hL9 (by kernel_rfl) (fun wq hwq => ?k2y36) (fun L9 hL9 => ?k2r36)
          case k2y36 => (go_simp; try with_reducible rfl)
          try simp only [Act.put, List.setIfInBounds_toArray, List.set_cons_zero, List.set_cons_succ]
          refine quiet_take (v := .bool true) hL9 (by kernel_rfl) (fun wq hwq => ?k2y37) (fun L9 hL9 => ?k2r37)
          case k2y37 => (go_simp; try with_reducible rfl)
          try simp only [Act.put, List.setIfInBounds_toArray, List.set_cons_zero, List.set_cons_succ]
          refine quiet_skip hL9 (by kernel_rfl) (fun L9 hL9 => ?_)
          try simp only [Act.put, List.setIfInBounds_toArray, List.set_cons_zero, List.set_cons_succ]
          refine quiet_skip hL9 (by kernel_rfl) (fun L9 hL9 => ?_)
          try simp only [Act.put, List.setIfInBounds_toArray, List.set_cons_zero, List.set_cons_succ]
          refine quiet_skip hL9 (by kernel_rfl) (fun L9 hL9 => ?_)
          try simp only [Act.put, List.setIfInBounds_toArray, List.set_cons_zero, List.set_cons_succ]
          refine quiet_skip hL9 (by kernel_rfl) (fun L9 hL9 => ?_)
          try simp only [Act.put, List.setIfInBounds_toArray, List.set_cons_zero, List.set_cons_succ]
          refine quiet_take (v := .bool true) hL9 (by kernel_rfl) (fun wq hwq => ?k2y42) (fun L9 hL9 => ?k2r42)
          case k2y42 => (go_simp; try with_reducible rfl)
          try simp only [Act.put, List.setIfInBounds_toArray, List.set_cons_zero, List.set_cons_succ]
          refine quiet_take (v := .bool true) hL9 (by kernel_rfl) (fun wq hwq => ?k2y43) (fun L9 hL9 => ?k2r43)
          case k2y43 => (go_simp; try with_reducible rfl)
          try simp only [Act.put, List.setIfInBounds_toArray, List.set_cons_zero, List.set_cons_succ]
          refine quiet_skip hL9 (by kernel_rfl) (fun L9 hL9 => ?_)
          try simp only [Act.put, List.setIfInBounds_toArray, List.set_cons_zero, List.set_cons_succ]
          refine quiet_skip hL9 (by kernel_rfl) (fun L9 hL9 => ?_)
          try simp only [Act.put, List.setIfInBounds_toArray, List.set_cons_zero, List.set_cons_succ]
          refine quiet_skip hL9 (by kernel_rfl) (fun L9 hL9 => ?_)
          try simp only [Act.put, List.setIfInBounds_toArray, List.set_cons_zero, List.set_cons_succ]
          refine quiet_skip hL9 (by kernel_rfl) (fun L9 hL9 => ?_)
          try simp only [Act.put, List.setIfInBounds_toArray, List.set_cons_zero, List.set_cons_succ]
          refine quiet_skip hL9 (by kernel_rfl) (fun L9 hL9 => ?_)
          try simp only [Act.put, List.setIfInBounds_toArray, List.set_cons_zero, List.set_cons_succ]
          refine quiet_skip hL9 (by kernel_rfl) (fun L9 hL9 => ?_)
          try simp only [Act.put, List.setIfInBounds_toArray, List.set_cons_zero, List.set_cons_succ]
          refine quiet_skip hL9 (by kernel_rfl) (fun L9 hL9 => ?_)
          try simp only [Act.put, List.setIfInBounds_toArray, List.set_cons_zero, List.set_cons_succ]
          refine quiet_skip hL9 (by kernel_rfl) (fun L9 hL9 => ?_)
          try simp only [Act.put, List.setIfInBounds_toArray, List.set_cons_zero, List.set_cons_succ]
          refine quiet_skip hL9 (by kernel_rfl) (fun L9 hL9 => ?_)
          try simp only [Act.put, List.setIfInBounds_toArray, List.set_cons_zero, List.set_cons_succ]
          refine quiet_skip hL9 (by kernel_rfl) (fun L9 hL9 => ?_)
          try simp only [Act.put, List.setIfInBounds_toArray, List.set_cons_zero, List.set_cons_succ]
          refine quiet_skip hL9 (by kernel_rfl) (fun L9 hL9 => ?_)
          try simp only [Act.put, List.setIfInBounds_toArray, List.set_cons_zero, List.set_cons_succ]
          refine quiet_nil hL9 ?_
          clear hL9
          intro w3 hO3
          go_wp2_with fail
          go_meet
          exact ⟨rfl, hO3⟩
        · have HN : Hid (((p.length : Int) != (q.length : Int)) = false) := by refine Lib.hid ?_; simp; omega
          by_cases h3 : p.length ≤ 18
          rotate_left
          · have HL : Hid ((18 : Int) < (p.length : Int)) := by refine Lib.hid ?_; omega
            clear HPA0 HPB0 HAP0 HAQ0 HCA0 HCB0 hno h2 h3
            refine region_keep_tail (fun wq => On u wq) 55 (by kernel_rfl) (by kernel_rfl) (On.refl HO.out.tab).drew ?_
            simp only [List.take_succ_cons, List.take_zero, List.drop_succ_cons, List.drop_zero]
            refine quiet_start fun L9 hL9 => ?_
            refine quiet_take (v := ?k3v0) hL9 (by kernel_rfl) (fun wq hwq => ?k3y0) (fun L9 hL9 => ?k3r0)
            case k3y0 => (go_simp; try with_reducible rfl)
            try simp only [Act.put, List.setIfInBounds_toArray, List.set_cons_zero, List.set_cons_succ]
            refine quiet_take (v := .bool true) hL9 (by kernel_rfl) (fun wq hwq => ?k3y1) (fun L9 hL9 => ?k3r1)
            case k3y1 => (go_simp; go_at_call 42; exact HV.out wq hwq)
            try simp only [Act.put, List.setIfInBounds_toArray, List.set_cons_zero, List.set_cons_succ]
            refine quiet_take (v := .bool false) hL9 (by kernel_rfl) (fun wq hwq => ?k3y2) (fun L9 hL9 => ?k3r2)
            case k3y2 => (go_simp; try with_reducible rfl)
            try simp only [Act.put, List.setIfInBounds_toArray, List.set_cons_zero, List.set_cons_succ]
            refine quiet_take (v := .bool false) hL9 (by kernel_rfl) (fun wq hwq => ?k3y3) (fun L9 hL9 => ?k3r3)
            case k3y3 => (go_simp; try with_reducible rfl)
            try simp only [Act.put, List.setIfInBounds_toArray, List.set_cons_zero, List.set_cons_succ]
            refine quiet_take (v := ?k3v4) hL9 (by kernel_rfl) (fun wq hwq => ?k3y4) (fun L9 hL9 => ?k3r4)
            case k3y4 => (go_simp; try with_reducible rfl)
            try simp only [Act.put, List.setIfInBounds_toArray, List.set_cons_zero, List.set_cons_succ]
            refine quiet_take (v := .bool false) hL9 (by kernel_rfl) (fun wq hwq => ?k3y5) (fun L9 hL9 => ?k3r5)
            case k3y5 => (have h1 := HI.out; go_simp; try with_reducible rfl; try simp [h1]; try omega)
            try simp only [Act.put, List.setIfInBounds_toArray, List.set_cons_zero, List.set_cons_succ]
            refine quiet_take (v := .bool false) hL9 (by kernel_rfl) (fun wq hwq => ?k3y6) (fun L9 hL9 => ?k3r6)
            case k3y6 => (go_simp; try with_reducible rfl)
            try simp only [Act.put, List.setIfInBounds_toArray, List.set_cons_zero, List.set_cons_succ]
            refine quiet_take (v := .bool false) hL9 (by kernel_rfl) (fun wq hwq => ?k3y7) (fun L9 hL9 => ?k3r7)
            case k3y7 => (go_simp; try with_reducible rfl)
            try simp only [Act.put, List.setIfInBounds_toArray, List.set_cons_zero, List.set_cons_succ]
            refine quiet_take (v := ?k3v8) hL9 (by kernel_rfl) (fun wq hwq => ?k3y8) (fun L9 hL9 => ?k3r8)
            case k3y8 => (go_simp; try with_reducible rfl)
            try simp only [Act.put, List.setIfInBounds_toArray, List.set_cons_zero, List.set_cons_succ]
            refine quiet_take (v := ?k3v9) hL9 (by kernel_rfl) (fun wq hwq => ?k3y9) (fun L9 hL9 => ?k3r9)
            case k3y9 => (go_simp; try with_reducible rfl)
            try simp only [Act.put, List.setIfInBounds_toArray, List.set_cons_zero, List.set_cons_succ]
            refine quiet_take (v := ?k3v10) hL9 (by kernel_rfl) (fun wq hwq => ?k3y10) (fun L9 hL9 => ?k3r10)
            case k3y10 => (go_simp; try with_reducible rfl)
            try simp only [Act.put, List.setIfInBounds_toArray, List.set_cons_zero, List.set_cons_succ]
            refine quiet_take (v := ?k3v11) hL9 (by kernel_rfl) (fun wq hwq => ?k3y11) (fun L9 hL9 => ?k3r11)
            case k3y11 => (go_simp; try with_reducible rfl)
            try simp only [Act.put, List.setIfInBounds_toArray, List.set_cons_zero, List.set_cons_succ]
            refine quiet_take (v := .bool false) hL9 (by kernel_rfl) (fun wq hwq => ?k3y12) (fun L9 hL9 => ?k3r12)
            case k3y12 => (have h1 := HN.out; go_simp; try with_reducible rfl; try simp [h1]; try omega)
            try simp only [Act.put, List.setIfInBounds_toArray, List.set_cons_zero, List.set_cons_succ]
            refine quiet_take (v := .bool false) hL9 (by kernel_rfl) (fun wq hwq => ?k3y13) (fun L9 hL9 => ?k3r13)
            case k3y13 => (go_simp; try with_reducible rfl)
            try simp only [Act.put, List.setIfInBounds_toArray, List.set_cons_zero, List.set_cons_succ]
            refine quiet_take (v := .bool false) hL9 (by kernel_rfl) (fun wq hwq => ?k3y14) (fun L9 hL9 => ?k3r14)
            case k3y14 => (go_simp; try with_reducible rfl)
            try simp only [Act.put, List.setIfInBounds_toArray, List.set_cons_zero, List.set_cons_succ]
            refine quiet_take (v := ?k3v15) hL9 (by kernel_rfl) (fun wq hwq => ?k3y15) (fun L9 hL9 => ?k3r15)
            case k3y15 => (go_simp; try with_reducible rfl)
            try simp only [Act.put, List.setIfInBounds_toArray, List.set_cons_zero, List.set_cons_succ]
            refine quiet_take (v := ?k3v16) hL9 (by kernel_rfl) (fun wq hwq => ?k3y16) (fun L9 hL9 => ?k3r16)
            case k3y16 => (go_simp; try with_reducible rfl)
            try simp only [Act.put, List.setIfInBounds_toArray, List.set_cons_zero, List.set_cons_succ]
            refine quiet_take (v := .bool true) hL9 (by kernel_rfl) (fun wq hwq => ?k3y17) (fun L9 hL9 => ?k3r17)
            case k3y17 => (have h1 := HL.out; go_simp; try with_reducible rfl; try simp [h1]; try omega)
            try simp only [Act.put, List.setIfInBounds_toArray, List.set_cons_zero, List.set_cons_succ]
            refine quiet_take (v := .bool true) hL9 (by kernel_rfl) (fun wq hwq => ?k3y18) (fun L9 hL9 => ?k3r18)
            case k3y18 => (go_simp; try with_reducible rfl)
            try simp only [Act.put, List.setIfInBounds_toArray, List.set_cons_zero, List.set_cons_succ]
            refine quiet_take (v := .bool true) hL9 (by kernel_rfl) (fun wq hwq => ?k3y19) (fun L9 hL9 => ?k3r19)
            case k3y19 => (go_simp; try with_reducible rfl)
            try simp only [Act.put, List.setIfInBounds_toArray, List.set_cons_zero, List.set_cons_succ]
            refine quiet_skip hL9 (by kernel_rfl) (fun L9 hL9 => ?_)
            try simp only [Act.put, List.setIfInBounds_toArray, List.set_cons_zero, List.set_cons_succ]
            refine quiet_skip hL9 (by kernel_rfl) (fun L9 hL9 => ?_)
            try simp only [Act.put, List.setIfInBounds_toArray, List.set_cons_zero, List.set_cons_succ]
            refine quiet_skip hL9 (by kernel_rfl) (fun L9 hL9 => ?_)
            try simp only [Act.put, List.setIfInBounds_toArray, List.set_cons_zero, List.set_cons_succ]
            refine quiet_skip hL9 (by kernel_rfl) (fun L9 hL9 => ?_)
            try simp only [Act.put, List.setIfInBounds_toArray, List.set_cons_zero, List.set_cons_succ]
            refine quiet_take (v := .bool true) hL9 (by kernel_rfl) (fun wq hwq => ?k3y24) (fun L9 hL9 => ?k3r24)
            case k3y24 => (go_simp; try with_reducible rfl)
            try simp only [Act.put, List.setIfInBounds_toArray, List.set_cons_zero, List.set_cons_succ]
            refine quiet_take (v := .bool true) hL9 (by kernel_rfl) (fun wq hwq => ?k3y25) (fun L9 hL9 => ?k3r25)
            case k3y25 => (go_simp; try with_reducible rfl)
            try simp only [Act.put, List.setIfInBounds_toArray, List.set_cons_zero, List.set_cons_succ]
            refine quiet_skip hL9 (by kernel_rfl) (fun L9 hL9 => ?_)
            try simp only [Act.put, List.setIfInBounds_toArray, List.set_cons_zero, List.set_cons_succ]
            refine quiet_skip hL9 (by kernel_rfl) (fun L9 hL9 => ?_)
            try simp only [Act.put, List.setIfInBounds_toArray, List.set_cons_zero, List.set_cons_succ]
            refine quiet_skip hL9 (by kernel_rfl) (fun L9 hL9 => ?_)
            try simp only [Act.put, List.setIfInBounds_toArray, List.set_cons_zero, List.set_cons_succ]
            refine quiet_skip hL9 (by kernel_rfl) (fun L9 hL9 => ?_)
            try simp only [Act.put, List.setIfInBounds_toArray, List.set_cons_zero, List.set_cons_succ]
            refine quiet_take (v := .bool true) hL9 (by kernel_rfl) (fun wq hwq => ?k3y30) (fun L9 hL9 => ?k3r30)
            case k3y30 => (go_simp; try with_reducible rfl)
            try simp only [Act.put, List.setIfInBounds_toArray, List.set_cons_zero, List.set_cons_succ]
            refine quiet_take (v := .bool true) hL9 (by kernel_rfl) (fun wq hwq => ?k3y31) (fun L9 hL9 => ?k3r31)
            case k3y31 => (go_simp; try with_reducible rfl)
            try simp only [Act.put, List.setIfInBounds_toArray, List.set_cons_zero, List.set_cons_succ]
            refine quiet_skip hL9 (by kernel_rfl) (fun L9 hL9 => ?_)
            try simp only [Act.put, List.setIfInBounds_toArray, List.set_cons_zero, List.set_cons_succ]
            refine quiet_skip hL9 (by kernel_rfl) (fun L9 hL9 => ?_)
            try simp only [Act.put, List.setIfInBounds_toArray, List.set_cons_zero, List.set_cons_succ]
            refine quiet_skip hL9 (by kernel_rfl) (fun L9 hL9 => ?_)
            try simp only [Act.put, List.setIfInBounds_toArray, List.set_cons_zero, List.set_cons_succ]
            refine quiet_skip hL9 (by kernel_rfl) (fun L9 hL9 => ?_)
            try simp only [Act.put, List.setIfInBounds_toArray, List.set_cons_zero, List.set_cons_succ]
            refine quiet_take (v := .bool true) hL9 (by kernel_rfl) (fun wq hwq => ?k3y36) (fun L9 hL9 => ?k3r36)
            case k3y36 => (go_simp; try with_reducible rfl)
            try simp only [Act.put, List.setIfInBounds_toArray, List.set_cons_zero, List.set_cons_succ]
            refine quiet_take (v := .bool true) hL9 (by kernel_rfl) (fun wq hwq => ?k3y37) (fun L9 hL9 => ?k3r37)
            case k3y37 => (go_simp; try with_reducible rfl)
            try simp only [Act.put, List.setIfInBounds_toArray, List.set_cons_zero, List.set_cons_succ]
            refine quiet_skip hL9 (by kernel_rfl) (fun L9 hL9 => ?_)
            try simp only [Act.put, List.setIfInBounds_toArray, List.set_cons_zero, List.set_cons_succ]
            refine quiet_skip hL9 (by kernel_rfl) (fun L9 hL9 => ?_)
            try simp only [Act.put, List.setIfInBounds_toArray, List.set_cons_zero, List.set_cons_succ]
            refine quiet_skip hL9 (by kernel_rfl) (fun L9 hL9 => ?_)
            try simp only [Act.put, List.setIfInBounds_toArray, List.set_cons_zero, List.set_cons_succ]
            refine quiet_skip hL9 (by kernel_rfl) (fun L9 hL9 => ?_)
            try simp only [Act.put, List.setIfInBounds_toArray, List.set_cons_zero, List.set_cons_succ]
            refine quiet_take (v := .bool true) hL9 (by kernel_rfl) (fun wq hwq => ?k3y42) (fun L9 hL9 => ?k3r42)
            case k3y42 => (go_simp; try with_reducible rfl)
            try simp only [Act.put, List.setIfInBounds_toArray, List.set_cons_zero, List.set_cons_succ]
            refine quiet_take (v := .bool true) hL9 (by kernel_rfl) (fun wq hwq => ?k3y43) (fun L9 hL9 => ?k3r43)
            case k3y43 => (go_simp; try with_reducible rfl)
            try simp only [Act.put, List.setIfInBounds_toArray, List.set_cons_zero, List.set_cons_succ]
            refine quiet_skip hL9 (by kernel_rfl) (fun L9 hL9 => ?_)
            try simp only [Act.put, List.setIfInBounds_toArray, List.set_cons_zero, List.set_cons_succ]
            refine quiet_skip hL9 (by kernel_rfl) (fun L9 hL9 => ?_)
            try simp only [Act.put, List.setIfInBounds_toArray, List.set_cons_zero, List.set_cons_succ]
            refine quiet_skip hL9 (by kernel_rfl) (fun L9 hL9 => ?_)
            try simp only [Act.put, List.setIfInBounds_toArray, List.set_cons_zero, List.set_cons_succ]
            refine quiet_skip hL9 (by kernel_rfl) (fun L9 hL9 => ?_)
            try simp only [Act.put, List.setIfInBounds_toArray, List.set_cons_zero, List.set_cons_succ]
            refine quiet_skip hL9 (by kernel_rfl) (fun L9 hL9 => ?_)
            try simp only [Act.put, List.setIfInBounds_toArray, List.set_cons_zero, List.set_cons_succ]
            refine quiet_skip hL9 (by kernel_rfl) (fun L9 hL9 => ?_)
            try simp only [Act.put, List.setIfInBounds_toArray, List.set_cons_zero, List.set_cons_succ]
            refine quiet_skip hL9 (by kernel_rfl) (fun L9 hL9 => ?_)
            try simp only [Act.put, List.setIfInBounds_toArray, List.set_cons_zero, List.set_cons_succ]
            refine quiet_skip hL9 (by kernel_rfl) (fun L9 hL9 => ?_)
            try simp only [Act.put, List.setIfInBounds_toArray, List.set_cons_zero, List.set_cons_succ]
            refine quiet_skip hL9 (by kernel_rfl) (fun L9 hL9 => ?_)
            try simp only [Act.put, List.setIfInBounds_toArray, List.set_cons_zero, List.set_cons_succ]
            refine quiet_skip hL9 (by kernel_rfl) (fun L9 hL9 => ?_)
            try simp only [Act.put, List.setIfInBounds_toArray, List.set_cons_zero, List.set_cons_succ]
            refine quiet_skip hL9 (by kernel_rfl) (fun L9 hL9 => ?_)
            try simp only [Act.put, List.setIfInBounds_toArray, List.set_cons_zero, List.set_cons_succ]
            refine quiet_nil hL9 ?_
            clear hL9
            intro w3 hO3
            go_wp2_with fail
            go_meet
            exact ⟨rfl, hO3⟩
          · have HL : Hid (¬ (18 : Int) < (p.length : Int)) := by refine Lib.hid ?_; omega
            cases h4 : okD f a
            · have HPA := HPA0
              rw [h4] at HPA
              clear HPA0 HPB0 HAP0 HAQ0 HCA0 HCB0 hno h2 h3
              refine region_keep_tail (fun wq => On u wq) 55 (by kernel_rfl) (by kernel_rfl) (On.refl HO.out.tab).drew ?_
              simp only [List.take_succ_cons, List.take_zero, List.drop_succ_cons, List.drop_zero]
              refine quiet_start fun L9 hL9 => ?_
              refine quiet_take (v := ?k4v0) hL9 (by kernel_rfl) (fun wq hwq => ?k4y0) (fun L9 hL9 => ?k4r0)
              case k4y0 => (go_simp; try with_reducible rfl)
              try simp only [Act.put, List.setIfInBounds_toArray, List.set_cons_zero, List.set_cons_succ]
              refine quiet_take (v := .bool true) hL9 (by kernel_rfl) (fun wq hwq => ?k4y1) (fun L9 hL9 => ?k4r1)
              case k4y1 => (go_simp; go_at_call 42; exact HV.out wq hwq)
              try simp only [Act.put, List.setIfInBounds_toArray, List.set_cons_zero, List.set_cons_succ]
              refine quiet_take (v := .bool false) hL9 (by kernel_rfl) (fun wq hwq => ?k4y2) (fun L9 hL9 => ?k4r2)
              case k4y2 => (go_simp; try with_reducible rfl)
              try simp only [Act.put, List.setIfInBounds_toArray, List.set_cons_zero, List.set_cons_succ]
              refine quiet_take (v := .bool false) hL9 (by kernel_rfl) (fun wq hwq => ?k4y3) (fun L9 hL9 => ?k4r3)
              case k4y3 => (go_simp; try with_reducible rfl)
              try simp only [Act.put, List.setIfInBounds_toArray, List.set_cons_zero, List.set_cons_succ]
              refine quiet_take (v := ?k4v4) hL9 (by kernel_rfl) (fun wq hwq => ?k4y4) (fun L9 hL9 => ?k4r4)
              case k4y4 => (go_simp; try with_reducible rfl)
              try simp only [Act.put, List.setIfInBounds_toArray, List.set_cons_zero, List.set_cons_succ]
              refine quiet_take (v := .bool false) hL9 (by kernel_rfl) (fun wq hwq => ?k4y5) (fun L9 hL9 => ?k4r5)
              case k4y5 => (have h1 := HI.out; go_simp; try with_reducible rfl; try simp [h1]; try omega)
              try simp only [Act.put, List.setIfInBounds_toArray, List.set_cons_zero, List.set_cons_succ]
              refine quiet_take (v := .bool false) hL9 (by kernel_rfl) (fun wq hwq => ?k4y6) (fun L9 hL9 => ?k4r6)
              case k4y6 => (go_simp; try with_reducible rfl)
              try simp only [Act.put, List.setIfInBounds_toArray, List.set_cons_zero, List.set_cons_succ]
              refine quiet_take (v := .bool false) hL9 (by kernel_rfl) (fun wq hwq => ?k4y7) (fun L9 hL9 => ?k4r7)
              case k4y7 => (go_simp; try with_reducible rfl)
              try simp only [Act.put, List.setIfInBounds_toArray, List.set_cons_zero, List.set_cons_succ]
              refine quiet_take (v := ?k4v8) hL9 (by kernel_rfl) (fun wq hwq => ?k4y8) (fun L9 hL9 => ?k4r8)
              case k4y8 => (go_simp; try with_reducible rfl)
              try simp only [Act.put, List.setIfInBounds_toArray, List.set_cons_zero, List.set_cons_succ]
              refine quiet_take (v := ?k4v9) hL9 (by kernel_rfl) (fun wq hwq => ?k4y9) (fun L9 hL9 => ?k4r9)
              case k4y9 => (go_simp; try with_reducible rfl)
              try simp only [Act.put, List.setIfInBounds_toArray, List.set_cons_zero, List.set_cons_succ]
              refine quiet_take (v := ?k4v10) hL9 (by kernel_rfl) (fun wq hwq => ?k4y10) (fun L9 hL9 => ?k4r10)
              case k4y10 => (go_simp; try with_reducible rfl)
              try simp only [Act.put, List.setIfInBounds_toArray, List.set_cons_zero, List.set_cons_succ]
              refine quiet_take (v := ?k4v11) hL9 (by kernel_rfl) (fun wq hwq => ?k4y11) (fun L9 hL9 => ?k4r11)
              case k4y11 => (go_simp; try with_reducible rfl)
              try simp only [Act.put, List.setIfInBounds_toArray, List.set_cons_zero, List.set_cons_succ]
              refine quiet_take (v := .bool false) hL9 (by kernel_rfl) (fun wq hwq => ?k4y12) (fun L9 hL9 => ?k4r12)
              case k4y12 => (have h1 := HN.out; go_simp; try with_reducible rfl; try simp [h1]; try omega)
              try simp only [Act.put, List.setIfInBounds_toArray, List.set_cons_zero, List.set_cons_succ]
              refine quiet_take (v := .bool false) hL9 (by kernel_rfl) (fun wq hwq => ?k4y13) (fun L9 hL9 => ?k4r13)
              case k4y13 => (go_simp; try with_reducible rfl)
              try simp only [Act.put, List.setIfInBounds_toArray, List.set_cons_zero, List.set_cons_succ]
              refine quiet_take (v := .bool false) hL9 (by kernel_rfl) (fun wq hwq => ?k4y14) (fun L9 hL9 => ?k4r14)
              case k4y14 => (go_simp; try with_reducible rfl)
              try simp only [Act.put, List.setIfInBounds_toArray, List.set_cons_zero, List.set_cons_succ]
              refine quiet_take (v := ?k4v15) hL9 (by kernel_rfl) (fun wq hwq => ?k4y15) (fun L9 hL9 => ?k4r15)
              case k4y15 => (go_simp; try with_reducible rfl)
              try simp only [Act.put, List.setIfInBounds_toArray, List.set_cons_zero, List.set_cons_succ]
              refine quiet_take (v := ?k4v16) hL9 (by kernel_rfl) (fun wq hwq => ?k4y16) (fun L9 hL9 => ?k4r16)
              case k4y16 => (go_simp; try with_reducible rfl)
              try simp only [Act.put, List.setIfInBounds_toArray, List.set_cons_zero, List.set_cons_succ]
              refine quiet_take (v := .bool false) hL9 (by kernel_rfl) (fun wq hwq => ?k4y17) (fun L9 hL9 => ?k4r17)
              case k4y17 => (have h1 := HL.out; go_simp; try with_reducible rfl; try simp [h1]; try omega)
              try simp only [Act.put, List.setIfInBounds_toArray, List.set_cons_zero, List.set_cons_succ]
              refine quiet_take (v := .bool false) hL9 (by kernel_rfl) (fun wq hwq => ?k4y18) (fun L9 hL9 => ?k4r18)
              case k4y18 => (go_simp; try with_reducible rfl)
              try simp only [Act.put, List.setIfInBounds_toArray, List.set_cons_zero, List.set_cons_succ]
              refine quiet_take (v := .bool false) hL9 (by kernel_rfl) (fun wq hwq => ?k4y19) (fun L9 hL9 => ?k4r19)
              case k4y19 => (go_simp; try with_reducible rfl)
              try simp only [Act.put, List.setIfInBounds_toArray, List.set_cons_zero, List.set_cons_succ]
              refine quiet_take (v := ?k4v20) hL9 (by kernel_rfl) (fun wq hwq => ?k4y20) (fun L9 hL9 => ?k4r20)
              case k4y20 => (go_simp; try with_reducible rfl)
              try simp only [Act.put, List.setIfInBounds_toArray, List.set_cons_zero, List.set_cons_succ]
              refine quiet_take (v := dgV a) hL9 (by kernel_rfl) (fun wq hwq => ?k4y21) (fun L9 hL9 => ?k4r21)
              case k4y21 => (obtain ⟨⟨x0, x1⟩, y0, y1⟩ := HK.out wq hwq; go_simp; try with_reducible rfl)
              try simp only [Act.put, List.setIfInBounds_toArray, List.set_cons_zero, List.set_cons_succ]
              refine quiet_take (v := .bool false) hL9 (by kernel_rfl) (fun wq hwq => ?k4y22) (fun L9 hL9 => ?k4r22)
              case k4y22 => (go_simp; go_at_call 50; exact HPA.out wq hwq)
              try simp only [Act.put, List.setIfInBounds_toArray, List.set_cons_zero, List.set_cons_succ]
              refine quiet_take (v := .bool true) hL9 (by kernel_rfl) (fun wq hwq => ?k4y23) (fun L9 hL9 => ?k4r23)
              case k4y23 => (go_simp; try with_reducible rfl)
              try simp only [Act.put, List.setIfInBounds_toArray, List.set_cons_zero, List.set_cons_succ]
              refine quiet_take (v := .bool true) hL9 (by kernel_rfl) (fun wq hwq => ?k4y24) (fun L9 hL9 => ?k4r24)
              case k4y24 => (go_simp; try with_reducible rfl)
              try simp only [Act.put, List.setIfInBounds_toArray, List.set_cons_zero, List.set_cons_succ]
              refine quiet_take (v := .bool true) hL9 (by kernel_rfl) (fun wq hwq => ?k4y25) (fun L9 hL9 => ?k4r25)
              case k4y25 => (go_simp; try with_reducible rfl)
              try simp only [Act.put, List.setIfInBounds_toArray, List.set_cons_zero, List.set_cons_succ]
              refine quiet_skip hL9 (by kernel_rfl) (fun L9 hL9 => ?_)
              try simp only [Act.put, List.setIfInBounds_toArray, List.set_cons_zero, List.set_cons_succ]
              refine quiet_skip hL9 (by kernel_rfl) (fun L9 hL9 => ?_)
              try simp only [Act.put, List.setIfInBounds_toArray, List.set_cons_zero, List.set_cons_succ]
              refine quiet_skip hL9 (by kernel_rfl) (fun L9 hL9 => ?_)
              try simp only [Act.put, List.setIfInBounds_toArray, List.set_cons_zero, List.set_cons_succ]
              refine quiet_skip hL9 (by kernel_rfl) (fun L9 hL9 => ?_)
              try simp only [Act.put, List.setIfInBounds_toArray, List.set_cons_zero, List.set_cons_succ]
              refine quiet_take (v := .bool true) hL9 (by kernel_rfl) (fun wq hwq => ?k4y30) (fun L9 hL9 => ?k4r30)
              case k4y30 => (go_simp; try with_reducible rfl)
              try simp only [Act.put, List.setIfInBounds_toArray, List.set_cons_zero, List.set_cons_succ]
              refine quiet_take (v := .bool true) hL9 (by kernel_rfl) (fun wq hwq => ?k4y31) (fun L9 hL9 => ?k4r31)
              case k4y31 => (go_simp; try with_reducible rfl)
              try simp only [Act.put, List.setIfInBounds_toArray, List.set_cons_zero, List.set_cons_succ]
              refine quiet_skip hL9 (by kernel_rfl) (fun L9 hL9 => ?_)
              try simp only [Act.put, List.setIfInBounds_toArray, List.set_cons_zero, List.set_cons_succ]
              refine quiet_skip hL9 (by kernel_rfl) (fun L9 hL9 => ?_)
              try simp only [Act.put, List.setIfInBounds_toArray, List.set_cons_zero, List.set_cons_succ]
              refine quiet_skip hL9 (by kernel_rfl) (fun L9 hL9 => ?_)
              try simp only [Act.put, List.setIfInBounds_toArray, List.set_cons_zero, List.set_cons_succ]
              refine quiet_skip hL9 (by kernel_rfl) (fun L9 hL9 => ?_)
              try simp only [Act.put, List.setIfInBounds_toArray, List.set_cons_zero, List.set_cons_succ]
              refine quiet_take (v := .bool true) hL9 (by kernel_rfl) (fun wq hwq => ?k4y36) (fun L9 hL9 => ?k4r36)
              case k4y36 => (go_simp; try with_reducible rfl)
              try simp only [Act.put, List.setIfInBounds_toArray, List.set_cons_zero, List.set_cons_succ]
              refine quiet_take (v := .bool true) hL9 (by kernel_rfl) (fun wq hwq => ?k4y37) (fun L9 hL9 => ?k4r37)
              case k4y37 => (go_simp; try with_reducible rfl)
              try simp only [Act.put, List.setIfInBounds_toArray, List.set_cons_zero, List.set_cons_succ]
              refine quiet_skip hL9 (by kernel_rfl) (fun L9 hL9 => ?_)
              try simp only [Act.put, List.setIfInBounds_toArray, List.set_cons_zero, List.set_cons_succ]
              refine quiet_skip hL9 (by kernel_rfl) (fun L9 hL9 => ?_)
              try simp only [Act.put, List.setIfInBounds_toArray, List.set_cons_zero, List.set_cons_succ]
              refine quiet_skip hL9 (by kernel_rfl) (fun L9 hL9 => ?_)
              try simp only [Act.put, List.setIfInBounds_toArray, List.set_cons_zero, List.set_cons_succ]
              refine quiet_skip hL9 (by kernel_rfl) (fun L9 hL9 => ?_)
              try simp only [Act.put, List.setIfInBounds_toArray, List.set_cons_zero, List.set_cons_succ]
              refine quiet_take (v := .bool true) hL9 (by kernel_rfl) (fun wq hwq => ?k4y42) (fun L9 hL9 => ?k4r42)
              case k4y42 => (go_simp; try with_reducible rfl)
              try simp only [Act.put, List.setIfInBounds_toArray, List.set_cons_zero, List.set_cons_succ]
              refine quiet_take (v := .bool true) hL9 (by kernel_rfl) (fun wq hwq => ?k4y43) (fun L9 hL9 => ?k4r43)
              case k4y43 => (go_simp; try with_reducible rfl)
              try simp only [Act.put, List.setIfInBounds_toArray, List.set_cons_zero, List.set_cons_succ]
              refine quiet_skip hL9 (by kernel_rfl) (fun L9 hL9 => ?_)
              try simp only [Act.put, List.setIfInBounds_toArray, List.set_cons_zero, List.set_cons_succ]
              refine quiet_skip hL9 (by kernel_rfl) (fun L9 hL9 => ?_)
              try simp only [Act.put, List.setIfInBounds_toArray, List.set_cons_zero, List.set_cons_succ]
              refine quiet_skip hL9 (by kernel_rfl) (fun L9 hL9 => ?_)
              try simp only [Act.put, List.setIfInBounds_toArray, List.set_cons_zero, List.set_cons_succ]
              refine quiet_skip hL9 (by kernel_rfl) (fun L9 hL9 => ?_)
              try simp only [Act.put, List.setIfInBounds_toArray, List.set_cons_zero, List.set_cons_succ]
              refine quiet_skip hL9 (by kernel_rfl) (fun L9 hL9 => ?_)
              try simp only [Act.put, List.setIfInBounds_toArray, List.set_cons_zero, List.set_cons_succ]
              refine quiet_skip hL9 (by kernel_rfl) (fun L9 hL9 => ?_)
              try simp only [Act.put, List.setIfInBounds_toArray, List.set_cons_zero, List.set_cons_succ]
              refine quiet_skip hL9 (by kernel_rfl) (fun L9 hL9 => ?_)
              try simp only [Act.put, List.setIfInBounds_toArray, List.set_cons_zero, List.set_cons_succ]
              refine quiet_skip hL9 (by kernel_rfl) (fun L9 hL9 => ?_)
              try simp only [Act.put, List.setIfInBounds_toArray, List.set_cons_zero, List.set_cons_succ]
              refine quiet_skip hL9 (by kernel_rfl) (fun L9 hL9 => ?_)
              try simp only [Act.put, List.setIfInBounds_toArray, List.set_cons_zero, List.set_cons_succ]
              refine quiet_skip hL9 (by kernel_rfl) (fun L9 hL9 => ?_)
              try simp only [Act.put, List.setIfInBounds_toArray, List.set_cons_zero, List.set_cons_succ]
              refine quiet_skip hL9 (by kernel_rfl) (fun L9 hL9 => ?_)
              try simp only [Act.put, List.setIfInBounds_toArray, List.set_cons_zero, List.set_cons_succ]
              refine quiet_nil hL9 ?_
              clear hL9
              intro w3 hO3
              go_wp2_with fail
              go_meet
              exact ⟨rfl, hO3⟩
            · have HPA := HPA0
              rw [h4] at HPA
              clear HPA0
              cases h5 : okD f b
              · have HPB := HPB0
                rw [h5] at HPB
                clear HPB0 HAP0 HAQ0 HCA0 HCB0 hno h2 h3
                refine region_keep_tail (fun wq => On u wq) 55 (by kernel_rfl) (by kernel_rfl) (On.refl HO.out.tab).drew ?_
                simp only [List.take_succ_cons, List.take_zero, List.drop_succ_cons, List.drop_zero]
                refine quiet_start fun L9 hL9 => ?_
                refine quiet_take (v := ?k5v0) hL9 (by kernel_rfl) (fun wq hwq => ?k5y0) (fun L9 hL9 => ?k5r0)
                case k5y0 => (go_simp; try with_reducible rfl)
                try simp only [Act.put, List.setIfInBounds_toArray, List.set_cons_zero, List.set_cons_succ]
                refine quiet_take (v := .bool true) hL9 (by kernel_rfl) (fun wq hwq => ?k5y1) (fun L9 hL9 => ?k5r1)
                case k5y1 => (go_simp; go_at_call 42; exact HV.out wq hwq)
                try simp only [Act.put, List.setIfInBounds_toArray, List.set_cons_zero, List.set_cons_succ]
                refine quiet_take (v := .bool false) hL9 (by kernel_rfl) (fun wq hwq => ?k5y2) (fun L9 hL9 => ?k5r2)
                case k5y2 => (go_simp; try with_reducible rfl)
                try simp only [Act.put, List.setIfInBounds_toArray, List.set_cons_zero, List.set_cons_succ]
                refine quiet_take (v := .bool false) hL9 (by kernel_rfl) (fun wq hwq => ?k5y3) (fun L9 hL9 => ?k5r3)
                case k5y3 => (go_simp; try with_reducible rfl)
                try simp only [Act.put, List.setIfInBounds_toArray, List.set_cons_zero, List.set_cons_succ]
                refine quiet_take (v := ?k5v4) hL9 (by kernel_rfl) (fun wq hwq => ?k5y4) (fun L9 hL9 => ?k5r4)
                case k5y4 => (go_simp; try with_reducible rfl)
                try simp only [Act.put, List.setIfInBounds_toArray, List.set_cons_zero, List.set_cons_succ]
                refine quiet_take (v := .bool false) hL9 (by kernel_rfl) (fun wq hwq => ?k5y5) (fun L9 hL9 => ?k5r5)
                case k5y5 => (have h1 := HI.out; go_simp; try with_reducible rfl; try simp [h1]; try omega)
                try simp only [Act.put, List.setIfInBounds_toArray, List.set_cons_zero, List.set_cons_succ]
                refine quiet_take (v := .bool false) hL9 (by kernel_rfl) (fun wq hwq => ?k5y6) (fun L9 hL9 => ?k5r6)
                case k5y6 => (go_simp; try with_reducible rfl)
                try simp only [Act.put, List.setIfInBounds_toArray, List.set_cons_zero, List.set_cons_succ]
                refine quiet_take (v := .bool false) hL9 (by kernel_rfl) (fun wq hwq => ?k5y7) (fun L9 hL9 => ?k5r7)
                case k5y7 => (go_simp; try with_reducible rfl)
                try simp only [Act.put, List.setIfInBounds_toArray, List.set_cons_zero, List.set_cons_succ]
                refine quiet_take (v := ?k5v8) hL9 (by kernel_rfl) (fun wq hwq => ?k5y8) (fun L9 hL9 => ?k5r8)
                case k5y8 => (go_simp; try with_reducible rfl)
                try simp only [Act.put, List.setIfInBounds_toArray, List.set_cons_zero, List.set_cons_succ]
                refine quiet_take (v := ?k5v9) hL9 (by kernel_rfl) (fun wq hwq => ?k5y9) (fun L9 hL9 => ?k5r9)
                case k5y9 => (go_simp; try with_reducible rfl)
                try simp only [Act.put, List.setIfInBounds_toArray, List.set_cons_zero, List.set_cons_succ]
                refine quiet_take (v := ?k5v10) hL9 (by kernel_rfl) (fun wq hwq => ?k5y10) (fun L9 hL9 => ?k5r10)
                case k5y10 => (go_simp; try with_reducible rfl)
                try simp only [Act.put, List.setIfInBounds_toArray, List.set_cons_zero, List.set_cons_succ]
                refine quiet_take (v := ?k5v11) hL9 (by kernel_rfl) (fun wq hwq => ?k5y11) (fun L9 hL9 => ?k5r11)
                case k5y11 => (go_simp; try with_reducible rfl)
                try simp only [Act.put, List.setIfInBounds_toArray, List.set_cons_zero, List.set_cons_succ]
                refine quiet_take (v := .bool false) hL9 (by kernel_rfl) (fun wq hwq => ?k5y12) (fun L9 hL9 => ?k5r12)
                case k5y12 => (have h1 := HN.out; go_simp; try with_reducible rfl; try simp [h1]; try omega)
                try simp only [Act.put, List.setIfInBounds_toArray, List.set_cons_zero, List.set_cons_succ]
                refine quiet_take (v := .bool false) hL9 (by kernel_rfl) (fun wq hwq => ?k5y13) (fun L9 hL9 => ?k5r13)
                case k5y13 => (go_simp; try with_reducible rfl)
                try simp only [Act.put, List.setIfInBounds_toArray, List.set_cons_zero, List.set_cons_succ]
                refine quiet_take (v := .bool false) hL9 (by kernel_rfl) (fun wq hwq => ?k5y14) (fun L9 hL9 => ?k5r14)
                case k5y14 => (go_simp; try with_reducible rfl)
                try simp only [Act.put, List.setIfInBounds_toArray, List.set_cons_zero, List.set_cons_succ]
                refine quiet_take (v := ?k5v15) hL9 (by kernel_rfl) (fun wq hwq => ?k5y15) (fun L9 hL9 => ?k5r15)
                case k5y15 => (go_simp; try with_reducible rfl)
                try simp only [Act.put, List.setIfInBounds_toArray, List.set_cons_zero, List.set_cons_succ]
                refine quiet_take (v := ?k5v16) hL9 (by kernel_rfl) (fun wq hwq => ?k5y16) (fun L9 hL9 => ?k5r16)
                case k5y16 => (go_simp; try with_reducible rfl)
                try simp only [Act.put, List.setIfInBounds_toArray, List.set_cons_zero, List.set_cons_succ]
                refine quiet_take (v := .bool false) hL9 (by kernel_rfl) (fun wq hwq => ?k5y17) (fun L9 hL9 => ?k5r17)
                case k5y17 => (have h1 := HL.out; go_simp; try with_reducible rfl; try simp [h1]; try omega)
                try simp only [Act.put, List.setIfInBounds_toArray, List.set_cons_zero, List.set_cons_succ]
                refine quiet_take (v := .bool false) hL9 (by kernel_rfl) (fun wq hwq => ?k5y18) (fun L9 hL9 => ?k5r18)
                case k5y18 => (go_simp; try with_reducible rfl)
                try simp only [Act.put, List.setIfInBounds_toArray, List.set_cons_zero, List.set_cons_succ]
                refine quiet_take (v := .bool false) hL9 (by kernel_rfl) (fun wq hwq => ?k5y19) (fun L9 hL9 => ?k5r19)
                case k5y19 => (go_simp; try with_reducible rfl)
                try simp only [Act.put, List.setIfInBounds_toArray, List.set_cons_zero, List.set_cons_succ]
                refine quiet_take (v := ?k5v20) hL9 (by kernel_rfl) (fun wq hwq => ?k5y20) (fun L9 hL9 => ?k5r20)
                case k5y20 => (go_simp; try with_reducible rfl)
                try simp only [Act.put, List.setIfInBounds_toArray, List.set_cons_zero, List.set_cons_succ]
                refine quiet_take (v := dgV a) hL9 (by kernel_rfl) (fun wq hwq => ?k5y21) (fun L9 hL9 => ?k5r21)
                case k5y21 => (obtain ⟨⟨x0, x1⟩, y0, y1⟩ := HK.out wq hwq; go_simp; try with_reducible rfl)
                try simp only [Act.put, List.setIfInBounds_toArray, List.set_cons_zero, List.set_cons_succ]
                refine quiet_take (v := .bool true) hL9 (by kernel_rfl) (fun wq hwq => ?k5y22) (fun L9 hL9 => ?k5r22)
                case k5y22 => (go_simp; go_at_call 50; exact HPA.out wq hwq)
                try simp only [Act.put, List.setIfInBounds_toArray, List.set_cons_zero, List.set_cons_succ]
                refine quiet_take (v := .bool false) hL9 (by kernel_rfl) (fun wq hwq => ?k5y23) (fun L9 hL9 => ?k5r23)
                case k5y23 => (go_simp; try with_reducible rfl)
                try simp only [Act.put, List.setIfInBounds_toArray, List.set_cons_zero, List.set_cons_succ]
                refine quiet_take (v := .bool false) hL9 (by kernel_rfl) (fun wq hwq => ?k5y24) (fun L9 hL9 => ?k5r24)
                case k5y24 => (go_simp; try with_reducible rfl)
                try simp only [Act.put, List.setIfInBounds_toArray, List.set_cons_zero, List.set_cons_succ]
                refine quiet_take (v := .bool false) hL9 (by kernel_rfl) (fun wq hwq => ?k5y25) (fun L9 hL9 => ?k5r25)
                case k5y25 => (go_simp; try with_reducible rfl)
                try simp only [Act.put, List.setIfInBounds_toArray, List.set_cons_zero, List.set_cons_succ]
                refine quiet_take (v := ?k5v26) hL9 (by kernel_rfl) (fun wq hwq => ?k5y26) (fun L9 hL9 => ?k5r26)
                case k5y26 => (go_simp; try with_reducible rfl)
                try simp only [Act.put, List.setIfInBounds_toArray, List.set_cons_zero, List.set_cons_succ]
                refine quiet_take (v := dgV b) hL9 (by kernel_rfl) (fun wq hwq => ?k5y27) (fun L9 hL9 => ?k5r27)
                case k5y27 => (obtain ⟨⟨x0, x1⟩, y0, y1⟩ := HK.out wq hwq; go_simp; try with_reducible rfl)
                try simp only [Act.put, List.setIfInBounds_toArray, List.set_cons_zero, List.set_cons_succ]
                refine quiet_take (v := .bool false) hL9 (by kernel_rfl) (fun wq hwq => ?k5y28) (fun L9 hL9 => ?k5r28)
                case k5y28 => (go_simp; go_at_call 50; exact HPB.out wq hwq)
                try simp only [Act.put, List.setIfInBounds_toArray, List.set_cons_zero, List.set_cons_succ]
                refine quiet_take (v := .bool true) hL9 (by kernel_rfl) (fun wq hwq => ?k5y29) (fun L9 hL9 => ?k5r29)
                case k5y29 => (go_simp; try with_reducible rfl)
                try simp only [Act.put, List.setIfInBounds_toArray, List.set_cons_zero, List.set_cons_succ]
                refine quiet_take (v := .bool true) hL9 (by kernel_rfl) (fun wq hwq => ?k5y30) (fun L9 hL9 => ?k5r30)
                case k5y30 => (go_simp; try with_reducible rfl)
                try simp only [Act.put, List.setIfInBounds_toArray, List.set_cons_zero, List.set_cons_succ]
                refine quiet_take (v := .bool true) hL9 (by kernel_rfl) (fun wq hwq => ?k5y31) (fun L9 hL9 => ?k5r31)
                case k5y31 => (go_simp; try with_reducible rfl)
                try simp only [Act.put, List.setIfInBounds_toArray, List.set_cons_zero, List.set_cons_succ]
                refine quiet_skip hL9 (by kernel_rfl) (fun L9 hL9 => ?_)
                try simp only [Act.put, List.setIfInBounds_toArray, List.set_cons_zero, List.set_cons_succ]
                refine quiet_skip hL9 (by kernel_rfl) (fun L9 hL9 => ?_)
                try simp only [Act.put, List.setIfInBounds_toArray, List.set_cons_zero, List.set_cons_succ]
                refine quiet_skip hL9 (by kernel_rfl) (fun L9 hL9 => ?_)
                try simp only [Act.put, List.setIfInBounds_toArray, List.set_cons_zero, List.set_cons_succ]
                refine quiet_skip hL9 (by kernel_rfl) (fun L9 hL9 => ?_)
                try simp only [Act.put, List.setIfInBounds_toArray, List.set_cons_zero, List.set_cons_succ]
                refine quiet_take (v := .bool true) hL9 (by kernel_rfl) (fun wq hwq => ?k5y36) (fun L9 hL9 => ?k5r36)
                case k5y36 => (go_simp; try with_reducible rfl)
                try simp only [Act.put, List.setIfInBounds_toArray, List.set_cons_zero, List.set_cons_succ]
                refine quiet_take (v := .bool true) hL9 (by kernel_rfl) (fun wq hwq => ?k5y37) (fun L9 hL9 => ?k5r37)
                case k5y37 => (go_simp; try with_reducible rfl)
                try simp only [Act.put, List.setIfInBounds_toArray, List.set_cons_zero, List.set_cons_succ]
                refine quiet_skip hL9 (by kernel_rfl) (fun L9 hL9 => ?_)
                try simp only [Act.put, List.setIfInBounds_toArray, List.set_cons_zero, List.set_cons_succ]
                refine quiet_skip hL9 (by kernel_rfl) (fun L9 hL9 => ?_)
                try simp only [Act.put, List.setIfInBounds_toArray, List.set_cons_zero, List.set_cons_succ]
                refine quiet_skip hL9 (by kernel_rfl) (fun L9 hL9 => ?_)
                try simp only [Act.put, List.setIfInBounds_toArray, List.set_cons_zero, List.set_cons_succ]
                refine quiet_skip hL9 (by kernel_rfl) (fun L9 hL9 => ?_)
                try simp only [Act.put, List.setIfInBounds_toArray, List.set_cons_zero, List.set_cons_succ]
                refine quiet_take (v := .bool true) hL9 (by kernel_rfl) (fun wq hwq => ?k5y42) (fun L9 hL9 => ?k5r42)
                case k5y42 => (go_simp; try with_reducible rfl)
                try simp only [Act.put, List.setIfInBounds_toArray, List.set_cons_zero, List.set_cons_succ]
                refine quiet_take (v := .bool true) hL9 (by kernel_rfl) (fun wq hwq => ?k5y43) (fun L9 hL9 => ?k5r43)
                case k5y43 => (go_simp; try with_reducible rfl)
                try simp only [Act.put, List.setIfInBounds_toArray, List.set_cons_zero, List.set_cons_succ]
                refine quiet_skip hL9 (by kernel_rfl) (fun L9 hL9 => ?_)
                try simp only [Act.put, List.setIfInBounds_toArray, List.set_cons_zero, List.set_cons_succ]
                refine quiet_skip hL9 (by kernel_rfl) (fun L9 hL9 => ?_)
                try simp only [Act.put, List.setIfInBounds_toArray, List.set_cons_zero, List.set_cons_succ]
                refine quiet_skip hL9 (by kernel_rfl) (fun L9 hL9 => ?_)
                try simp only [Act.put, List.setIfInBounds_toArray, List.set_cons_zero, List.set_cons_succ]
                refine quiet_skip hL9 (by kernel_rfl) (fun L9 hL9 => ?_)
                try simp only [Act.put, List.setIfInBounds_toArray, List.set_cons_zero, List.set_cons_succ]
                refine quiet_skip hL9 (by kernel_rfl) (fun L9 hL9 => ?_)
                try simp only [Act.put, List.setIfInBounds_toArray, List.set_cons_zero, List.set_cons_succ]
                refine quiet_skip hL9 (by kernel_rfl) (fun L9 hL9 => ?_)
                try simp only [Act.put, List.setIfInBounds_toArray, List.set_cons_zero, List.set_cons_succ]
                refine quiet_skip hL9 (by kernel_rfl) (fun L9 hL9 => ?_)
                try simp only [Act.put, List.setIfInBounds_toArray, List.set_cons_zero, List.set_cons_succ]
                refine quiet_skip hL9 (by kernel_rfl) (fun L9 hL9 => ?_)
                try simp only [Act.put, List.setIfInBounds_toArray, List.set_cons_zero, List.set_cons_succ]
                refine quiet_skip hL9 (by kernel_rfl) (fun L9 hL9 => ?_)
                try simp only [Act.put, List.setIfInBounds_toArray, List.set_cons_zero, List.set_cons_succ]
                refine quiet_skip hL9 (by kernel_rfl) (fun L9 hL9 => ?_)
                try simp only [Act.put, List.setIfInBounds_toArray, List.set_cons_zero, List.set_cons_succ]
                refine quiet_skip hL9 (by kernel_rfl) (fun L9 hL9 => ?_)
                try simp only [Act.put, List.setIfInBounds_toArray, List.set_cons_zero, List.set_cons_succ]
                refine quiet_nil hL9 ?_
                clear hL9
                intro w3 hO3
                go_wp2_with fail
                go_meet
                exact ⟨rfl, hO3⟩
              · have HPB := HPB0
                rw [h5] at HPB
                clear HPB0
                cases h6 : okA f p
                · have HAP := HAP0
                  rw [h6] at HAP
                  clear HAP0 HAQ0 HCA0 HCB0 hno h2 h3
                  refine region_keep_tail (fun wq => On u wq) 55 (by kernel_rfl) (by kernel_rfl) (On.refl HO.out.tab).drew ?_
                  simp only [List.take_succ_cons, List.take_zero, List.drop_succ_cons, List.drop_zero]
                  refine quiet_start fun L9 hL9 => ?_
                  refine quiet_take (v := ?k6v0) hL9 (by kernel_rfl) (fun wq hwq => ?k6y0) (fun L9 hL9 => ?k6r0)
                  case k6y0 => (go_simp; try with_reducible rfl)
                  try simp only [Act.put, List.setIfInBounds_toArray, List.set_cons_zero, List.set_cons_succ]
                  refine quiet_take (v := .bool true) hL9 (by kernel_rfl) (fun wq hwq => ?k6y1) (fun L9 hL9 => ?k6r1)
                  case k6y1 => (go_simp; go_at_call 42; exact HV.out wq hwq)
                  try simp only [Act.put, List.setIfInBounds_toArray, List.set_cons_zero, List.set_cons_succ]
                  refine quiet_take (v := .bool false) hL9 (by kernel_rfl) (fun wq hwq => ?k6y2) (fun L9 hL9 => ?k6r2)
                  case k6y2 => (go_simp; try with_reducible rfl)
                  try simp only [Act.put, List.setIfInBounds_toArray, List.set_cons_zero, List.set_cons_succ]
                  refine quiet_take (v := .bool false) hL9 (by kernel_rfl) (fun wq hwq => ?k6y3) (fun L9 hL9 => ?k6r3)
                  case k6y3 => (go_simp; try with_reducible rfl)
                  try simp only [Act.put, List.setIfInBounds_toArray, List.set_cons_zero, List.set_cons_succ]
                  refine quiet_take (v := ?k6v4) hL9 (by kernel_rfl) (fun wq hwq => ?k6y4) (fun L9 hL9 => ?k6r4)
                  case k6y4 => (go_simp; try with_reducible rfl)
                  try simp only [Act.put, List.setIfInBounds_toArray, List.set_cons_zero, List.set_cons_succ]
                  refine quiet_take (v := .bool false) hL9 (by kernel_rfl) (fun wq hwq => ?k6y5) (fun L9 hL9 => ?k6r5)
                  case k6y5 => (have h1 := HI.out; go_simp; try with_reducible rfl; try simp [h1]; try omega)
                  try simp only [Act.put, List.setIfInBounds_toArray, List.set_cons_zero, List.set_cons_succ]
                  refine quiet_take (v := .bool false) hL9 (by kernel_rfl) (fun wq hwq => ?k6y6) (fun L9 hL9 => ?k6r6)
                  case k6y6 => (go_simp; try with_reducible rfl)
                  try simp only [Act.put, List.setIfInBounds_toArray, List.set_cons_zero, List.set_cons_succ]
                  refine quiet_take (v := .bool false) hL9 (by kernel_rfl) (fun wq hwq => ?k6y7) (fun L9 hL9 => ?k6r7)
                  case k6y7 => (go_simp; try with_reducible rfl)
                  try simp only [Act.put, List.setIfInBounds_toArray, List.set_cons_zero, List.set_cons_succ]
                  refine quiet_take (v := ?k6v8) hL9 (by kernel_rfl) (fun wq hwq => ?k6y8) (fun L9 hL9 => ?k6r8)
                  case k6y8 => (go_simp; try with_reducible rfl)
                  try simp only [Act.put, List.setIfInBounds_toArray, List.set_cons_zero, List.set_cons_succ]
                  refine quiet_take (v := ?k6v9) hL9 (by kernel_rfl) (fun wq hwq => ?k6y9) (fun L9 hL9 => ?k6r9)
                  case k6y9 => (go_simp; try with_reducible rfl)
                  try simp only [Act.put, List.setIfInBounds_toArray, List.set_cons_zero, List.set_cons_succ]
                  refine quiet_take (v := ?k6v10) hL9 (by kernel_rfl) (fun wq hwq => ?k6y10) (fun L9 hL9 => ?k6r10)
                  case k6y10 => (go_simp; try with_reducible rfl)
                  try simp only [Act.put, List.setIfInBounds_toArray, List.set_cons_zero, List.set_cons_succ]
                  refine quiet_take (v := ?k6v11) hL9 (by kernel_rfl) (fun wq hwq => ?k6y11) (fun L9 hL9 => ?k6r11)
                  case k6y11 => (go_simp; try with_reducible rfl)
                  try simp only [Act.put, List.setIfInBounds_toArray, List.set_cons_zero, List.set_cons_succ]
                  refine quiet_take (v := .bool false) hL9 (by kernel_rfl) (fun wq hwq => ?k6y12) (fun L9 hL9 => ?k6r12)
                  case k6y12 => (have h1 := HN.out; go_simp; try with_reducible rfl; try simp [h1]; try omega)
                  try simp only [Act.put, List.setIfInBounds_toArray, List.set_cons_zero, List.set_cons_succ]
                  refine quiet_take (v := .bool false) hL9 (by kernel_rfl) (fun wq hwq => ?k6y13) (fun L9 hL9 => ?k6r13)
                  case k6y13 => (go_simp; try with_reducible rfl)
                  try simp only [Act.put, List.setIfInBounds_toArray, List.set_cons_zero, List.set_cons_succ]
                  refine quiet_take (v := .bool false) hL9 (by kernel_rfl) (fun wq hwq => ?k6y14) (fun L9 hL9 => ?k6r14)
                  case k6y14 => (go_simp; try with_reducible rfl)
                  try simp only [Act.put, List.setIfInBounds_toArray, List.set_cons_zero, List.set_cons_succ]
                  refine quiet_take (v := ?k6v15) hL9 (by kernel_rfl) (fun wq hwq => ?k6y15) (fun L9 hL9 => ?k6r15)
                  case k6y15 => (go_simp; try with_reducible rfl)
                  try simp only [Act.put, List.setIfInBounds_toArray, List.set_cons_zero, List.set_cons_succ]
                  refine quiet_take (v := ?k6v16) hL9 (by kernel_rfl) (fun wq hwq => ?k6y16) (fun L9 hL9 => ?k6r16)
                  case k6y16 => (go_simp; try with_reducible rfl)
                  try simp only [Act.put, List.setIfInBounds_toArray, List.set_cons_zero, List.set_cons_succ]
                  refine quiet_take (v := .bool false) hL9 (by kernel_rfl) (fun wq hwq => ?k6y17) (fun L9 hL9 => ?k6r17)
                  case k6y17 => (have h1 := HL.out; go_simp; try with_reducible rfl; try simp [h1]; try omega)
                  try simp only [Act.put, List.setIfInBounds_toArray, List.set_cons_zero, List.set_cons_succ]
                  refine quiet_take (v := .bool false) hL9 (by kernel_rfl) (fun wq hwq => ?k6y18) (fun L9 hL9 => ?k6r18)
                  case k6y18 => (go_simp; try with_reducible rfl)
                  try simp only [Act.put, List.setIfInBounds_toArray, List.set_cons_zero, List.set_cons_succ]
                  refine quiet_take (v := .bool false) hL9 (by kernel_rfl) (fun wq hwq => ?k6y19) (fun L9 hL9 => ?k6r19)
                  case k6y19 => (go_simp; try with_reducible rfl)
                  try simp only [Act.put, List.setIfInBounds_toArray, List.set_cons_zero, List.set_cons_succ]
                  refine quiet_take (v := ?k6v20) hL9 (by kernel_rfl) (fun wq hwq => ?k6y20) (fun L9 hL9 => ?k6r20)
                  case k6y20 => (go_simp; try with_reducible rfl)
                  try simp only [Act.put, List.setIfInBounds_toArray, List.set_cons_zero, List.set_cons_succ]
                  refine quiet_take (v := dgV a) hL9 (by kernel_rfl) (fun wq hwq => ?k6y21) (fun L9 hL9 => ?k6r21)
                  case k6y21 => (obtain ⟨⟨x0, x1⟩, y0, y1⟩ := HK.out wq hwq; go_simp; try with_reducible rfl)
                  try simp only [Act.put, List.setIfInBounds_toArray, List.set_cons_zero, List.set_cons_succ]
                  refine quiet_take (v := .bool true) hL9 (by kernel_rfl) (fun wq hwq => ?k6y22) (fun L9 hL9 => ?k6r22)
                  case k6y22 => (go_simp; go_at_call 50; exact HPA.out wq hwq)
                  try simp only [Act.put, List.setIfInBounds_toArray, List.set_cons_zero, List.set_cons_succ]
                  refine quiet_take (v := .bool false) hL9 (by kernel_rfl) (fun wq hwq => ?k6y23) (fun L9 hL9 => ?k6r23)
                  case k6y23 => (go_simp; try with_reducible rfl)
                  try simp only [Act.put, List.setIfInBounds_toArray, List.set_cons_zero, List.set_cons_succ]
                  refine quiet_take (v := .bool false) hL9 (by kernel_rfl) (fun wq hwq => ?k6y24) (fun L9 hL9 => ?k6r24)
                  case k6y24 => (go_simp; try with_reducible rfl)
                  try simp only [Act.put, List.setIfInBounds_toArray, List.set_cons_zero, List.set_cons_succ]
                  refine quiet_take (v := .bool false) hL9 (by kernel_rfl) (fun wq hwq => ?k6y25) (fun L9 hL9 => ?k6r25)
                  case k6y25 => (go_simp; try with_reducible rfl)
                  try simp only [Act.put, List.setIfInBounds_toArray, List.set_cons_zero, List.set_cons_succ]
                  refine quiet_take (v := ?k6v26) hL9 (by kernel_rfl) (fun wq hwq => ?k6y26) (fun L9 hL9 => ?k6r26)
                  case k6y26 => (go_simp; try with_reducible rfl)
                  try simp only [Act.put, List.setIfInBounds_toArray, List.set_cons_zero, List.set_cons_succ]
                  refine quiet_take (v := dgV b) hL9 (by kernel_rfl) (fun wq hwq => ?k6y27) (fun L9 hL9 => ?k6r27)
                  case k6y27 => (obtain ⟨⟨x0, x1⟩, y0, y1⟩ := HK.out wq hwq; go_simp; try with_reducible rfl)
                  try simp only [Act.put, List.setIfInBounds_toArray, List.set_cons_zero, List.set_cons_succ]
                  refine quiet_take (v := .bool true) hL9 (by kernel_rfl) (fun wq hwq => ?k6y28) (fun L9 hL9 => ?k6r28)
                  case k6y28 => (go_simp; go_at_call 50; exact HPB.out wq hwq)
                  try simp only [Act.put, List.setIfInBounds_toArray, List.set_cons_zero, List.set_cons_succ]
                  refine quiet_take (v := .bool false) hL9 (by kernel_rfl) (fun wq hwq => ?k6y29) (fun L9 hL9 => ?k6r29)
                  case k6y29 => (go_simp; try with_reducible rfl)
                  try simp only [Act.put, List.setIfInBounds_toArray, List.set_cons_zero, List.set_cons_succ]
                  refine quiet_take (v := .bool false) hL9 (by kernel_rfl) (fun wq hwq => ?k6y30) (fun L9 hL9 => ?k6r30)
                  case k6y30 => (go_simp; try with_reducible rfl)
                  try simp only [Act.put, List.setIfInBounds_toArray, List.set_cons_zero, List.set_cons_succ]
                  refine quiet_take (v := .bool false) hL9 (by kernel_rfl) (fun wq hwq => ?k6y31) (fun L9 hL9 => ?k6r31)
                  case k6y31 => (go_simp; try with_reducible rfl)
                  try simp only [Act.put, List.setIfInBounds_toArray, List.set_cons_zero, List.set_cons_succ]
                  refine quiet_take (v := ?k6v32) hL9 (by kernel_rfl) (fun wq hwq => ?k6y32) (fun L9 hL9 => ?k6r32)
                  case k6y32 => (go_simp; try with_reducible rfl)
                  try simp only [Act.put, List.setIfInBounds_toArray, List.set_cons_zero, List.set_cons_succ]
                  refine quiet_take (v := ?k6v33) hL9 (by kernel_rfl) (fun wq hwq => ?k6y33) (fun L9 hL9 => ?k6r33)
                  case k6y33 => (go_simp; try with_reducible rfl)
                  try simp only [Act.put, List.setIfInBounds_toArray, List.set_cons_zero, List.set_cons_succ]
                  refine quiet_take (v := .bool false) hL9 (by kernel_rfl) (fun wq hwq => ?k6y34) (fun L9 hL9 => ?k6r34)
                  case k6y34 => (go_simp; go_at_call 43; exact HAP.out wq hwq)
                  try simp only [Act.put, List.setIfInBounds_toArray, List.set_cons_zero, List.set_cons_succ]
                  refine quiet_take (v := .bool true) hL9 (by kernel_rfl) (fun wq hwq => ?k6y35) (fun L9 hL9 => ?k6r35)
                  case k6y35 => (go_simp; try with_reducible rfl)
                  try simp only [Act.put, List.setIfInBounds_toArray, List.set_cons_zero, List.set_cons_succ]
                  refine quiet_take (v := .bool true) hL9 (by kernel_rfl) (fun wq hwq => ?k6y36) (fun L9 hL9 => ?k6r36)
                  case k6y36 => (go_simp; try with_reducible rfl)
                  try simp only [Act.put, List.setIfInBounds_toArray, List.set_cons_zero, List.set_cons_succ]
                  refine quiet_take (v := .bool true) hL9 (by kernel_rfl) (fun wq hwq => ?k6y37) (fun L9 hL9 => ?k6r37)
                  case k6y37 => (go_simp; try with_reducible rfl)
                  try simp only [Act.put, List.setIfInBounds_toArray, List.set_cons_zero, List.set_cons_succ]
                  refine quiet_skip hL9 (by kernel_rfl) (fun L9 hL9 => ?_)
                  try simp only [Act.put, List.setIfInBounds_toArray, List.set_cons_zero, List.set_cons_succ]
                  refine quiet_skip hL9 (by kernel_rfl) (fun L9 hL9 => ?_)
                  try simp only [Act.put, List.setIfInBounds_toArray, List.set_cons_zero, List.set_cons_succ]
                  refine quiet_skip hL9 (by kernel_rfl) (fun L9 hL9 => ?_)
                  try simp only [Act.put, List.setIfInBounds_toArray, List.set_cons_zero, List.set_cons_succ]
                  refine quiet_skip hL9 (by kernel_rfl) (fun L9 hL9 => ?_)
                  try simp only [Act.put, List.setIfInBounds_toArray, List.set_cons_zero, List.set_cons_succ]
                  refine quiet_take (v := .bool true) hL9 (by kernel_rfl) (fun wq hwq => ?k6y42) (fun L9 hL9 => ?k6r42)
                  case k6y42 => (go_simp; try with_reducible rfl)
                  try simp only [Act.put, List.setIfInBounds_toArray, List.set_cons_zero, List.set_cons_succ]
                  refine quiet_take (v := .bool true) hL9 (by kernel_rfl) (fun wq hwq => ?k6y43) (fun L9 hL9 => ?k6r43)
                  case k6y43 => (go_simp; try with_reducible rfl)
                  try simp only [Act.put, List.setIfInBounds_toArray, List.set_cons_zero, List.set_cons_succ]
                  refine quiet_skip hL9 (by kernel_rfl) (fun L9 hL9 => ?_)
                  try simp only [Act.put, List.setIfInBounds_toArray, List.set_cons_zero, List.set_cons_succ]
                  refine quiet_skip hL9 (by kernel_rfl) (fun L9 hL9 => ?_)
                  try simp only [Act.put, List.setIfInBounds_toArray, List.set_cons_zero, List.set_cons_succ]
                  refine quiet_skip hL9 (by kernel_rfl) (fun L9 hL9 => ?_)
                  try simp only [Act.put, List.setIfInBounds_toArray, List.set_cons_zero, List.set_cons_succ]
                  refine quiet_skip hL9 (by kernel_rfl) (fun L9 hL9 => ?_)
                  try simp only [Act.put, List.setIfInBounds_toArray, List.set_cons_zero, List.set_cons_succ]
                  refine quiet_skip hL9 (by kernel_rfl) (fun L9 hL9 => ?_)
                  try simp only [Act.put, List.setIfInBounds_toArray, List.set_cons_zero, List.set_cons_succ]
                  refine quiet_skip hL9 (by kernel_rfl) (fun L9 hL9 => ?_)
                  try simp only [Act.put, List.setIfInBounds_toArray, List.set_cons_zero, List.set_cons_succ]
                  refine quiet_skip hL9 (by kernel_rfl) (fun L9 hL9 => ?_)
                  try simp only [Act.put, List.setIfInBounds_toArray, List.set_cons_zero, List.set_cons_succ]
                  refine quiet_skip hL9 (by kernel_rfl) (fun L9 hL9 => ?_)
                  try simp only [Act.put, List.setIfInBounds_toArray, List.set_cons_zero, List.set_cons_succ]
                  refine quiet_skip hL9 (by kernel_rfl) (fun L9 hL9 => ?_)
                  try simp only [Act.put, List.setIfInBounds_toArray, List.set_cons_zero, List.set_cons_succ]
                  refine quiet_skip hL9 (by kernel_rfl) (fun L9 hL9 => ?_)
                  try simp only [Act.put, List.setIfInBounds_toArray, List.set_cons_zero, List.set_cons_succ]
                  refine quiet_skip hL9 (by kernel_rfl) (fun L9 hL9 => ?_)
                  try simp only [Act.put, List.setIfInBounds_toArray, List.set_cons_zero, List.set_cons_succ]
                  refine quiet_nil hL9 ?_
                  clear hL9
                  intro w3 hO3
                  go_wp2_with fail
                  go_meet
                  exact ⟨rfl, hO3⟩
                · have HAP := HAP0
                  rw [h6] at HAP
                  clear HAP0
                  cases h7 : okA f q
                  · have HAQ := HAQ0
                    rw [h7] at HAQ
                    clear HAQ0 HCA0 HCB0 hno h2 h3
                    refine region_keep_tail (fun wq => On u wq) 55 (by kernel_rfl) (by kernel_rfl) (On.refl HO.out.tab).drew ?_
                    simp only [List.take_succ_cons, List.take_zero, List.drop_succ_cons, List.drop_zero]
                    refine quiet_start fun L9 hL9 => ?_
                    refine quiet_take (v := ?k7v0) hL9 (by kernel_rfl) (fun wq hwq => ?k7y0) (fun L9 hL9 => ?k7r0)
                    case k7y0 => (go_simp; try with_reducible rfl)
                    try simp only [Act.put, List.setIfInBounds_toArray, List.set_cons_zero, List.set_cons_succ]
                    refine quiet_take (v := .bool true) hL9 (by kernel_rfl) (fun wq hwq => ?k7y1) (fun L9 hL9 => ?k7r1)
                    case k7y1 => (go_simp; go_at_call 42; exact HV.out wq hwq)
                    try simp only [Act.put, List.setIfInBounds_toArray, List.set_cons_zero, List.set_cons_succ]
                    refine quiet_take (v := .bool false) hL9 (by kernel_rfl) (fun wq hwq => ?k7y2) (fun L9 hL9 => ?k7r2)
                    case k7y2 => (go_simp; try with_reducible rfl)
                    try simp only [Act.put, List.setIfInBounds_toArray, List.set_cons_zero, List.set_cons_succ]
                    refine quiet_take (v := .bool false) hL9 (by kernel_rfl) (fun wq hwq => ?k7y3) (fun L9 hL9 => ?k7r3)
                    case k7y3 => (go_simp; try with_reducible rfl)
                    try simp only [Act.put, List.setIfInBounds_toArray, List.set_cons_zero, List.set_cons_succ]
                    refine quiet_take (v := ?k7v4) hL9 (by kernel_rfl) (fun wq hwq => ?k7y4) (fun L9 hL9 => ?k7r4)
                    case k7y4 => (go_simp; try with_reducible rfl)
                    try simp only [Act.put, List.setIfInBounds_toArray, List.set_cons_zero, List.set_cons_succ]
                    refine quiet_take (v := .bool false) hL9 (by kernel_rfl) (fun wq hwq => ?k7y5) (fun L9 hL9 => ?k7r5)
                    case k7y5 => (have h1 := HI.out; go_simp; try with_reducible rfl; try simp [h1]; try omega)
                    try simp only [Act.put, List.setIfInBounds_toArray, List.set_cons_zero, List.set_cons_succ]
                    refine quiet_take (v := .bool false) hL9 (by kernel_rfl) (fun wq hwq => ?k7y6) (fun L9 hL9 => ?k7r6)
                    case k7y6 => (go_simp; try with_reducible rfl)
                    try simp only [Act.put, List.setIfInBounds_toArray, List.set_cons_zero, List.set_cons_succ]
                    refine quiet_take (v := .bool false) hL9 (by kernel_rfl) (fun wq hwq => ?k7y7) (fun L9 hL9 => ?k7r7)
                    case k7y7 => (go_simp; try with_reducible rfl)
                    try simp only [Act.put, List.setIfInBounds_toArray, List.set_cons_zero, List.set_cons_succ]
                    refine quiet_take (v := ?k7v8) hL9 (by kernel_rfl) (fun wq hwq => ?k7y8) (fun L9 hL9 => ?k7r8)
                    case k7y8 => (go_simp; try with_reducible rfl)
                    try simp only [Act.put, List.setIfInBounds_toArray, List.set_cons_zero, List.set_cons_succ]
                    refine quiet_take (v := ?k7v9) hL9 (by kernel_rfl) (fun wq hwq => ?k7y9) (fun L9 hL9 => ?k7r9)
                    case k7y9 => (go_simp; try with_reducible rfl)
                    try simp only [Act.put, List.setIfInBounds_toArray, List.set_cons_zero, List.set_cons_succ]
                    refine quiet_take (v := ?k7v10) hL9 (by kernel_rfl) (fun wq hwq => ?k7y10) (fun L9 hL9 => ?k7r10)
                    case k7y10 => (go_simp; try with_reducible rfl)
                    try simp only [Act.put, List.setIfInBounds_toArray, List.set_cons_zero, List.set_cons_succ]
                    refine quiet_take (v := ?k7v11) hL9 (by kernel_rfl) (fun wq hwq => ?k7y11) (fun L9 hL9 => ?k7r11)
                    case k7y11 => (go_simp; try with_reducible rfl)
                    try simp only [Act.put, List.setIfInBounds_toArray, List.set_cons_zero, List.set_cons_succ]
                    refine quiet_take (v := .bool false) hL9 (by kernel_rfl) (fun wq hwq => ?k7y12) (fun L9 hL9 => ?k7r12)
                    case k7y12 => (have h1 := HN.out; go_simp; try with_reducible rfl; try simp [h1]; try omega)
                    try simp only [Act.put, List.setIfInBounds_toArray, List.set_cons_zero, List.set_cons_succ]
                    refine quiet_take (v := .bool false) hL9 (by kernel_rfl) (fun wq hwq => ?k7y13) (fun L9 hL9 => ?k7r13)
                    case k7y13 => (go_simp; try with_reducible rfl)
                    try simp only [Act.put, List.setIfInBounds_toArray, List.set_cons_zero, List.set_cons_succ]
                    refine quiet_take (v := .bool false) hL9 (by kernel_rfl) (fun wq hwq => ?k7y14) (fun L9 hL9 => ?k7r14)
                    case k7y14 => (go_simp; try with_reducible rfl)
                    try simp only [Act.put, List.setIfInBounds_toArray, List.set_cons_zero, List.set_cons_succ]
                    refine quiet_take (v := ?k7v15) hL9 (by kernel_rfl) (fun wq hwq => ?k7y15) (fun L9 hL9 => ?k7r15)
                    case k7y15 => (go_simp; try with_reducible rfl)
                    try simp only [Act.put, List.setIfInBounds_toArray, List.set_cons_zero, List.set_cons_succ]
                    refine quiet_take (v := ?k7v16) hL9 (by kernel_rfl) (fun wq hwq => ?k7y16) (fun L9 hL9 => ?k7r16)
                    case k7y16 => (go_simp; try with_reducible rfl)
                    try simp only [Act.put, List.setIfInBounds_toArray, List.set_cons_zero, List.set_cons_succ]
                    refine quiet_take (v := .bool false) hL9 (by kernel_rfl) (fun wq hwq => ?k7y17) (fun L9 hL9 => ?k7r17)
                    case k7y17 => (have h1 := HL.out; go_simp; try with_reducible rfl; try simp [h1]; try omega)
                    try simp only [Act.put, List.setIfInBounds_toArray, List.set_cons_zero, List.set_cons_succ]
                    refine quiet_take (v := .bool false) hL9 (by kernel_rfl) (fun wq hwq => ?k7y18) (fun L9 hL9 => ?k7r18)
                    case k7y18 => (go_simp; try with_reducible rfl)
                    try simp only [Act.put, List.setIfInBounds_toArray, List.set_cons_zero, List.set_cons_succ]
                    refine quiet_take (v := .bool false) hL9 (by kernel_rfl) (fun wq hwq => ?k7y19) (fun L9 hL9 => ?k7r19)
                    case k7y19 => (go_simp; try with_reducible rfl)
                    try simp only [Act.put, List.setIfInBounds_toArray, List.set_cons_zero, List.set_cons_succ]
                    refine quiet_take (v := ?k7v20) hL9 (by kernel_rfl) (fun wq hwq => ?k7y20) (fun L9 hL9 => ?k7r20)
                    case k7y20 => (go_simp; try with_reducible rfl)
                    try simp only [Act.put, List.setIfInBounds_toArray, List.set_cons_zero, List.set_cons_succ]
                    refine quiet_take (v := dgV a) hL9 (by kernel_rfl) (fun wq hwq => ?k7y21) (fun L9 hL9 => ?k7r21)
                    case k7y21 => (obtain ⟨⟨x0, x1⟩, y0, y1⟩ := HK.out wq hwq; go_simp; try with_reducible rfl)
                    try simp only [Act.put, List.setIfInBounds_toArray, List.set_cons_zero, List.set_cons_succ]
                    refine quiet_take (v := .bool true) hL9 (by kernel_rfl) (fun wq hwq => ?k7y22) (fun L9 hL9 => ?k7r22)
                    case k7y22 => (go_simp; go_at_call 50; exact HPA.out wq hwq)
                    try simp only [Act.put, List.setIfInBounds_toArray, List.set_cons_zero, List.set_cons_succ]
                    refine quiet_take (v := .bool false) hL9 (by kernel_rfl) (fun wq hwq => ?k7y23) (fun L9 hL9 => ?k7r23)
                    case k7y23 => (go_simp; try with_reducible rfl)
                    try simp only [Act.put, List.setIfInBounds_toArray, List.set_cons_zero, List.set_cons_succ]
                    refine quiet_take (v := .bool false) hL9 (by kernel_rfl) (fun wq hwq => ?k7y24) (fun L9 hL9 => ?k7r24)
                    case k7y24 => (go_simp; try with_reducible rfl)
                    try simp only [Act.put, List.setIfInBounds_toArray, List.set_cons_zero, List.set_cons_succ]
                    refine quiet_take (v := .bool false) hL9 (by kernel_rfl) (fun wq hwq => ?k7y25) (fun L9 hL9 => ?k7r25)
                    case k7y25 => (go_simp; try with_reducible rfl)
                    try simp only [Act.put, List.setIfInBounds_toArray, List.set_cons_zero, List.set_cons_succ]
                    refine quiet_take (v := ?k7v26) hL9 (by kernel_rfl) (fun wq hwq => ?k7y26) (fun L9 hL9 => ?k7r26)
                    case k7y26 => (go_simp; try with_reducible rfl)
                    try simp only [Act.put, List.setIfInBounds_toArray, List.set_cons_zero, List.set_cons_succ]
                    refine quiet_take (v := dgV b) hL9 (by kernel_rfl) (fun wq hwq => ?k7y27) (fun L9 hL9 => ?k7r27)
                    case k7y27 => (obtain ⟨⟨x0, x1⟩, y0, y1⟩ := HK.out wq hwq; go_simp; try with_reducible rfl)
                    try simp only [Act.put, List.setIfInBounds_toArray, List.set_cons_zero, List.set_cons_succ]
                    refine quiet_take (v := .bool true) hL9 (by kernel_rfl) (fun wq hwq => ?k7y28) (fun L9 hL9 => ?k7r28)
                    case k7y28 => (go_simp; go_at_call 50; exact HPB.out wq hwq)
                    try simp only [Act.put, List.setIfInBounds_toArray, List.set_cons_zero, List.set_cons_succ]
                    refine quiet_take (v := .bool false) hL9 (by kernel_rfl) (fun wq hwq => ?k7y29) (fun L9 hL9 => ?k7r29)
                    case k7y29 => (go_simp; try with_reducible rfl)
                    try simp only [Act.put, List.setIfInBounds_toArray, List.set_cons_zero, List.set_cons_succ]
                    refine quiet_take (v := .bool false) hL9 (by kernel_rfl) (fun wq hwq => ?k7y30) (fun L9 hL9 => ?k7r30)
                    case k7y30 => (go_simp; try with_reducible rfl)
                    try simp only [Act.put, List.setIfInBounds_toArray, List.set_cons_zero, List.set_cons_succ]
                    refine quiet_take (v := .bool false) hL9 (by kernel_rfl) (fun wq hwq => ?k7y31) (fun L9 hL9 => ?k7r31)
                    case k7y31 => (go_simp; try with_reducible rfl)
                    try simp only [Act.put, List.setIfInBounds_toArray, List.set_cons_zero, List.set_cons_succ]
                    refine quiet_take (v := ?k7v32) hL9 (by kernel_rfl) (fun wq hwq => ?k7y32) (fun L9 hL9 => ?k7r32)
                    case k7y32 => (go_simp; try with_reducible rfl)
                    try simp only [Act.put, List.setIfInBounds_toArray, List.set_cons_zero, List.set_cons_succ]
                    refine quiet_take (v := ?k7v33) hL9 (by kernel_rfl) (fun wq hwq => ?k7y33) (fun L9 hL9 => ?k7r33)
                    case k7y33 => (go_simp; try with_reducible rfl)
                    try simp only [Act.put, List.setIfInBounds_toArray, List.set_cons_zero, List.set_cons_succ]
                    refine quiet_take (v := .bool true) hL9 (by kernel_rfl) (fun wq hwq => ?k7y34) (fun L9 hL9 => ?k7r34)
                    case k7y34 => (go_simp; go_at_call 43; exact HAP.out wq hwq)
                    try simp only [Act.put, List.setIfInBounds_toArray, List.set_cons_zero, List.set_cons_succ]
                    refine quiet_take (v := .bool false) hL9 (by kernel_rfl) (fun wq hwq => ?k7y35) (fun L9 hL9 => ?k7r35)
                    case k7y35 => (go_simp; try with_reducible rfl)
                    try simp only [Act.put, List.setIfInBounds_toArray, List.set_cons_zero, List.set_cons_succ]
                    refine quiet_take (v := .bool false) hL9 (by kernel_rfl) (fun wq hwq => ?k7y36) (fun L9 hL9 => ?k7r36)
                    case k7y36 => (go_simp; try with_reducible rfl)
                    try simp only [Act.put, List.setIfInBounds_toArray, List.set_cons_zero, List.set_cons_succ]
                    refine quiet_take (v := .bool false) hL9 (by kernel_rfl) (fun wq hwq => ?k7y37) (fun L9 hL9 => ?k7r37)
                    case k7y37 => (go_simp; try with_reducible rfl)
                    try simp only [Act.put, List.setIfInBounds_toArray, List.set_cons_zero, List.set_cons_succ]
                    refine quiet_take (v := ?k7v38) hL9 (by kernel_rfl) (fun wq hwq => ?k7y38) (fun L9 hL9 => ?k7r38)
                    case k7y38 => (go_simp; try with_reducible rfl)
                    try simp only [Act.put, List.setIfInBounds_toArray, List.set_cons_zero, List.set_cons_succ]
                    refine quiet_take (v := ?k7v39) hL9 (by kernel_rfl) (fun wq hwq => ?k7y39) (fun L9 hL9 => ?k7r39)
                    case k7y39 => (go_simp; try with_reducible rfl)
                    try simp only [Act.put, List.setIfInBounds_toArray, List.set_cons_zero, List.set_cons_succ]
                    refine quiet_take (v := .bool false) hL9 (by kernel_rfl) (fun wq hwq => ?k7y40) (fun L9 hL9 => ?k7r40)
                    case k7y40 => (go_simp; go_at_call 43; exact HAQ.out wq hwq)
                    try simp only [Act.put, List.setIfInBounds_toArray, List.set_cons_zero, List.set_cons_succ]
                    refine quiet_take (v := .bool true) hL9 (by kernel_rfl) (fun wq hwq => ?k7y41) (fun L9 hL9 => ?k7r41)
                    case k7y41 => (go_simp; try with_reducible rfl)
                    try simp only [Act.put, List.setIfInBounds_toArray, List.set_cons_zero, List.set_cons_succ]
                    refine quiet_take (v := .bool true) hL9 (by kernel_rfl) (fun wq hwq => ?k7y42) (fun L9 hL9 => ?k7r42)
                    case k7y42 => (go_simp; try with_reducible rfl)
                    try simp only [Act.put, List.setIfInBounds_toArray, List.set_cons_zero, List.set_cons_succ]
                    refine quiet_take (v := .bool true) hL9 (by kernel_rfl) (fun wq hwq => ?k7y43) (fun L9 hL9 => ?k7r43)
                    case k7y43 => (go_simp; try with_reducible rfl)
                    try simp only [Act.put, List.setIfInBounds_toArray, List.set_cons_zero, List.set_cons_succ]
                    refine quiet_skip hL9 (by kernel_rfl) (fun L9 hL9 => ?_)
                    try simp only [Act.put, List.setIfInBounds_toArray, List.set_cons_zero, List.set_cons_succ]
                    refine quiet_skip hL9 (by kernel_rfl) (fun L9 hL9 => ?_)
                    try simp only [Act.put, List.setIfInBounds_toArray, List.set_cons_zero, List.set_cons_succ]
                    refine quiet_skip hL9 (by kernel_rfl) (fun L9 hL9 => ?_)
                    try simp only [Act.put, List.setIfInBounds_toArray, List.set_cons_zero, List.set_cons_succ]
                    refine quiet_skip hL9 (by kernel_rfl) (fun L9 hL9 => ?_)
                    try simp only [Act.put, List.setIfInBounds_toArray, List.set_cons_zero, List.set_cons_succ]
                    refine quiet_skip hL9 (by kernel_rfl) (fun L9 hL9 => ?_)
                    try simp only [Act.put, List.setIfInBounds_toArray, List.set_cons_zero, List.set_cons_succ]
                    refine quiet_skip hL9 (by kernel_rfl) (fun L9 hL9 => ?_)
                    try simp only [Act.put, List.setIfInBounds_toArray, List.set_cons_zero, List.set_cons_succ]
                    refine quiet_skip hL9 (by kernel_rfl) (fun L9 hL9 => ?_)
                    try simp only [Act.put, List.setIfInBounds_toArray, List.set_cons_zero, List.set_cons_succ]
                    refine quiet_skip hL9 (by kernel_rfl) (fun L9 hL9 => ?_)
                    try simp only [Act.put, List.setIfInBounds_toArray, List.set_cons_zero, List.set_cons_succ]
                    refine quiet_skip hL9 (by kernel_rfl) (fun L9 hL9 => ?_)
                    try simp only [Act.put, List.setIfInBounds_toArray, List.set_cons_zero, List.set_cons_succ]
                    refine quiet_skip hL9 (by kernel_rfl) (fun L9 hL9 => ?_)
                    try simp only [Act.put, List.setIfInBounds_toArray, List.set_cons_zero, List.set_cons_succ]
                    refine quiet_skip hL9 (by kernel_rfl) (fun L9 hL9 => ?_)
                    try simp only [Act.put, List.setIfInBounds_toArray, List.set_cons_zero, List.set_cons_succ]
                    refine quiet_nil hL9 ?_
                    clear hL9
                    intro w3 hO3
                    go_wp2_with fail
                    go_meet
                    exact ⟨rfl, hO3⟩
                  · have HAQ := HAQ0
                    rw [h7] at HAQ
                    clear HAQ0
                    have hne : climbV f i a p ≠ climbV f i b q := hno hv (by omega) h2 h3 h4 h5 h6 h7
                    have HCA := HCA0
                    have HCB := HCB0
                    generalize climbV f i a p = XA at *
                    generalize climbV f i b q = XB at *
                    have HEQ : Hid (∀ w, (Op.equalIn 10000 36 (dgV XA) (dgV XB)).run Tryd.prog w = .ok false w) := fun w => by rw [eq_dg, decide_eq_false hne]
                    clear HCA0 HCB0 hno h2 h3 hne
                    refine region_keep_tail (fun wq => On u wq) 55 (by kernel_rfl) (by kernel_rfl) (On.refl HO.out.tab).drew ?_
                    simp only [List.take_succ_cons, List.take_zero, List.drop_succ_cons, List.drop_zero]
                    refine quiet_start fun L9 hL9 => ?_
                    refine quiet_take (v := ?k8v0) hL9 (by kernel_rfl) (fun wq hwq => ?k8y0) (fun L9 hL9 => ?k8r0)
                    case k8y0 => (go_simp; try with_reducible rfl)
                    try simp only [Act.put, List.setIfInBounds_toArray, List.set_cons_zero, List.set_cons_succ]
                    refine quiet_take (v := .bool true) hL9 (by kernel_rfl) (fun wq hwq => ?k8y1) (fun L9 hL9 => ?k8r1)
                    case k8y1 => (go_simp; go_at_call 42; exact HV.out wq hwq)
                    try simp only [Act.put, List.setIfInBounds_toArray, List.set_cons_zero, List.set_cons_succ]
                    refine quiet_take (v := .bool false) hL9 (by kernel_rfl) (fun wq hwq => ?k8y2) (fun L9 hL9 => ?k8r2)
                    case k8y2 => (go_simp; try with_reducible rfl)
                    try simp only [Act.put, List.setIfInBounds_toArray, List.set_cons_zero, List.set_cons_succ]
                    refine quiet_take (v := .bool false) hL9 (by kernel_rfl) (fun wq hwq => ?k8y3) (fun L9 hL9 => ?k8r3)
                    case k8y3 => (go_simp; try with_reducible rfl)
                    try simp only [Act.put, List.setIfInBounds_toArray, List.set_cons_zero, List.set_cons_succ]
                    refine quiet_take (v := ?k8v4) hL9 (by kernel_rfl) (fun wq hwq => ?k8y4) (fun L9 hL9 => ?k8r4)
                    case k8y4 => (go_simp; try with_reducible rfl)
                    try simp only [Act.put, List.setIfInBounds_toArray, List.set_cons_zero, List.set_cons_succ]
                    refine quiet_take (v := .bool false) hL9 (by kernel_rfl) (fun wq hwq => ?k8y5) (fun L9 hL9 => ?k8r5)
                    case k8y5 => (have h1 := HI.out; go_simp; try with_reducible rfl; try simp [h1]; try omega)
                    try simp only [Act.put, List.setIfInBounds_toArray, List.set_cons_zero, List.set_cons_succ]
                    refine quiet_take (v := .bool false) hL9 (by kernel_rfl) (fun wq hwq => ?k8y6) (fun L9 hL9 => ?k8r6)
                    case k8y6 => (go_simp; try with_reducible rfl)
                    try simp only [Act.put, List.setIfInBounds_toArray, List.set_cons_zero, List.set_cons_succ]
                    refine quiet_take (v := .bool false) hL9 (by kernel_rfl) (fun wq hwq => ?k8y7) (fun L9 hL9 => ?k8r7)
                    case k8y7 => (go_simp; try with_reducible rfl)
                    try simp only [Act.put, List.setIfInBounds_toArray, List.set_cons_zero, List.set_cons_succ]
                    refine quiet_take (v := ?k8v8) hL9 (by kernel_rfl) (fun wq hwq => ?k8y8) (fun L9 hL9 => ?k8r8)
                    case k8y8 => (go_simp; try with_reducible rfl)
                    try simp only [Act.put, List.setIfInBounds_toArray, List.set_cons_zero, List.set_cons_succ]
                    refine quiet_take (v := ?k8v9) hL9 (by kernel_rfl) (fun wq hwq => ?k8y9) (fun L9 hL9 => ?k8r9)
                    case k8y9 => (go_simp; try with_reducible rfl)
                    try simp only [Act.put, List.setIfInBounds_toArray, List.set_cons_zero, List.set_cons_succ]
                    refine quiet_take (v := ?k8v10) hL9 (by kernel_rfl) (fun wq hwq => ?k8y10) (fun L9 hL9 => ?k8r10)
                    case k8y10 => (go_simp; try with_reducible rfl)
                    try simp only [Act.put, List.setIfInBounds_toArray, List.set_cons_zero, List.set_cons_succ]
                    refine quiet_take (v := ?k8v11) hL9 (by kernel_rfl) (fun wq hwq => ?k8y11) (fun L9 hL9 => ?k8r11)
                    case k8y11 => (go_simp; try with_reducible rfl)
                    try simp only [Act.put, List.setIfInBounds_toArray, List.set_cons_zero, List.set_cons_succ]
                    refine quiet_take (v := .bool false) hL9 (by kernel_rfl) (fun wq hwq => ?k8y12) (fun L9 hL9 => ?k8r12)
                    case k8y12 => (have h1 := HN.out; go_simp; try with_reducible rfl; try simp [h1]; try omega)
                    try simp only [Act.put, List.setIfInBounds_toArray, List.set_cons_zero, List.set_cons_succ]
                    refine quiet_take (v := .bool false) hL9 (by kernel_rfl) (fun wq hwq => ?k8y13) (fun L9 hL9 => ?k8r13)
                    case k8y13 => (go_simp; try with_reducible rfl)
                    try simp only [Act.put, List.setIfInBounds_toArray, List.set_cons_zero, List.set_cons_succ]
                    refine quiet_take (v := .bool false) hL9 (by kernel_rfl) (fun wq hwq => ?k8y14) (fun L9 hL9 => ?k8r14)
                    case k8y14 => (go_simp; try with_reducible rfl)
                    try simp only [Act.put, List.setIfInBounds_toArray, List.set_cons_zero, List.set_cons_succ]
                    refine quiet_take (v := ?k8v15) hL9 (by kernel_rfl) (fun wq hwq => ?k8y15) (fun L9 hL9 => ?k8r15)
                    case k8y15 => (go_simp; try with_reducible rfl)
                    try simp only [Act.put, List.setIfInBounds_toArray, List.set_cons_zero, List.set_cons_succ]
                    refine quiet_take (v := ?k8v16) hL9 (by kernel_rfl) (fun wq hwq => ?k8y16) (fun L9 hL9 => ?k8r16)
                    case k8y16 => (go_simp; try with_reducible rfl)
                    try simp only [Act.put, List.setIfInBounds_toArray, List.set_cons_zero, List.set_cons_succ]
                    refine quiet_take (v := .bool false) hL9 (by kernel_rfl) (fun wq hwq => ?k8y17) (fun L9 hL9 => ?k8r17)
                    case k8y17 => (have h1 := HL.out; go_simp; try with_reducible rfl; try simp [h1]; try omega)
                    try simp only [Act.put, List.setIfInBounds_toArray, List.set_cons_zero, List.set_cons_succ]
                    refine quiet_take (v := .bool false) hL9 (by kernel_rfl) (fun wq hwq => ?k8y18) (fun L9 hL9 => ?k8r18)
                    case k8y18 => (go_simp; try with_reducible rfl)
                    try simp only [Act.put, List.setIfInBounds_toArray, List.set_cons_zero, List.set_cons_succ]
                    refine quiet_take (v := .bool false) hL9 (by kernel_rfl) (fun wq hwq => ?k8y19) (fun L9 hL9 => ?k8r19)
                    case k8y19 => (go_simp; try with_reducible rfl)
                    try simp only [Act.put, List.setIfInBounds_toArray, List.set_cons_zero, List.set_cons_succ]
                    refine quiet_take (v := ?k8v20) hL9 (by kernel_rfl) (fun wq hwq => ?k8y20) (fun L9 hL9 => ?k8r20)
                    case k8y20 => (go_simp; try with_reducible rfl)
                    try simp only [Act.put, List.setIfInBounds_toArray, List.set_cons_zero, List.set_cons_succ]
                    refine quiet_take (v := dgV a) hL9 (by kernel_rfl) (fun wq hwq => ?k8y21) (fun L9 hL9 => ?k8r21)
                    case k8y21 => (obtain ⟨⟨x0, x1⟩, y0, y1⟩ := HK.out wq hwq; go_simp; try with_reducible rfl)
                    try simp only [Act.put, List.setIfInBounds_toArray, List.set_cons_zero, List.set_cons_succ]
                    refine quiet_take (v := .bool true) hL9 (by kernel_rfl) (fun wq hwq => ?k8y22) (fun L9 hL9 => ?k8r22)
                    case k8y22 => (go_simp; go_at_call 50; exact HPA.out wq hwq)
                    try simp only [Act.put, List.setIfInBounds_toArray, List.set_cons_zero, List.set_cons_succ]
                    refine quiet_take (v := .bool false) hL9 (by kernel_rfl) (fun wq hwq => ?k8y23) (fun L9 hL9 => ?k8r23)
                    case k8y23 => (go_simp; try with_reducible rfl)
                    try simp only [Act.put, List.setIfInBounds_toArray, List.set_cons_zero, List.set_cons_succ]
                    refine quiet_take (v := .bool false) hL9 (by kernel_rfl) (fun wq hwq => ?k8y24) (fun L9 hL9 => ?k8r24)
                    case k8y24 => (go_simp; try with_reducible rfl)
                    try simp only [Act.put, List.setIfInBounds_toArray, List.set_cons_zero, List.set_cons_succ]
                    refine quiet_take (v := .bool false) hL9 (by kernel_rfl) (fun wq hwq => ?k8y25) (fun L9 hL9 => ?k8r25)
                    case k8y25 => (go_simp; try with_reducible rfl)
                    try simp only [Act.put, List.setIfInBounds_toArray, List.set_cons_zero, List.set_cons_succ]
                    refine quiet_take (v := ?k8v26) hL9 (by kernel_rfl) (fun wq hwq => ?k8y26) (fun L9 hL9 => ?k8r26)
                    case k8y26 => (go_simp; try with_reducible rfl)
                    try simp only [Act.put, List.setIfInBounds_toArray, List.set_cons_zero, List.set_cons_succ]
                    refine quiet_take (v := dgV b) hL9 (by kernel_rfl) (fun wq hwq => ?k8y27) (fun L9 hL9 => ?k8r27)
                    case k8y27 => (obtain ⟨⟨x0, x1⟩, y0, y1⟩ := HK.out wq hwq; go_simp; try with_reducible rfl)
                    try simp only [Act.put, List.setIfInBounds_toArray, List.set_cons_zero, List.set_cons_succ]
                    refine quiet_take (v := .bool true) hL9 (by kernel_rfl) (fun wq hwq => ?k8y28) (fun L9 hL9 => ?k8r28)
                    case k8y28 => (go_simp; go_at_call 50; exact HPB.out wq hwq)
                    try simp only [Act.put, List.setIfInBounds_toArray, List.set_cons_zero, List.set_cons_succ]
                    refine quiet_take (v := .bool false) hL9 (by kernel_rfl) (fun wq hwq => ?k8y29) (fun L9 hL9 => ?k8r29)
                    case k8y29 => (go_simp; try with_reducible rfl)
                    try simp only [Act.put, List.setIfInBounds_toArray, List.set_cons_zero, List.set_cons_succ]
                    refine quiet_take (v := .bool false) hL9 (by kernel_rfl) (fun wq hwq => ?k8y30) (fun L9 hL9 => ?k8r30)
                    case k8y30 => (go_simp; try with_reducible rfl)
                    try simp only [Act.put, List.setIfInBounds_toArray, List.set_cons_zero, List.set_cons_succ]
                    refine quiet_take (v := .bool false) hL9 (by kernel_rfl) (fun wq hwq => ?k8y31) (fun L9 hL9 => ?k8r31)
                    case k8y31 => (go_simp; try with_reducible rfl)
                    try simp only [Act.put, List.setIfInBounds_toArray, List.set_cons_zero, List.set_cons_succ]
                    refine quiet_take (v := ?k8v32) hL9 (by kernel_rfl) (fun wq hwq => ?k8y32) (fun L9 hL9 => ?k8r32)
                    case k8y32 => (go_simp; try with_reducible rfl)
                    try simp only [Act.put, List.setIfInBounds_toArray, List.set_cons_zero, List.set_cons_succ]
                    refine quiet_take (v := ?k8v33) hL9 (by kernel_rfl) (fun wq hwq => ?k8y33) (fun L9 hL9 => ?k8r33)
                    case k8y33 => (go_simp; try with_reducible rfl)
                    try simp only [Act.put, List.setIfInBounds_toArray, List.set_cons_zero, List.set_cons_succ]
                    refine quiet_take (v := .bool true) hL9 (by kernel_rfl) (fun wq hwq => ?k8y34) (fun L9 hL9 => ?k8r34)
                    case k8y34 => (go_simp; go_at_call 43; exact HAP.out wq hwq)
                    try simp only [Act.put, List.setIfInBounds_toArray, List.set_cons_zero, List.set_cons_succ]
                    refine quiet_take (v := .bool false) hL9 (by kernel_rfl) (fun wq hwq => ?k8y35) (fun L9 hL9 => ?k8r35)
                    case k8y35 => (go_simp; try with_reducible rfl)
                    try simp only [Act.put, List.setIfInBounds_toArray, List.set_cons_zero, List.set_cons_succ]
                    refine quiet_take (v := .bool false) hL9 (by kernel_rfl) (fun wq hwq => ?k8y36) (fun L9 hL9 => ?k8r36)
                    case k8y36 => (go_simp; try with_reducible rfl)
                    try simp only [Act.put, List.setIfInBounds_toArray, List.set_cons_zero, List.set_cons_succ]
                    refine quiet_take (v := .bool false) hL9 (by kernel_rfl) (fun wq hwq => ?k8y37) (fun L9 hL9 => ?k8r37)
                    case k8y37 => (go_simp; try with_reducible rfl)
                    try simp only [Act.put, List.setIfInBounds_toArray, List.set_cons_zero, List.set_cons_succ]
                    refine quiet_take (v := ?k8v38) hL9 (by kernel_rfl) (fun wq hwq => ?k8y38) (fun L9 hL9 => ?k8r38)
                    case k8y38 => (go_simp; try with_reducible rfl)
                    try simp only [Act.put, List.setIfInBounds_toArray, List.set_cons_zero, List.set_cons_succ]
                    refine quiet_take (v := ?k8v39) hL9 (by kernel_rfl) (fun wq hwq => ?k8y39) (fun L9 hL9 => ?k8r39)
                    case k8y39 => (go_simp; try with_reducible rfl)
                    try simp only [Act.put, List.setIfInBounds_toArray, List.set_cons_zero, List.set_cons_succ]
                    refine quiet_take (v := .bool true) hL9 (by kernel_rfl) (fun wq hwq => ?k8y40) (fun L9 hL9 => ?k8r40)
                    case k8y40 => (go_simp; go_at_call 43; exact HAQ.out wq hwq)
                    try simp only [Act.put, List.setIfInBounds_toArray, List.set_cons_zero, List.set_cons_succ]
                    refine quiet_take (v := .bool false) hL9 (by kernel_rfl) (fun wq hwq => ?k8y41) (fun L9 hL9 => ?k8r41)
                    case k8y41 => (go_simp; try with_reducible rfl)
                    try simp only [Act.put, List.setIfInBounds_toArray, List.set_cons_zero, List.set_cons_succ]
                    refine quiet_take (v := .bool false) hL9 (by kernel_rfl) (fun wq hwq => ?k8y42) (fun L9 hL9 => ?k8r42)
                    case k8y42 => (go_simp; try with_reducible rfl)
                    try simp only [Act.put, List.setIfInBounds_toArray, List.set_cons_zero, List.set_cons_succ]
                    refine quiet_take (v := .bool false) hL9 (by kernel_rfl) (fun wq hwq => ?k8y43) (fun L9 hL9 => ?k8r43)
                    case k8y43 => (go_simp; try with_reducible rfl)
                    try simp only [Act.put, List.setIfInBounds_toArray, List.set_cons_zero, List.set_cons_succ]
                    refine quiet_take (v := ?k8v44) hL9 (by kernel_rfl) (fun wq hwq => ?k8y44) (fun L9 hL9 => ?k8r44)
                    case k8y44 => (go_simp; try with_reducible rfl)
                    try simp only [Act.put, List.setIfInBounds_toArray, List.set_cons_zero, List.set_cons_succ]
                    refine quiet_take (v := ?k8v45) hL9 (by kernel_rfl) (fun wq hwq => ?k8y45) (fun L9 hL9 => ?k8r45)
                    case k8y45 => (go_simp; try with_reducible rfl)
                    try simp only [Act.put, List.setIfInBounds_toArray, List.set_cons_zero, List.set_cons_succ]
                    refine quiet_take (v := dgV a) hL9 (by kernel_rfl) (fun wq hwq => ?k8y46) (fun L9 hL9 => ?k8r46)
                    case k8y46 => (obtain ⟨⟨x0, x1⟩, y0, y1⟩ := HK.out wq hwq; go_simp; try with_reducible rfl)
                    try simp only [Act.put, List.setIfInBounds_toArray, List.set_cons_zero, List.set_cons_succ]
                    refine quiet_take (v := ?k8v47) hL9 (by kernel_rfl) (fun wq hwq => ?k8y47) (fun L9 hL9 => ?k8r47)
                    case k8y47 => (go_simp; try with_reducible rfl)
                    try simp only [Act.put, List.setIfInBounds_toArray, List.set_cons_zero, List.set_cons_succ]
                    refine quiet_take (v := dgV XA) hL9 (by kernel_rfl) (fun wq hwq => ?k8y48) (fun L9 hL9 => ?k8r48)
                    case k8y48 => (go_simp; go_at_call 28; exact HCA.out wq hwq)
                    try simp only [Act.put, List.setIfInBounds_toArray, List.set_cons_zero, List.set_cons_succ]
                    refine quiet_take (v := ?k8v49) hL9 (by kernel_rfl) (fun wq hwq => ?k8y49) (fun L9 hL9 => ?k8r49)
                    case k8y49 => (go_simp; try with_reducible rfl)
                    try simp only [Act.put, List.setIfInBounds_toArray, List.set_cons_zero, List.set_cons_succ]
                    refine quiet_take (v := ?k8v50) hL9 (by kernel_rfl) (fun wq hwq => ?k8y50) (fun L9 hL9 => ?k8r50)
                    case k8y50 => (go_simp; try with_reducible rfl)
                    try simp only [Act.put, List.setIfInBounds_toArray, List.set_cons_zero, List.set_cons_succ]
                    refine quiet_take (v := dgV b) hL9 (by kernel_rfl) (fun wq hwq => ?k8y51) (fun L9 hL9 => ?k8r51)
                    case k8y51 => (obtain ⟨⟨x0, x1⟩, y0, y1⟩ := HK.out wq hwq; go_simp; try with_reducible rfl)
                    try simp only [Act.put, List.setIfInBounds_toArray, List.set_cons_zero, List.set_cons_succ]
                    refine quiet_take (v := ?k8v52) hL9 (by kernel_rfl) (fun wq hwq => ?k8y52) (fun L9 hL9 => ?k8r52)
                    case k8y52 => (go_simp; try with_reducible rfl)
                    try simp only [Act.put, List.setIfInBounds_toArray, List.set_cons_zero, List.set_cons_succ]
                    refine quiet_take (v := dgV XB) hL9 (by kernel_rfl) (fun wq hwq => ?k8y53) (fun L9 hL9 => ?k8r53)
                    case k8y53 => (go_simp; go_at_call 28; exact HCB.out wq hwq)
                    try simp only [Act.put, List.setIfInBounds_toArray, List.set_cons_zero, List.set_cons_succ]
                    refine quiet_take (v := .bool true) hL9 (by kernel_rfl) (fun wq hwq => ?k8y54) (fun L9 hL9 => ?k8r54)
                    case k8y54 => (have hq := HEQ.out; go_simp; try with_reducible rfl)
                    try simp only [Act.put, List.setIfInBounds_toArray, List.set_cons_zero, List.set_cons_succ]
                    refine quiet_nil hL9 ?_
                    clear hL9
                    intro w3 hO3
                    go_wp2_with fail
                    go_meet
                    exact ⟨rfl, hO3⟩
  case rest =>
    obtain ⟨rfl, HO3⟩ := hcut
    have hO3 := HO3.out
    clear HO3 HV0 HPA0 HPB0 HAP0 HAQ0 HCA0 HCB0 hno
    rename World => w3
    have HZ := Lib.hid (HZB.out.on hO3)
    have HB1 := Lib.hid (HR1.out.on hO3)
    have HB2 := Lib.hid (HR2.out.on hO3)
    have HO3 := Lib.hid (HO.out.trans hO3)
    clear hO3
    go_upto_region 3 with fail
    obtain ⟨g0, g1, g2, g3⟩ := HZ.out.cells4
    simp only [pst, ix] at g0 g1 g2 g3
    obtain ⟨r0, r1, r2, r3⟩ := HB1.out.free4
    obtain ⟨s0, s1, s2, s3⟩ := HB2.out.free4
    obtain ⟨j0, j1, j2, j3⟩ := HB1.out.cells4
    obtain ⟨m0, m1, m2, m3⟩ := HB2.out.cells4
    have hst : Blk (n0 + 1 + 1) ((((((((w3.setCell ⟨n0 + 1 + 1, 0, none⟩ (.int .u64 ((Z.1.1 : Nat) : Int))).setCell ⟨n0 + 1 + 1, 1, none⟩ (.int .u64 ((Z.1.2 : Nat) : Int))).setCell ⟨n0 + 1 + 1, 2, none⟩ (.int .u64 ((Z.2.1 : Nat) : Int))).setCell ⟨n0 + 1 + 1, 3, none⟩ (.int .u64 ((Z.2.2 : Nat) : Int))).setCell ⟨n0 + 1 + 1 + 1, 0, none⟩ (.int .u64 ((Z.1.1 : Nat) : Int))).setCell ⟨n0 + 1 + 1 + 1, 1, none⟩ (.int .u64 ((Z.1.2 : Nat) : Int))).setCell ⟨n0 + 1 + 1 + 1, 2, none⟩ (.int .u64 ((Z.2.1 : Nat) : Int))).setCell ⟨n0 + 1 + 1 + 1, 3, none⟩ (.int .u64 ((Z.2.2 : Nat) : Int))) (fl4 (ix (pst Z))) ∧ Blk (n0 + 1 + 1 + 1) ((((((((w3.setCell ⟨n0 + 1 + 1, 0, none⟩ (.int .u64 ((Z.1.1 : Nat) : Int))).setCell ⟨n0 + 1 + 1, 1, none⟩ (.int .u64 ((Z.1.2 : Nat) : Int))).setCell ⟨n0 + 1 + 1, 2, none⟩ (.int .u64 ((Z.2.1 : Nat) : Int))).setCell ⟨n0 + 1 + 1, 3, none⟩ (.int .u64 ((Z.2.2 : Nat) : Int))).setCell ⟨n0 + 1 + 1 + 1, 0, none⟩ (.int .u64 ((Z.1.1 : Nat) : Int))).setCell ⟨n0 + 1 + 1 + 1, 1, none⟩ (.int .u64 ((Z.1.2 : Nat) : Int))).setCell ⟨n0 + 1 + 1 + 1, 2, none⟩ (.int .u64 ((Z.2.1 : Nat) : Int))).setCell ⟨n0 + 1 + 1 + 1, 3, none⟩ (.int .u64 ((Z.2.2 : Nat) : Int))) (fl4 (ix (pst Z))) := ⟨(HB1.out.store4 (pst Z)).other4 (C := n0 + 1 + 1 + 1) (by omega) _ _ _ _, (HB2.out.other4 (C := n0 + 1 + 1) (by omega) _ _ _ _).store4 (pst Z)⟩
    have HST := Lib.hid hst
    have HOX : Hid (On w ((((((((w3.setCell ⟨n0 + 1 + 1, 0, none⟩ (.int .u64 ((Z.1.1 : Nat) : Int))).setCell ⟨n0 + 1 + 1, 1, none⟩ (.int .u64 ((Z.1.2 : Nat) : Int))).setCell ⟨n0 + 1 + 1, 2, none⟩ (.int .u64 ((Z.2.1 : Nat) : Int))).setCell ⟨n0 + 1 + 1, 3, none⟩ (.int .u64 ((Z.2.2 : Nat) : Int))).setCell ⟨n0 + 1 + 1 + 1, 0, none⟩ (.int .u64 ((Z.1.1 : Nat) : Int))).setCell ⟨n0 + 1 + 1 + 1, 1, none⟩ (.int .u64 ((Z.1.2 : Nat) : Int))).setCell ⟨n0 + 1 + 1 + 1, 2, none⟩ (.int .u64 ((Z.2.1 : Nat) : Int))).setCell ⟨n0 + 1 + 1 + 1, 3, none⟩ (.int .u64 ((Z.2.2 : Nat) : Int))).drew) := Lib.hid (((HO3.out.store4 (C := n0 + 1 + 1) (by have := HNW.out; omega) _ _ _ _).store4 (C := n0 + 1 + 1 + 1) (by have := HNW.out; omega) _ _ _ _).drew)
    clear hst
    go_region_with (fail)
    all_goals clear g0 g1 g2 g3 j0 j1 j2 j3 m0 m1 m2 m3 r0 r1 r2 r3 s0 s1 s2 s3
    all_goals go_wp2
    all_goals obtain ⟨p0, p1, p2, p3⟩ := HST.out.1.cells4
    all_goals obtain ⟨q0, q1, q2, q3⟩ := HST.out.2.cells4
    all_goals simp only [pst, ix] at p0 p1 p2 p3 q0 q1 q2 q3
    all_goals refine bodyPost_ret (v := .tuple #[prV Z, prV Z, .bool false]) (by simp [results, Tryd.results32, go_sem, p0, p1, p2, p3, q0, q1, q2, q3]; try rfl) rfl ?_
    all_goals exact ⟨rfl, HOX.out⟩
end Go.Proofs.YtnmfneeojnmebaaDoor
