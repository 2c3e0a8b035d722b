/- The document's trees: Clash, the good case: what the call returns. -/
import Derived.Test.YtnmfneeojnmebaaDoorKt28
import Derived.Test.YtnmfneeojnmebaaDoorKt19
import Derived.Deep.DeepCutAuto
import Derived.Deep.CutRange
set_option linter.unusedSimpArgs false
set_option linter.unusedVariables false
/- The document's trees: Clash, the good case: what the call returns. -/
namespace Go.Proofs.YtnmfneeojnmebaaDoor
open Go.RowKit
set_option linter.unusedVariables false
set_option linter.unusedSimpArgs false

section
variable {P : Program} {ops : Array Oper} {md : Region.Mode} {S : World → Prop} {Q : Exit → Act → World → Prop}
/-- One of three may come up. -/
theorem HeadG.fork3c {n g f i j k : Nat} {oi oj ok : Oper} {done : Array Bool} {a : Act} {w : World} (hoi : ops[i]? = some oi) (hoj : ops[j]? = some oj) (hok : ops[k]? = some ok) (hr : Region.ready md ops done = [i, j, k])
    (hin : decide (i < n) = true) (hjn : decide (j < n) = true) (hkn : decide (k < n) = true)
    (hi : ∀ K' : Act → World → Prop, Shut (∀ a w, S w → HeadG P md ops Q S n g f (done.setIfInBounds i true) a w → K' a w) → if Region.wanted oi (yielded ops a.tmps) = true then Oper.wp P oi a w K' Q else K' (a.put oi.dst undef) w)
    (hj : ∀ K' : Act → World → Prop, Shut (∀ a w, S w → HeadG P md ops Q S n g f (done.setIfInBounds j true) a w → K' a w) → if Region.wanted oj (yielded ops a.tmps) = true then Oper.wp P oj a w K' Q else K' (a.put oj.dst undef) w)
    (hk : ∀ K' : Act → World → Prop, Shut (∀ a w, S w → HeadG P md ops Q S n g f (done.setIfInBounds k true) a w → K' a w) → if Region.wanted ok (yielded ops a.tmps) = true then Oper.wp P ok a w K' Q else K' (a.put ok.dst undef) w) :
    HeadG P md ops Q S n g (f + 1) done a w := fun inv => by
  have hin' : i < n := by simpa using hin
  have hjn' : j < n := by simpa using hjn
  have hkn' : k < n := by simpa using hkn
  have hmi : i ∈ Region.ready md ops done := by rw [hr]; simp
  have hmj : j ∈ Region.ready md ops done := by rw [hr]; simp
  have hmk : k ∈ Region.ready md ops done := by rw [hr]; simp
  refine ⟨by rw [hr]; simp, fun x hx => ?_⟩
  rw [hr] at hx
  rcases List.mem_cons.1 hx with rfl | hx
  · exact ⟨hin', wpOp_step hoi (fun K' hK => hi K' (fun a w hS hW => hK a w ⟨hS, hW (inv.set hmi hin')⟩))⟩
  rcases List.mem_cons.1 hx with rfl | hx
  · exact ⟨hjn', wpOp_step hoj (fun K' hK => hj K' (fun a w hS hW => hK a w ⟨hS, hW (inv.set hmj hjn')⟩))⟩
  · rw [List.mem_singleton] at hx
    subst hx
    exact ⟨hkn', wpOp_step hok (fun K' hK => hk K' (fun a w hS hW => hK a w ⟨hS, hW (inv.set hmk hkn')⟩))⟩
end
/-- The memory of the document's Clash. -/
structure RC (n0 X Y : Nat) (x y : Dg) (P1 P2 Z : Dg × Dg) (w : World) : Prop where
  ta : Blk n0 w [x.1, x.2]
  tb : Blk (n0 + 1) w [y.1, y.2]
  r1 : Blk (n0 + 1 + 1) w (fl4 (ix (pst Z)))
  r2 : Blk (n0 + 1 + 1 + 1) w (fl4 (ix (pst Z)))
  bx : Blk X w (fl4 (ix (pst P1)))
  by_ : Blk Y w (fl4 (ix (pst P2)))
structure RR (n0 : Nat) (P1 P2 : Dg × Dg) (w : World) : Prop where
  r1 : Blk (n0 + 1 + 1) w (fl4 (ix (pst P1)))
  r2 : Blk (n0 + 1 + 1 + 1) w (fl4 (ix (pst P2)))
section
variable {n0 X Y : Nat} {x y : Dg} {P1 P2 Z : Dg × Dg} {w w' : World}
theorem RC.on (h : RC n0 X Y x y P1 P2 Z w) (k : On w w') : RC n0 X Y x y P1 P2 Z w' := ⟨h.ta.on k, h.tb.on k, h.r1.on k, h.r2.on k, h.bx.on k, h.by_.on k⟩
theorem RC.putA (h : RC n0 X Y x y P1 P2 Z w) (hX : n0 + 5 ≤ X) (hY : n0 + 5 ≤ Y) (z : Dg) : RC n0 X Y z y P1 P2 Z ((w.setCell ⟨n0, 0, none⟩ (.int .u64 ((z.1 : Nat) : Int))).setCell ⟨n0, 1, none⟩ (.int .u64 ((z.2 : Nat) : Int))) := by
  have k := ap2 n0 w (.int .u64 ((z.1 : Nat) : Int)) (.int .u64 ((z.2 : Nat) : Int))
  exact ⟨h.ta.store2 z.1 z.2, h.tb.ap k (by omega), h.r1.ap k (by omega), h.r2.ap k (by omega), h.bx.ap k (by omega), h.by_.ap k (by omega)⟩
theorem RC.putB (h : RC n0 X Y x y P1 P2 Z w) (hX : n0 + 5 ≤ X) (hY : n0 + 5 ≤ Y) (z : Dg) : RC n0 X Y x z P1 P2 Z ((w.setCell ⟨n0 + 1, 0, none⟩ (.int .u64 ((z.1 : Nat) : Int))).setCell ⟨n0 + 1, 1, none⟩ (.int .u64 ((z.2 : Nat) : Int))) := by
  have k := ap2 (n0 + 1) w (.int .u64 ((z.1 : Nat) : Int)) (.int .u64 ((z.2 : Nat) : Int))
  exact ⟨h.ta.ap k (by omega), h.tb.store2 z.1 z.2, h.r1.ap k (by omega), h.r2.ap k (by omega), h.bx.ap k (by omega), h.by_.ap k (by omega)⟩
theorem RC.putX (h : RC n0 X Y x y P1 P2 Z w) (hXY : X ≠ Y) (hX : n0 + 5 ≤ X) (Q : Dg × Dg) : RC n0 X Y x y Q P2 Z ((((w.setCell ⟨X, 0, none⟩ (.int .u64 ((Q.1.1 : Nat) : Int))).setCell ⟨X, 1, none⟩ (.int .u64 ((Q.1.2 : Nat) : Int))).setCell ⟨X, 2, none⟩ (.int .u64 ((Q.2.1 : Nat) : Int))).setCell ⟨X, 3, none⟩ (.int .u64 ((Q.2.2 : Nat) : Int))) := by
  have k := ap4 X w (.int .u64 ((Q.1.1 : Nat) : Int)) (.int .u64 ((Q.1.2 : Nat) : Int)) (.int .u64 ((Q.2.1 : Nat) : Int)) (.int .u64 ((Q.2.2 : Nat) : Int))
  exact ⟨h.ta.ap k (by omega), h.tb.ap k (by omega), h.r1.ap k (by omega), h.r2.ap k (by omega), h.bx.store4 (pst Q), h.by_.ap k (by omega)⟩
theorem RC.putY (h : RC n0 X Y x y P1 P2 Z w) (hXY : X ≠ Y) (hY : n0 + 5 ≤ Y) (Q : Dg × Dg) : RC n0 X Y x y P1 Q Z ((((w.setCell ⟨Y, 0, none⟩ (.int .u64 ((Q.1.1 : Nat) : Int))).setCell ⟨Y, 1, none⟩ (.int .u64 ((Q.1.2 : Nat) : Int))).setCell ⟨Y, 2, none⟩ (.int .u64 ((Q.2.1 : Nat) : Int))).setCell ⟨Y, 3, none⟩ (.int .u64 ((Q.2.2 : Nat) : Int))) := by
  have k := ap4 Y w (.int .u64 ((Q.1.1 : Nat) : Int)) (.int .u64 ((Q.1.2 : Nat) : Int)) (.int .u64 ((Q.2.1 : Nat) : Int)) (.int .u64 ((Q.2.2 : Nat) : Int))
  exact ⟨h.ta.ap k (by omega), h.tb.ap k (by omega), h.r1.ap k (by omega), h.r2.ap k (by omega), h.bx.ap k (by omega), h.by_.store4 (pst Q)⟩
theorem RC.put1 (h : RC n0 X Y x y P1 P2 Z w) (Q : Dg × Dg) : RR n0 Q Z ((((w.setCell ⟨n0 + 1 + 1, 0, none⟩ (.int .u64 ((Q.1.1 : Nat) : Int))).setCell ⟨n0 + 1 + 1, 1, none⟩ (.int .u64 ((Q.1.2 : Nat) : Int))).setCell ⟨n0 + 1 + 1, 2, none⟩ (.int .u64 ((Q.2.1 : Nat) : Int))).setCell ⟨n0 + 1 + 1, 3, none⟩ (.int .u64 ((Q.2.2 : Nat) : Int))) := ⟨h.r1.store4 (pst Q), h.r2.other4 (C := n0 + 1 + 1) (by omega) _ _ _ _⟩
theorem RR.put2 (h : RR n0 P1 Z w) (Q : Dg × Dg) : RR n0 P1 Q ((((w.setCell ⟨n0 + 1 + 1 + 1, 0, none⟩ (.int .u64 ((Q.1.1 : Nat) : Int))).setCell ⟨n0 + 1 + 1 + 1, 1, none⟩ (.int .u64 ((Q.1.2 : Nat) : Int))).setCell ⟨n0 + 1 + 1 + 1, 2, none⟩ (.int .u64 ((Q.2.1 : Nat) : Int))).setCell ⟨n0 + 1 + 1 + 1, 3, none⟩ (.int .u64 ((Q.2.2 : Nat) : Int))) := ⟨h.r1.other4 (C := n0 + 1 + 1 + 1) (by omega) _ _ _ _, h.r2.store4 (pst Q)⟩
end
set_option maxHeartbeats 4000000 in
set_option maxRecDepth 100000 in
theorem rclash_yes (f : Int) (i : Nat) (a b : Dg) (p q : List Dg) (pv qv : Value) (w : World) (hT : Tab w) (ha : SmD a) (hb : SmD b) (hP : DR w pv p) (hQ : DR w qv q) (hi : i ≤ 9223372036854775807) (hlq : p.length = q.length) (hop : opnB f (i : Int) a p = true) (hoq : opnB f (i : Int) b q = true) (hcl : clF f i a p p.length = clF f i b q q.length) :
    Calls Tryd.prog 32 #[.int .i64 f, .int .i64 (i : Int), dgV a, dgV b, pv, qv] w fun e w' => e = .returned (clV (csF f i a b p q p.length)) ∧ On w w' := by
  obtain ⟨pa, pc, rfl⟩ := hP.shape
  obtain ⟨qa, qc, rfl⟩ := hQ.shape
  obtain ⟨n0, hn0⟩ : ∃ n0, n0 = w.heap.size := ⟨_, rfl⟩
  obtain ⟨u0, hu0, hB⟩ := cl_new hT a b n0 hn0
  have hou := hB.2.2.2.2.1
  have hal : On u0 (u0.alloc (.cells #[.int .u64 0, .int .u64 0, .int .u64 0, .int .u64 0] 48)) := (On.refl hou.tab).alloc _
  have hzb : Blk (n0 + 1 + 1 + 1 + 1) (u0.alloc (.cells #[.int .u64 0, .int .u64 0, .int .u64 0, .int .u64 0] 48)) (fl4 (ix (pst (zD, zD)))) := by
    have h := blk_new4 u0 0 0 0 0 48
    rw [hB.2.2.2.2.2] at h
    exact h
  obtain ⟨u, hu⟩ : ∃ u, u = u0.alloc (.cells #[.int .u64 0, .int .u64 0, .int .u64 0, .int .u64 0] 48) := ⟨_, rfl⟩
  have HO : Hid (On w u) := by rw [hu]; exact hou.trans hal
  have HSU : Hid (u.heap.size = n0 + 1 + 1 + 1 + 1 + 1) := by
    have e : (u0.alloc (.cells #[.int .u64 0, .int .u64 0, .int .u64 0, .int .u64 0] 48)).heap.size = u0.heap.size + 1 := by simp
    refine Lib.hid ?_
    rw [hu, e, hB.2.2.2.2.2]
  have HTA : Hid (Blk n0 u [a.1, a.2]) := by rw [hu]; exact hB.1.on hal
  have HTB : Hid (Blk (n0 + 1) u [b.1, b.2]) := by rw [hu]; exact hB.2.1.on hal
  obtain ⟨Z, hZ⟩ : ∃ Z : Dg × Dg, Z = (zD, zD) := ⟨_, rfl⟩
  have HR1 : Hid (Blk (n0 + 1 + 1) u (fl4 (ix (pst Z)))) := by rw [hu, hZ]; exact hB.2.2.1.on hal
  have HR2 : Hid (Blk (n0 + 1 + 1 + 1) u (fl4 (ix (pst Z)))) := by rw [hu, hZ]; exact hB.2.2.2.1.on hal
  have HZB : Hid (Blk (n0 + 1 + 1 + 1 + 1) u (fl4 (ix (pst Z)))) := by rw [hu, hZ]; exact hzb
  have HNW : Hid (w.heap.size ≤ n0) := by rw [hn0]; exact Nat.le_refl _
  rw [hu0] at hu
  have HU := Lib.hid hu
  have HN0 := Lib.hid hn0
  have HV0 : Hid (∀ wq, On u wq → Calls Tryd.prog 42 #[.int .i64 f] wq fun e w' => e = .returned (.bool (validB f)) ∧ On u w') := fun wq h => (rvalid_any f wq).mono fun e w' ⟨he, hw⟩ => ⟨he, hw ▸ h⟩
  have HPA0 : Hid (∀ wq, On u wq → Calls Tryd.prog 50 #[.int .i64 f, dgV a] wq fun e w' => e = .returned (.bool (okD f a)) ∧ On u w') := fun wq h => (rproper_any f a wq h.tab ha).mono fun e w' ⟨he, hw⟩ => ⟨he, h.trans hw⟩
  have HPB0 : Hid (∀ wq, On u wq → Calls Tryd.prog 50 #[.int .i64 f, dgV b] wq fun e w' => e = .returned (.bool (okD f b)) ∧ On u w') := fun wq h => (rproper_any f b wq h.tab hb).mono fun e w' ⟨he, hw⟩ => ⟨he, h.trans hw⟩
  have HAP0 : Hid (∀ wq, On u wq → Calls Tryd.prog 43 #[.int .i64 f, .slice pa p.length pc] wq fun e w' => e = .returned (.bool (okA f p)) ∧ On u w') := fun wq h => (rall_any f p _ wq h.tab (hP.on (HO.out.trans h))).mono fun e w' ⟨he, hw⟩ => ⟨he, h.trans hw⟩
  have HAQ0 : Hid (∀ wq, On u wq → Calls Tryd.prog 43 #[.int .i64 f, .slice qa q.length qc] wq fun e w' => e = .returned (.bool (okA f q)) ∧ On u w') := fun wq h => (rall_any f q _ wq h.tab (hQ.on (HO.out.trans h))).mono fun e w' ⟨he, hw⟩ => ⟨he, h.trans hw⟩
  have HCA0 : Hid (∀ wq, On u wq → Calls Tryd.prog 28 #[.int .i64 f, .int .i64 (i : Int), dgV a, .slice pa p.length pc] wq fun e w' => e = .returned (dgV (climbV f (i : Int) a p)) ∧ On u w') := fun wq h => (rclimb_any f (i : Int) a p _ wq h.tab ha (hP.on (HO.out.trans h)) (by omega)).mono fun e w' ⟨he, hw⟩ => ⟨he, h.trans hw⟩
  have HCB0 : Hid (∀ wq, On u wq → Calls Tryd.prog 28 #[.int .i64 f, .int .i64 (i : Int), dgV b, .slice qa q.length qc] wq fun e w' => e = .returned (dgV (climbV f (i : Int) b q)) ∧ On u w') := fun wq h => (rclimb_any f (i : Int) b q _ wq h.tab hb (hQ.on (HO.out.trans h)) (by omega)).mono fun e w' ⟨he, hw⟩ => ⟨he, h.trans hw⟩
  have HK : Hid (∀ wq, On u wq → _) := fun wq hq => And.intro (HTA.out.on hq).cells2 (HTB.out.on hq).cells2
  obtain ⟨hv, hpl, hxo, hpo⟩ := opnB_parts hop
  obtain ⟨_, hql, hyo, hqo⟩ := opnB_parts hoq
  have HV := HV0
  have HPA := HPA0
  have HPB := HPB0
  have HAP := HAP0
  have HAQ := HAQ0
  have HCA := HCA0
  have HCB := HCB0
  rw [hv] at HV
  rw [hxo] at HPA
  rw [hyo] at HPB
  rw [hpo] at HAP
  rw [hqo] at HAQ
  have hce : climbV f (i : Int) b q = climbV f (i : Int) a p := by rw [climbV_yes hop, climbV_yes hoq, Int.toNat_natCast]; exact hcl.symm
  rw [hce] at HCB
  generalize climbV f (i : Int) a p = XA at *
  have HEQ : Hid (∀ w, (Op.equalIn 10000 36 (dgV XA) (dgV XA)).run Tryd.prog w = .ok true w) := fun w => by rw [eq_dg, decide_eq_true rfl]
  have HI : Hid (¬ (i : Int) < 0) := by refine Lib.hid ?_; omega
  have HN : Hid (((p.length : Int) != (q.length : Int)) = false) := by refine Lib.hid ?_; simp; omega
  have HL : Hid (¬ (18 : Int) < (p.length : Int)) := by refine Lib.hid ?_; omega
  have HSA := Lib.hid ha
  have HSB := Lib.hid hb
  have HPR := Lib.hid hP
  have HQR := Lib.hid hQ
  have HLQ := Lib.hid hlq
  have HPL := Lib.hid hpl
  have HIM := Lib.hid hi
  have HZZ := Lib.hid hZ
  clear HV0 HPA0 HPB0 HAP0 HAQ0 HCA0 HCB0 hv hpl hxo hpo hql hyo hqo hop hoq hcl hce hlq hZ
  clear hT ha hb hP hQ hB hou hal hzb hu hu0 hn0 hi
  go_enter Tryd.func32, Tryd.ntmps32
  go_upto_region 1 with fail
  go_upto_region 2 with fail
  rw [← HN0.out, ← HU.out]
  refine region_keep_tail (fun wq => On u wq) 55 (by kernel_rfl) (by kernel_rfl) (On.refl HO.out.tab).drew ?_
  simp only [List.take_succ_cons, List.take_zero, List.drop_succ_cons, List.drop_zero]
  refine quiet_start fun L9 hL9 => ?_
  refine quiet_take (v := ?k9v0) hL9 (by kernel_rfl) (fun wq hwq => ?k9y0) (fun L9 hL9 => ?k9r0)
  case k9y0 => (go_simp; try with_reducible rfl)
  try simp only [Act.put, List.setIfInBounds_toArray, List.set_cons_zero, List.set_cons_succ]
  refine quiet_take (v := .bool true) hL9 (by kernel_rfl) (fun wq hwq => ?k9y1) (fun L9 hL9 => ?k9r1)
  case k9y1 => (go_simp; go_at_call 42; exact HV.out wq hwq)
  try simp only [Act.put, List.setIfInBounds_toArray, List.set_cons_zero, List.set_cons_succ]
  refine quiet_take (v := .bool false) hL9 (by kernel_rfl) (fun wq hwq => ?k9y2) (fun L9 hL9 => ?k9r2)
  case k9y2 => (go_simp; try with_reducible rfl)
  try simp only [Act.put, List.setIfInBounds_toArray, List.set_cons_zero, List.set_cons_succ]
  refine quiet_take (v := .bool false) hL9 (by kernel_rfl) (fun wq hwq => ?k9y3) (fun L9 hL9 => ?k9r3)
  case k9y3 => (go_simp; try with_reducible rfl)
  try simp only [Act.put, List.setIfInBounds_toArray, List.set_cons_zero, List.set_cons_succ]
  refine quiet_take (v := ?k9v4) hL9 (by kernel_rfl) (fun wq hwq => ?k9y4) (fun L9 hL9 => ?k9r4)
  case k9y4 => (go_simp; try with_reducible rfl)
  try simp only [Act.put, List.setIfInBounds_toArray, List.set_cons_zero, List.set_cons_succ]
  refine quiet_take (v := .bool false) hL9 (by kernel_rfl) (fun wq hwq => ?k9y5) (fun L9 hL9 => ?k9r5)
  case k9y5 => (have h1 := HI.out; go_simp; try with_reducible rfl; try simp [h1]; try omega)
  try simp only [Act.put, List.setIfInBounds_toArray, List.set_cons_zero, List.set_cons_succ]
  refine quiet_take (v := .bool false) hL9 (by kernel_rfl) (fun wq hwq => ?k9y6) (fun L9 hL9 => ?k9r6)
  case k9y6 => (go_simp; try with_reducible rfl)
  try simp only [Act.put, List.setIfInBounds_toArray, List.set_cons_zero, List.set_cons_succ]
  refine quiet_take (v := .bool false) hL9 (by kernel_rfl) (fun wq hwq => ?k9y7) (fun L9 hL9 => ?k9r7)
  case k9y7 => (go_simp; try with_reducible rfl)
  try simp only [Act.put, List.setIfInBounds_toArray, List.set_cons_zero, List.set_cons_succ]
  refine quiet_take (v := ?k9v8) hL9 (by kernel_rfl) (fun wq hwq => ?k9y8) (fun L9 hL9 => ?k9r8)
  case k9y8 => (go_simp; try with_reducible rfl)
  try simp only [Act.put, List.setIfInBounds_toArray, List.set_cons_zero, List.set_cons_succ]
  refine quiet_take (v := ?k9v9) hL9 (by kernel_rfl) (fun wq hwq => ?k9y9) (fun L9 hL9 => ?k9r9)
  case k9y9 => (go_simp; try with_reducible rfl)
  try simp only [Act.put, List.setIfInBounds_toArray, List.set_cons_zero, List.set_cons_succ]
  refine quiet_take (v := ?k9v10) hL9 (by kernel_rfl) (fun wq hwq => ?k9y10) (fun L9 hL9 => ?k9r10)
  case k9y10 => (go_simp; try with_reducible rfl)
  try simp only [Act.put, List.setIfInBounds_toArray, List.set_cons_zero, List.set_cons_succ]
  refine quiet_take (v := ?k9v11) hL9 (by kernel_rfl) (fun wq hwq => ?k9y11) (fun L9 hL9 => ?k9r11)
  case k9y11 => (go_simp; try with_reducible rfl)
  try simp only [Act.put, List.setIfInBounds_toArray, List.set_cons_zero, List.set_cons_succ]
  refine quiet_take (v := .bool false) hL9 (by kernel_rfl) (fun wq hwq => ?k9y12) (fun L9 hL9 => ?k9r12)
  case k9y12 => (have h1 := HN.out; go_simp; try with_reducible rfl; try simp [h1]; try omega)
  try simp only [Act.put, List.setIfInBounds_toArray, List.set_cons_zero, List.set_cons_succ]
  refine quiet_take (v := .bool false) hL9 (by kernel_rfl) (fun wq hwq => ?k9y13) (fun L9 hL9 => ?k9r13)
  case k9y13 => (go_simp; try with_reducible rfl)
  try simp only [Act.put, List.setIfInBounds_toArray, List.set_cons_zero, List.set_cons_succ]
  refine quiet_take (v := .bool false) hL9 (by kernel_rfl) (fun wq hwq => ?k9y14) (fun L9 hL9 => ?k9r14)
  case k9y14 => (go_simp; try with_reducible rfl)
  try simp only [Act.put, List.setIfInBounds_toArray, List.set_cons_zero, List.set_cons_succ]
  refine quiet_take (v := ?k9v15) hL9 (by kernel_rfl) (fun wq hwq => ?k9y15) (fun L9 hL9 => ?k9r15)
  case k9y15 => (go_simp; try with_reducible rfl)
  try simp only [Act.put, List.setIfInBounds_toArray, List.set_cons_zero, List.set_cons_succ]
  refine quiet_take (v := ?k9v16) hL9 (by kernel_rfl) (fun wq hwq => ?k9y16) (fun L9 hL9 => ?k9r16)
  case k9y16 => (go_simp; try with_reducible rfl)
  try simp only [Act.put, List.setIfInBounds_toArray, List.set_cons_zero, List.set_cons_succ]
  refine quiet_take (v := .bool false) hL9 (by kernel_rfl) (fun wq hwq => ?k9y17) (fun L9 hL9 => ?k9r17)
  case k9y17 => (have h1 := HL.out; go_simp; try with_reducible rfl; try simp [h1]; try omega)
  try simp only [Act.put, List.setIfInBounds_toArray, List.set_cons_zero, List.set_cons_succ]
  refine quiet_take (v := .bool false) hL9 (by kernel_rfl) (fun wq hwq => ?k9y18) (fun L9 hL9 => ?k9r18)
  case k9y18 => (go_simp; try with_reducible rfl)
  try simp only [Act.put, List.setIfInBounds_toArray, List.set_cons_zero, List.set_cons_succ]
  refine quiet_take (v := .bool false) hL9 (by kernel_rfl) (fun wq hwq => ?k9y19) (fun L9 hL9 => ?k9r19)
  case k9y19 => (go_simp; try with_reducible rfl)
  try simp only [Act.put, List.setIfInBounds_toArray, List.set_cons_zero, List.set_cons_succ]
  refine quiet_take (v := ?k9v20) hL9 (by kernel_rfl) (fun wq hwq => ?k9y20) (fun L9 hL9 => ?k9r20)
  case k9y20 => (go_simp; try with_reducible rfl)
  try simp only [Act.put, List.setIfInBounds_toArray, List.set_cons_zero, List.set_cons_succ]
  refine quiet_take (v := dgV a) hL9 (by kernel_rfl) (fun wq hwq => ?k9y21) (fun L9 hL9 => ?k9r21)
  case k9y21 => (obtain ⟨⟨x0, x1⟩, y0, y1⟩ := HK.out wq hwq; go_simp; try with_reducible rfl)
  try simp only [Act.put, List.setIfInBounds_toArray, List.set_cons_zero, List.set_cons_succ]
  refine quiet_take (v := .bool true) hL9 (by kernel_rfl) (fun wq hwq => ?k9y22) (fun L9 hL9 => ?k9r22)
  case k9y22 => (go_simp; go_at_call 50; exact HPA.out wq hwq)
  try simp only [Act.put, List.setIfInBounds_toArray, List.set_cons_zero, List.set_cons_succ]
  refine quiet_take (v := .bool false) hL9 (by kernel_rfl) (fun wq hwq => ?k9y23) (fun L9 hL9 => ?k9r23)
  case k9y23 => (go_simp; try with_reducible rfl)
  try simp only [Act.put, List.setIfInBounds_toArray, List.set_cons_zero, List.set_cons_succ]
  refine quiet_take (v := .bool false) hL9 (by kernel_rfl) (fun wq hwq => ?k9y24) (fun L9 hL9 => ?k9r24)
  case k9y24 => (go_simp; try with_reducible rfl)
  try simp only [Act.put, List.setIfInBounds_toArray, List.set_cons_zero, List.set_cons_succ]
  refine quiet_take (v := .bool false) hL9 (by kernel_rfl) (fun wq hwq => ?k9y25) (fun L9 hL9 => ?k9r25)
  case k9y25 => (go_simp; try with_reducible rfl)
  try simp only [Act.put, List.setIfInBounds_toArray, List.set_cons_zero, List.set_cons_succ]
  refine quiet_take (v := ?k9v26) hL9 (by kernel_rfl) (fun wq hwq => ?k9y26) (fun L9 hL9 => ?k9r26)
  case k9y26 => (go_simp; try with_reducible rfl)
  try simp only [Act.put, List.setIfInBounds_toArray, List.set_cons_zero, List.set_cons_succ]
  refine quiet_take (v := dgV b) hL9 (by kernel_rfl) (fun wq hwq => ?k9y27) (fun L9 hL9 => ?k9r27)
  case k9y27 => (obtain ⟨⟨x0, x1⟩, y0, y1⟩ := HK.out wq hwq; go_simp; try with_reducible rfl)
  try simp only [Act.put, List.setIfInBounds_toArray, List.set_cons_zero, List.set_cons_succ]
  refine quiet_take (v := .bool true) hL9 (by kernel_rfl) (fun wq hwq => ?k9y28) (fun L9 hL9 => ?k9r28)
  case k9y28 => (go_simp; go_at_call 50; exact HPB.out wq hwq)
  try simp only [Act.put, List.setIfInBounds_toArray, List.set_cons_zero, List.set_cons_succ]
  refine quiet_take (v := .bool false) hL9 (by kernel_rfl) (fun wq hwq => ?k9y29) (fun L9 hL9 => ?k9r29)
  case k9y29 => (go_simp; try with_reducible rfl)
  try simp only [Act.put, List.setIfInBounds_toArray, List.set_cons_zero, List.set_cons_succ]
  refine quiet_take (v := .bool false) hL9 (by kernel_rfl) (fun wq hwq => ?k9y30) (fun L9 hL9 => ?k9r30)
  case k9y30 => (go_simp; try with_reducible rfl)
  try simp only [Act.put, List.setIfInBounds_toArray, List.set_cons_zero, List.set_cons_succ]
  refine quiet_take (v := .bool false) hL9 (by kernel_rfl) (fun wq hwq => ?k9y31) (fun L9 hL9 => ?k9r31)
  case k9y31 => (go_simp; try with_reducible rfl)
  try simp only [Act.put, List.setIfInBounds_toArray, List.set_cons_zero, List.set_cons_succ]
  refine quiet_take (v := ?k9v32) hL9 (by kernel_rfl) (fun wq hwq => ?k9y32) (fun L9 hL9 => ?k9r32)
  case k9y32 => (go_simp; try with_reducible rfl)
  try simp only [Act.put, List.setIfInBounds_toArray, List.set_cons_zero, List.set_cons_succ]
  refine quiet_take (v := ?k9v33) hL9 (by kernel_rfl) (fun wq hwq => ?k9y33) (fun L9 hL9 => ?k9r33)
  case k9y33 => (go_simp; try with_reducible rfl)
  try simp only [Act.put, List.setIfInBounds_toArray, List.set_cons_zero, List.set_cons_succ]
  refine quiet_take (v := .bool true) hL9 (by kernel_rfl) (fun wq hwq => ?k9y34) (fun L9 hL9 => ?k9r34)
  case k9y34 => (go_simp; go_at_call 43; exact HAP.out wq hwq)
  try simp only [Act.put, List.setIfInBounds_toArray, List.set_cons_zero, List.set_cons_succ]
  refine quiet_take (v := .bool false) hL9 (by kernel_rfl) (fun wq hwq => ?k9y35) (fun L9 hL9 => ?k9r35)
  case k9y35 => (go_simp; try with_reducible rfl)
  try simp only [Act.put, List.setIfInBounds_toArray, List.set_cons_zero, List.set_cons_succ]
  refine quiet_take (v := .bool false) hL9 (by kernel_rfl) (fun wq hwq => ?k9y36) (fun L9 hL9 => ?k9r36)
  case k9y36 => (go_simp; try with_reducible rfl)
  try simp only [Act.put, List.setIfInBounds_toArray, List.set_cons_zero, List.set_cons_succ]
  refine quiet_take (v := .bool false) hL9 (by kernel_rfl) (fun wq hwq => ?k9y37) (fun L9 hL9 => ?k9r37)
  case k9y37 => (go_simp; try with_reducible rfl)
  try simp only [Act.put, List.setIfInBounds_toArray, List.set_cons_zero, List.set_cons_succ]
  refine quiet_take (v := ?k9v38) hL9 (by kernel_rfl) (fun wq hwq => ?k9y38) (fun L9 hL9 => ?k9r38)
  case k9y38 => (go_simp; try with_reducible rfl)
  try simp only [Act.put, List.setIfInBounds_toArray, List.set_cons_zero, List.set_cons_succ]
  refine quiet_take (v := ?k9v39) hL9 (by kernel_rfl) (fun wq hwq => ?k9y39) (fun L9 hL9 => ?k9r39)
  case k9y39 => (go_simp; try with_reducible rfl)
  try simp only [Act.put, List.setIfInBounds_toArray, List.set_cons_zero, List.set_cons_succ]
  refine quiet_take (v := .bool true) hL9 (by kernel_rfl) (fun wq hwq => ?k9y40) (fun L9 hL9 => ?k9r40)
  case k9y40 => (go_simp; go_at_call 43; exact HAQ.out wq hwq)
  try simp only [Act.put, List.setIfInBounds_toArray, List.set_cons_zero, List.set_cons_succ]
  refine quiet_take (v := .bool false) hL9 (by kernel_rfl) (fun wq hwq => ?k9y41) (fun L9 hL9 => ?k9r41)
  case k9y41 => (go_simp; try with_reducible rfl)
  try simp only [Act.put, List.setIfInBounds_toArray, List.set_cons_zero, List.set_cons_succ]
  refine quiet_take (v := .bool false) hL9 (by kernel_rfl) (fun wq hwq => ?k9y42) (fun L9 hL9 => ?k9r42)
  case k9y42 => (go_simp; try with_reducible rfl)
  try simp only [Act.put, List.setIfInBounds_toArray, List.set_cons_zero, List.set_cons_succ]
  refine quiet_take (v := .bool false) hL9 (by kernel_rfl) (fun wq hwq => ?k9y43) (fun L9 hL9 => ?k9r43)
  case k9y43 => (go_simp; try with_reducible rfl)
  try simp only [Act.put, List.setIfInBounds_toArray, List.set_cons_zero, List.set_cons_succ]
  refine quiet_take (v := ?k9v44) hL9 (by kernel_rfl) (fun wq hwq => ?k9y44) (fun L9 hL9 => ?k9r44)
  case k9y44 => (go_simp; try with_reducible rfl)
  try simp only [Act.put, List.setIfInBounds_toArray, List.set_cons_zero, List.set_cons_succ]
  refine quiet_take (v := ?k9v45) hL9 (by kernel_rfl) (fun wq hwq => ?k9y45) (fun L9 hL9 => ?k9r45)
  case k9y45 => (go_simp; try with_reducible rfl)
  try simp only [Act.put, List.setIfInBounds_toArray, List.set_cons_zero, List.set_cons_succ]
  refine quiet_take (v := dgV a) hL9 (by kernel_rfl) (fun wq hwq => ?k9y46) (fun L9 hL9 => ?k9r46)
  case k9y46 => (obtain ⟨⟨x0, x1⟩, y0, y1⟩ := HK.out wq hwq; go_simp; try with_reducible rfl)
  try simp only [Act.put, List.setIfInBounds_toArray, List.set_cons_zero, List.set_cons_succ]
  refine quiet_take (v := ?k9v47) hL9 (by kernel_rfl) (fun wq hwq => ?k9y47) (fun L9 hL9 => ?k9r47)
  case k9y47 => (go_simp; try with_reducible rfl)
  try simp only [Act.put, List.setIfInBounds_toArray, List.set_cons_zero, List.set_cons_succ]
  refine quiet_take (v := dgV XA) hL9 (by kernel_rfl) (fun wq hwq => ?k9y48) (fun L9 hL9 => ?k9r48)
  case k9y48 => (go_simp; go_at_call 28; exact HCA.out wq hwq)
  try simp only [Act.put, List.setIfInBounds_toArray, List.set_cons_zero, List.set_cons_succ]
  refine quiet_take (v := ?k9v49) hL9 (by kernel_rfl) (fun wq hwq => ?k9y49) (fun L9 hL9 => ?k9r49)
  case k9y49 => (go_simp; try with_reducible rfl)
  try simp only [Act.put, List.setIfInBounds_toArray, List.set_cons_zero, List.set_cons_succ]
  refine quiet_take (v := ?k9v50) hL9 (by kernel_rfl) (fun wq hwq => ?k9y50) (fun L9 hL9 => ?k9r50)
  case k9y50 => (go_simp; try with_reducible rfl)
  try simp only [Act.put, List.setIfInBounds_toArray, List.set_cons_zero, List.set_cons_succ]
  refine quiet_take (v := dgV b) hL9 (by kernel_rfl) (fun wq hwq => ?k9y51) (fun L9 hL9 => ?k9r51)
  case k9y51 => (obtain ⟨⟨x0, x1⟩, y0, y1⟩ := HK.out wq hwq; go_simp; try with_reducible rfl)
  try simp only [Act.put, List.setIfInBounds_toArray, List.set_cons_zero, List.set_cons_succ]
  refine quiet_take (v := ?k9v52) hL9 (by kernel_rfl) (fun wq hwq => ?k9y52) (fun L9 hL9 => ?k9r52)
  case k9y52 => (go_simp; try with_reducible rfl)
  try simp only [Act.put, List.setIfInBounds_toArray, List.set_cons_zero, List.set_cons_succ]
  refine quiet_take (v := dgV XA) hL9 (by kernel_rfl) (fun wq hwq => ?k9y53) (fun L9 hL9 => ?k9r53)
  case k9y53 => (go_simp; go_at_call 28; exact HCB.out wq hwq)
  try simp only [Act.put, List.setIfInBounds_toArray, List.set_cons_zero, List.set_cons_succ]
  refine quiet_take (v := .bool false) hL9 (by kernel_rfl) (fun wq hwq => ?k9y54) (fun L9 hL9 => ?k9r54)
  case k9y54 => (have hq := HEQ.out; go_simp; try with_reducible rfl)
  try simp only [Act.put, List.setIfInBounds_toArray, List.set_cons_zero, List.set_cons_succ]
  refine quiet_nil hL9 ?_
  clear hL9
  intro w3 hO3
  have HRC3 : Hid (Blk n0 w3 [a.1, a.2] ∧ Blk (n0 + 1) w3 [b.1, b.2] ∧ Blk (n0 + 1 + 1) w3 (fl4 (ix (pst Z))) ∧ Blk (n0 + 1 + 1 + 1) w3 (fl4 (ix (pst Z)))) := ⟨HTA.out.on hO3, HTB.out.on hO3, HR1.out.on hO3, HR2.out.on hO3⟩
  have HZB3 := Lib.hid (HZB.out.on hO3)
  have HSW : Hid (n0 + 5 ≤ w3.heap.size) := by have h1 := hO3.size; have h2 := HSU.out; refine Lib.hid ?_; omega
  have HO3 := Lib.hid (HO.out.trans hO3)
  have HZ4 : Hid (∀ wq, On w3 wq → wq.cell? ⟨n0 + 1 + 1 + 1 + 1, 0, none⟩ = some (.int .u64 ((Z.1.1 : Nat) : Int)) ∧ wq.cell? ⟨n0 + 1 + 1 + 1 + 1, 1, none⟩ = some (.int .u64 ((Z.1.2 : Nat) : Int)) ∧ wq.cell? ⟨n0 + 1 + 1 + 1 + 1, 2, none⟩ = some (.int .u64 ((Z.2.1 : Nat) : Int)) ∧ wq.cell? ⟨n0 + 1 + 1 + 1 + 1, 3, none⟩ = some (.int .u64 ((Z.2.2 : Nat) : Int))) := fun wq hq => by have h := (HZB3.out.on hq).cells4; simpa only [pst, ix] using h
  clear hO3 HV HPA HPB HAP HAQ HCA HCB HEQ HI HN HL HK HTA HTB HR1 HR2 HZB HZB3 HSU HU HO
  go_upto_region 4 with fail
  go_cut [16, 17, 18] (fun v16 v17 v18 wx => v18 = .bool false ∧ ∃ X Y : Nat, v16 = .pointer (some ⟨X, 0, none⟩) ∧ v17 = .pointer (some ⟨Y, 0, none⟩) ∧ X ≠ Y ∧ n0 + 5 ≤ X ∧ n0 + 5 ≤ Y ∧ Blk X wx (fl4 (ix (pst Z))) ∧ Blk Y wx (fl4 (ix (pst Z))) ∧ On w3 wx)
  case first =>
    refine region_head_tail (S := fun wq => On w3 wq) 6 (by kernel_rfl) (by kernel_rfl) ?_
    obtain ⟨V0, hV0⟩ : ∃ V0, V0 = w3.drew := ⟨_, rfl⟩
    have HV0 : Hid (On w3 V0) := by rw [hV0]; exact (On.refl HO3.out.tab).drew
    rw [← hV0]
    clear hV0
    have hSd := HV0.out
    refine HeadG.take (i := 0) (v := prV Z) rfl (by kernel_rfl) (by kernel_rfl) (by kernel_rfl) (by kernel_rfl) (by kernel_rfl) (by kernel_rfl) (by kernel_rfl) (fun _ _ _ h => h) (Or.inl ⟨by kernel_rfl, ?hey1z0⟩) hSd ?her1z0
    case hey1z0 => (intro w' hSw; obtain ⟨z0, z1, z2, z3⟩ := HZ4.out _ hSw; go_simp; try with_reducible rfl; try simp)
    try simp only [Act.put, List.setIfInBounds_toArray, List.set_cons_zero, List.set_cons_succ, List.getElem_toArray, List.getElem_cons_zero, List.getElem_cons_succ]
    refine HeadG.take (i := 1) (v := prV Z) rfl (by kernel_rfl) (by kernel_rfl) (by kernel_rfl) (by kernel_rfl) (by kernel_rfl) (by kernel_rfl) (by kernel_rfl) (fun _ _ _ h => h) (Or.inl ⟨by kernel_rfl, ?hey2z1⟩) hSd ?her2z1
    case hey2z1 => (intro w' hSw; obtain ⟨z0, z1, z2, z3⟩ := HZ4.out _ hSw; go_simp; try with_reducible rfl; try simp)
    try simp only [Act.put, List.setIfInBounds_toArray, List.set_cons_zero, List.set_cons_succ, List.getElem_toArray, List.getElem_cons_zero, List.getElem_cons_succ]
    clear hSd
    refine HeadG.fork2 (i := 2) (j := 3) rfl rfl (by kernel_rfl) (by kernel_rfl) (by kernel_rfl) (fun K9 hK9 => ?_) (fun K9 hK9 => ?_)
    · go_simp
      have hOc : On V0 (V0.alloc (.cells #[.int .u64 0, .int .u64 0, .int .u64 0, .int .u64 0] 48)) := (On.refl HV0.out.tab).alloc _
      have HV1 := Lib.hid (HV0.out.trans hOc)
      have HB1x2 : Hid (Blk V0.heap.size (V0.alloc (.cells #[.int .u64 0, .int .u64 0, .int .u64 0, .int .u64 0] 48)) (fl4 (ix ⟨0, 0, 0, 0⟩))) := blk_new4 V0 0 0 0 0 48
      have hsz2 := Lib.hid HV0.out.size
      refine hK9.out _ _ HV1.out ?_
      clear hK9 K9 hOc
      try simp only [Act.put, List.setIfInBounds_toArray, List.set_cons_zero, List.set_cons_succ, List.getElem_toArray, List.getElem_cons_zero, List.getElem_cons_succ]
      generalize hw : V0.alloc (.cells #[.int .u64 0, .int .u64 0, .int .u64 0, .int .u64 0] 48) = V1 at *
      clear hw
      refine HeadG.one (i := 3) rfl (by kernel_rfl) (by kernel_rfl) (fun K9 hK9 => ?_)
      go_simp
      have hOc : On V1 (V1.alloc (.cells #[.int .u64 0, .int .u64 0, .int .u64 0, .int .u64 0] 48)) := (On.refl HV1.out.tab).alloc _
      have HV2 := Lib.hid (HV1.out.trans hOc)
      have HB2x3 : Hid (Blk V1.heap.size (V1.alloc (.cells #[.int .u64 0, .int .u64 0, .int .u64 0, .int .u64 0] 48)) (fl4 (ix ⟨0, 0, 0, 0⟩))) := blk_new4 V1 0 0 0 0 48
      have hsz3 := Lib.hid HV1.out.size
      have HB2x2 := Lib.hid (HB1x2.out.on hOc)
      have hne := Lib.hid HB1x2.out.1
      refine hK9.out _ _ HV2.out ?_
      clear hK9 K9 hOc
      try simp only [Act.put, List.setIfInBounds_toArray, List.set_cons_zero, List.set_cons_succ, List.getElem_toArray, List.getElem_cons_zero, List.getElem_cons_succ]
      generalize hw : V1.alloc (.cells #[.int .u64 0, .int .u64 0, .int .u64 0, .int .u64 0] 48) = V2 at *
      clear hw
      obtain ⟨g, hg⟩ : ∃ g, g = V0.heap.size := ⟨_, rfl⟩
      obtain ⟨h, hh⟩ : ∃ h, h = V1.heap.size := ⟨_, rfl⟩
      have hgh : g ≠ h := by rw [hg, hh]; have h1 := hne.out; omega
      have hg2 : w3.heap.size ≤ g := by rw [hg]; exact hsz2.out
      have hh2 : w3.heap.size ≤ h := by rw [hh]; exact hsz3.out
      have HGv := HB2x2
      have HHv := HB2x3
      rw [← hg] at HGv
      rw [← hh] at HHv
      rw [← hg, ← hh]
      obtain ⟨g0, g1, g2, g3⟩ := HGv.out.cells4
      obtain ⟨e0, e1, e2, e3⟩ := HGv.out.free4
      have HGa : Hid (Blk g ((((V2.setCell ⟨g, 0, none⟩ (.int .u64 ((Z.1.1 : Nat) : Int))).setCell ⟨g, 1, none⟩ (.int .u64 ((Z.1.2 : Nat) : Int))).setCell ⟨g, 2, none⟩ (.int .u64 ((Z.2.1 : Nat) : Int))).setCell ⟨g, 3, none⟩ (.int .u64 ((Z.2.2 : Nat) : Int))) (fl4 (ix (pst Z)))) := Lib.hid (HGv.out.store4 (pst Z))
      have HHa := Lib.hid (HHv.out.other4 (C := g) (Ne.symm hgh) (.int .u64 ((Z.1.1 : Nat) : Int)) (.int .u64 ((Z.1.2 : Nat) : Int)) (.int .u64 ((Z.2.1 : Nat) : Int)) (.int .u64 ((Z.2.2 : Nat) : Int)))
      have HWa := Lib.hid (HV2.out.store4 (C := g) hg2 (.int .u64 ((Z.1.1 : Nat) : Int)) (.int .u64 ((Z.1.2 : Nat) : Int)) (.int .u64 ((Z.2.1 : Nat) : Int)) (.int .u64 ((Z.2.2 : Nat) : Int)))
      clear hg hh
      refine HeadG.one (i := 4) rfl (by kernel_rfl) (by kernel_rfl) (fun K9 hK9 => ?_)
      go_simp
      refine hK9.out _ _ HWa.out ?_
      clear hK9 K9
      try simp only [Act.put, List.setIfInBounds_toArray, List.set_cons_zero, List.set_cons_succ, List.getElem_toArray, List.getElem_cons_zero, List.getElem_cons_succ]
      generalize hw : ((((V2.setCell ⟨g, 0, none⟩ (.int .u64 ((Z.1.1 : Nat) : Int))).setCell ⟨g, 1, none⟩ (.int .u64 ((Z.1.2 : Nat) : Int))).setCell ⟨g, 2, none⟩ (.int .u64 ((Z.2.1 : Nat) : Int))).setCell ⟨g, 3, none⟩ (.int .u64 ((Z.2.2 : Nat) : Int))) = Va at *
      clear hw g0 g1 g2 g3 e0 e1 e2 e3
      obtain ⟨g0, g1, g2, g3⟩ := HHa.out.cells4
      obtain ⟨e0, e1, e2, e3⟩ := HHa.out.free4
      have HHb : Hid (Blk h ((((Va.setCell ⟨h, 0, none⟩ (.int .u64 ((Z.1.1 : Nat) : Int))).setCell ⟨h, 1, none⟩ (.int .u64 ((Z.1.2 : Nat) : Int))).setCell ⟨h, 2, none⟩ (.int .u64 ((Z.2.1 : Nat) : Int))).setCell ⟨h, 3, none⟩ (.int .u64 ((Z.2.2 : Nat) : Int))) (fl4 (ix (pst Z)))) := Lib.hid (HHa.out.store4 (pst Z))
      have HGb := Lib.hid (HGa.out.other4 (C := h) hgh (.int .u64 ((Z.1.1 : Nat) : Int)) (.int .u64 ((Z.1.2 : Nat) : Int)) (.int .u64 ((Z.2.1 : Nat) : Int)) (.int .u64 ((Z.2.2 : Nat) : Int)))
      have HWb := Lib.hid (HWa.out.store4 (C := h) hh2 (.int .u64 ((Z.1.1 : Nat) : Int)) (.int .u64 ((Z.1.2 : Nat) : Int)) (.int .u64 ((Z.2.1 : Nat) : Int)) (.int .u64 ((Z.2.2 : Nat) : Int)))
      refine HeadG.one (i := 5) rfl (by kernel_rfl) (by kernel_rfl) (fun K9 hK9 => ?_)
      go_simp
      refine hK9.out _ _ HWb.out ?_
      clear hK9 K9
      try simp only [Act.put, List.setIfInBounds_toArray, List.set_cons_zero, List.set_cons_succ, List.getElem_toArray, List.getElem_cons_zero, List.getElem_cons_succ]
      refine HeadG.last (i := 6) rfl (by kernel_rfl) (by kernel_rfl) (by kernel_rfl) (fun K9 hK9 => ?_)
      go_simp
      refine hK9.out _ _ ?_
      clear hK9 K9
      try simp only [Act.put, List.setIfInBounds_toArray, List.set_cons_zero, List.set_cons_succ, List.getElem_toArray, List.getElem_cons_zero, List.getElem_cons_succ]
      go_wp2_with fail
      go_meet
      exact ⟨rfl, _, _, rfl, rfl, hgh, by have := HSW.out; omega, by have := HSW.out; omega, HGb.out, HHb.out, HWb.out⟩
    · go_simp
      have hOc : On V0 (V0.alloc (.cells #[.int .u64 0, .int .u64 0, .int .u64 0, .int .u64 0] 48)) := (On.refl HV0.out.tab).alloc _
      have HV3 := Lib.hid (HV0.out.trans hOc)
      have HB3x3 : Hid (Blk V0.heap.size (V0.alloc (.cells #[.int .u64 0, .int .u64 0, .int .u64 0, .int .u64 0] 48)) (fl4 (ix ⟨0, 0, 0, 0⟩))) := blk_new4 V0 0 0 0 0 48
      have hsz3 := Lib.hid HV0.out.size
      refine hK9.out _ _ HV3.out ?_
      clear hK9 K9 hOc
      try simp only [Act.put, List.setIfInBounds_toArray, List.set_cons_zero, List.set_cons_succ, List.getElem_toArray, List.getElem_cons_zero, List.getElem_cons_succ]
      generalize hw : V0.alloc (.cells #[.int .u64 0, .int .u64 0, .int .u64 0, .int .u64 0] 48) = V3 at *
      clear hw
      refine HeadG.one (i := 2) rfl (by kernel_rfl) (by kernel_rfl) (fun K9 hK9 => ?_)
      go_simp
      have hOc : On V3 (V3.alloc (.cells #[.int .u64 0, .int .u64 0, .int .u64 0, .int .u64 0] 48)) := (On.refl HV3.out.tab).alloc _
      have HV4 := Lib.hid (HV3.out.trans hOc)
      have HB4x2 : Hid (Blk V3.heap.size (V3.alloc (.cells #[.int .u64 0, .int .u64 0, .int .u64 0, .int .u64 0] 48)) (fl4 (ix ⟨0, 0, 0, 0⟩))) := blk_new4 V3 0 0 0 0 48
      have hsz2 := Lib.hid HV3.out.size
      have HB4x3 := Lib.hid (HB3x3.out.on hOc)
      have hne := Lib.hid HB3x3.out.1
      refine hK9.out _ _ HV4.out ?_
      clear hK9 K9 hOc
      try simp only [Act.put, List.setIfInBounds_toArray, List.set_cons_zero, List.set_cons_succ, List.getElem_toArray, List.getElem_cons_zero, List.getElem_cons_succ]
      generalize hw : V3.alloc (.cells #[.int .u64 0, .int .u64 0, .int .u64 0, .int .u64 0] 48) = V4 at *
      clear hw
      obtain ⟨g, hg⟩ : ∃ g, g = V3.heap.size := ⟨_, rfl⟩
      obtain ⟨h, hh⟩ : ∃ h, h = V0.heap.size := ⟨_, rfl⟩
      have hgh : g ≠ h := by rw [hg, hh]; have h1 := hne.out; omega
      have hg2 : w3.heap.size ≤ g := by rw [hg]; exact hsz2.out
      have hh2 : w3.heap.size ≤ h := by rw [hh]; exact hsz3.out
      have HGv := HB4x2
      have HHv := HB4x3
      rw [← hg] at HGv
      rw [← hh] at HHv
      rw [← hg, ← hh]
      obtain ⟨g0, g1, g2, g3⟩ := HGv.out.cells4
      obtain ⟨e0, e1, e2, e3⟩ := HGv.out.free4
      have HGa : Hid (Blk g ((((V4.setCell ⟨g, 0, none⟩ (.int .u64 ((Z.1.1 : Nat) : Int))).setCell ⟨g, 1, none⟩ (.int .u64 ((Z.1.2 : Nat) : Int))).setCell ⟨g, 2, none⟩ (.int .u64 ((Z.2.1 : Nat) : Int))).setCell ⟨g, 3, none⟩ (.int .u64 ((Z.2.2 : Nat) : Int))) (fl4 (ix (pst Z)))) := Lib.hid (HGv.out.store4 (pst Z))
      have HHa := Lib.hid (HHv.out.other4 (C := g) (Ne.symm hgh) (.int .u64 ((Z.1.1 : Nat) : Int)) (.int .u64 ((Z.1.2 : Nat) : Int)) (.int .u64 ((Z.2.1 : Nat) : Int)) (.int .u64 ((Z.2.2 : Nat) : Int)))
      have HWa := Lib.hid (HV4.out.store4 (C := g) hg2 (.int .u64 ((Z.1.1 : Nat) : Int)) (.int .u64 ((Z.1.2 : Nat) : Int)) (.int .u64 ((Z.2.1 : Nat) : Int)) (.int .u64 ((Z.2.2 : Nat) : Int)))
      clear hg hh
      refine HeadG.one (i := 4) rfl (by kernel_rfl) (by kernel_rfl) (fun K9 hK9 => ?_)
      go_simp
      refine hK9.out _ _ HWa.out ?_
      clear hK9 K9
      try simp only [Act.put, List.setIfInBounds_toArray, List.set_cons_zero, List.set_cons_succ, List.getElem_toArray, List.getElem_cons_zero, List.getElem_cons_succ]
      generalize hw : ((((V4.setCell ⟨g, 0, none⟩ (.int .u64 ((Z.1.1 : Nat) : Int))).setCell ⟨g, 1, none⟩ (.int .u64 ((Z.1.2 : Nat) : Int))).setCell ⟨g, 2, none⟩ (.int .u64 ((Z.2.1 : Nat) : Int))).setCell ⟨g, 3, none⟩ (.int .u64 ((Z.2.2 : Nat) : Int))) = Va at *
      clear hw g0 g1 g2 g3 e0 e1 e2 e3
      obtain ⟨g0, g1, g2, g3⟩ := HHa.out.cells4
      obtain ⟨e0, e1, e2, e3⟩ := HHa.out.free4
      have HHb : Hid (Blk h ((((Va.setCell ⟨h, 0, none⟩ (.int .u64 ((Z.1.1 : Nat) : Int))).setCell ⟨h, 1, none⟩ (.int .u64 ((Z.1.2 : Nat) : Int))).setCell ⟨h, 2, none⟩ (.int .u64 ((Z.2.1 : Nat) : Int))).setCell ⟨h, 3, none⟩ (.int .u64 ((Z.2.2 : Nat) : Int))) (fl4 (ix (pst Z)))) := Lib.hid (HHa.out.store4 (pst Z))
      have HGb := Lib.hid (HGa.out.other4 (C := h) hgh (.int .u64 ((Z.1.1 : Nat) : Int)) (.int .u64 ((Z.1.2 : Nat) : Int)) (.int .u64 ((Z.2.1 : Nat) : Int)) (.int .u64 ((Z.2.2 : Nat) : Int)))
      have HWb := Lib.hid (HWa.out.store4 (C := h) hh2 (.int .u64 ((Z.1.1 : Nat) : Int)) (.int .u64 ((Z.1.2 : Nat) : Int)) (.int .u64 ((Z.2.1 : Nat) : Int)) (.int .u64 ((Z.2.2 : Nat) : Int)))
      refine HeadG.one (i := 5) rfl (by kernel_rfl) (by kernel_rfl) (fun K9 hK9 => ?_)
      go_simp
      refine hK9.out _ _ HWb.out ?_
      clear hK9 K9
      try simp only [Act.put, List.setIfInBounds_toArray, List.set_cons_zero, List.set_cons_succ, List.getElem_toArray, List.getElem_cons_zero, List.getElem_cons_succ]
      refine HeadG.last (i := 6) rfl (by kernel_rfl) (by kernel_rfl) (by kernel_rfl) (fun K9 hK9 => ?_)
      go_simp
      refine hK9.out _ _ ?_
      clear hK9 K9
      try simp only [Act.put, List.setIfInBounds_toArray, List.set_cons_zero, List.set_cons_succ, List.getElem_toArray, List.getElem_cons_zero, List.getElem_cons_succ]
      go_wp2_with fail
      go_meet
      exact ⟨rfl, _, _, rfl, rfl, hgh, by have := HSW.out; omega, by have := HSW.out; omega, HGb.out, HHb.out, HWb.out⟩
  case rest =>
  rename World => w5
  obtain ⟨rfl, X, Y, rfl, rfl, hXY, hX5, hY5, hbX, hbY, hO5⟩ := hcut
  have HXY : Hid (X ≠ Y ∧ n0 + 5 ≤ X ∧ n0 + 5 ≤ Y) := ⟨hXY, hX5, hY5⟩
  have HST : Hid (RC n0 X Y (clF f i a p 0) (clF f i b q 0) (csF f i a b p q 0).1 (csF f i a b p q 0).2.1 Z w5 ∧ On w w5) := ⟨⟨HRC3.out.1.on hO5, HRC3.out.2.1.on hO5, HRC3.out.2.2.1.on hO5, HRC3.out.2.2.2.on hO5, by have h : (csF f i a b p q 0).1 = Z := HZZ.out.symm; rw [h]; exact hbX, by have h : (csF f i a b p q 0).2.1 = Z := HZZ.out.symm; rw [h]; exact hbY⟩, HO3.out.trans hO5⟩
  clear hXY hX5 hY5 hbX hbY hO5 HRC3 HO3 HZ4 HSW
  go_wp2_with fail
  go_loopw [1, 18, 19] (fun iv fv vi wr => ∃ k : Nat, k ≤ p.length ∧ vi = .int .i64 (k : Int) ∧ iv = .int .i64 ((i / 2 ^ k : Nat) : Int) ∧ fv = .bool (csF f i a b p q k).2.2 ∧ Hid (RC n0 X Y (clF f i a p k) (clF f i b q k) (csF f i a b p q k).1 (csF f i a b p q k).2.1 Z wr ∧ On w wr)) (fun _ _ vi _ => p.length - (intOf vi).toNat)
  case atStart => exact ⟨0, Nat.zero_le _, rfl, by rw [Nat.pow_zero, Nat.div_one], rfl, HST⟩
  case round =>
    rename World => wr
    clear HST
    obtain ⟨k, hk, rfl, rfl, rfl, HS⟩ := hrel
    by_cases hkn : k < p.length
    · have hkq : k < q.length := by rw [← HLQ.out]; exact hkn
      obtain ⟨bp, op, rfl, cp0, cp1⟩ := HPR.out.cells k hkn
      obtain ⟨bq, oq, rfl, cq0, cq1⟩ := HQR.out.cells k hkq
      have hsp := HPR.out.sm k
      have hsq := HQR.out.sm k
      have hxa := clF_sm f i a p HSA.out k
      have hxb := clF_sm f i b q HSB.out k
      have hi2 : i / 2 ^ k / 2 = i / 2 ^ (k + 1) := by rw [Nat.pow_succ, Nat.div_div_eq_div_mul]
      have hik : i / 2 ^ k ≤ 9223372036854775807 := Nat.le_trans (Nat.div_le_self _ _) HIM.out
      have hna : nodeF f (prD (i / 2 ^ k) (clF f i a p k) (p.getD k zD)).1 (prD (i / 2 ^ k) (clF f i a p k) (p.getD k zD)).2 = clF f i a p (k + 1) := rfl
      have hnb : nodeF f (prD (i / 2 ^ k) (clF f i b q k) (q.getD k zD)).1 (prD (i / 2 ^ k) (clF f i b q k) (q.getD k zD)).2 = clF f i b q (k + 1) := rfl
      have hcs : csF f i a b p q (k + 1) = if prD (i / 2 ^ k) (clF f i a p k) (p.getD k zD) ≠ prD (i / 2 ^ k) (clF f i b q k) (q.getD k zD) then (prD (i / 2 ^ k) (clF f i a p k) (p.getD k zD), prD (i / 2 ^ k) (clF f i b q k) (q.getD k zD), true) else csF f i a b p q k := rfl
      have HCEA : Hid (∀ wq, On w wq → wq.cell? ⟨bp, op + k * 2, none⟩ = some (.int .u64 (((p.getD k zD).1 : Nat) : Int)) ∧ wq.cell? ⟨bp, op + k * 2 + 1, none⟩ = some (.int .u64 (((p.getD k zD).2 : Nat) : Int))) := fun wq h => ⟨(h.cell (p := ⟨bp, op + k * 2, none⟩) (cell_size cp0)).trans cp0, (h.cell (p := ⟨bp, op + k * 2 + 1, none⟩) (cell_size cp1)).trans cp1⟩
      have HCEB : Hid (∀ wq, On w wq → wq.cell? ⟨bq, oq + k * 2, none⟩ = some (.int .u64 (((q.getD k zD).1 : Nat) : Int)) ∧ wq.cell? ⟨bq, oq + k * 2 + 1, none⟩ = some (.int .u64 (((q.getD k zD).2 : Nat) : Int))) := fun wq h => ⟨(h.cell (p := ⟨bq, oq + k * 2, none⟩) (cell_size cq0)).trans cq0, (h.cell (p := ⟨bq, oq + k * 2 + 1, none⟩) (cell_size cq1)).trans cq1⟩
      clear cp0 cp1 cq0 cq1
      generalize hnae : clF f i a p (k + 1) = na at *
      generalize hnbe : clF f i b q (k + 1) = nb at *
      have HNAE := Lib.hid hnae
      have HNBE := Lib.hid hnbe
      clear hnae hnbe
      generalize clF f i a p k = xa at *
      generalize clF f i b q k = xb at *
      generalize p.getD k zD = pa at *
      generalize q.getD k zD = pb at *
      generalize hi2e : i / 2 ^ (k + 1) = i2 at *
      have HI2E := Lib.hid hi2e
      clear hi2e
      generalize i / 2 ^ k = ik at *
      generalize hcc : csF f i a b p q (k + 1) = c2 at *
      have HCC := Lib.hid hcc
      generalize csF f i a b p q k = cc at *
      obtain ⟨P1, P2, fd⟩ := cc
      simp only at HS
      have HPA : Hid (∀ u, On wr u → Calls Tryd.prog 53 #[.int .i64 (ik : Int), dgV xa, dgV pa] u fun e w' => e = .returned (prV (prD ik xa pa)) ∧ On u w') := fun u h => rpair_any ik xa pa u h.tab hik
      have HPB : Hid (∀ u, On wr u → Calls Tryd.prog 53 #[.int .i64 (ik : Int), dgV xb, dgV pb] u fun e w' => e = .returned (prV (prD ik xb pb)) ∧ On u w') := fun u h => rpair_any ik xb pb u h.tab hik
      have hpa := prD_sm (i := ik) hxa hsp
      have hpb := prD_sm (i := ik) hxb hsq
      generalize prD ik xa pa = PA at *
      generalize prD ik xb pb = PB at *
      have HNA : Hid (∀ u, On w u → Calls Tryd.prog 44 #[.int .i64 f, dgV PA.1, dgV PA.2] u fun e w' => e = .returned (dgV na) ∧ On u w') := fun u h => by rw [← hna]; exact rnode_dg f PA.1 PA.2 u h.tab hpa.1 hpa.2
      have HNB : Hid (∀ u, On w u → Calls Tryd.prog 44 #[.int .i64 f, dgV PB.1, dgV PB.2] u fun e w' => e = .returned (dgV nb) ∧ On u w') := fun u h => by rw [← hnb]; exact rnode_dg f PB.1 PB.2 u h.tab hpb.1 hpb.2
      have HI2 : Hid (IntKind.i64.wrap (Int.tdiv (ik : Int) 2) = (i2 : Int)) := by refine Lib.hid ?_; rw [Int.tdiv_eq_ediv_of_nonneg (by omega), show ((ik : Int) / 2) = (i2 : Int) by omega]; exact IntWalk.i64_in _ (by omega)
      have HI3 : Hid (Int.tdiv (ik : Int) 2 = (i2 : Int)) := by refine Lib.hid ?_; rw [Int.tdiv_eq_ediv_of_nonneg (by omega)]; omega
      have HW9 : Hid (wrap64 (i2 : Int) = (i2 : Int)) := Lib.hid (IntWalk.wrap64_in _ (by omega))
      have HK : Hid (∀ wq, On wr wq → _) := fun wq hq => And.intro (And.intro ((HS.out.1.on hq).ta.cells2) ((HS.out.1.on hq).tb.cells2)) (And.intro (HCEA.out _ (HS.out.2.trans hq)) (HCEB.out _ (HS.out.2.trans hq)))
      have hlt : (k : Int) < (p.length : Int) := by omega
      have hltq : (k : Int) < (q.length : Int) := by omega
      have l0 : (0 : Int) ≤ (k : Int) := by omega
      have hpl := HPL.out
      have HCS := Lib.hid hcs
      clear hsp hsq hxa hxb hi2 hik hna hnb hcs hcc hpa hpb HCEA HCEB
      go_upto_region 8 with fail
      go_cut [20, 21] from 82 to 120 (fun v20 v21 wx => ∃ g h : Nat, v20 = .pointer (some ⟨g, 0, none⟩) ∧ v21 = .pointer (some ⟨h, 0, none⟩) ∧ g ≠ h ∧ wr.heap.size ≤ g ∧ wr.heap.size ≤ h ∧ Blk g wx (fl4 (ix (pst PA))) ∧ Blk h wx (fl4 (ix (pst PB))) ∧ On wr wx)
      case first =>
        refine region_head_tail (S := fun wq => On wr wq) 17 (by kernel_rfl) (by kernel_rfl) ?_
        obtain ⟨V0, hV0⟩ : ∃ V0, V0 = wr.drew := ⟨_, rfl⟩
        have HV0 : Hid (On wr V0) := by rw [hV0]; exact (On.refl HS.out.2.tab).drew
        rw [← hV0]
        clear hV0
        have hSd := HV0.out
        refine HeadG.take (i := 0) (v := ?hev3z0) rfl (by kernel_rfl) (by kernel_rfl) (by kernel_rfl) (by kernel_rfl) (by kernel_rfl) (by kernel_rfl) (by kernel_rfl) (fun _ _ _ h => h) (Or.inl ⟨by kernel_rfl, ?hey3z0⟩) hSd ?her3z0
        case hey3z0 => (intro w' hSw; skip; go_simp; try with_reducible rfl)
        try simp only [Act.put, List.setIfInBounds_toArray, List.set_cons_zero, List.set_cons_succ, List.getElem_toArray, List.getElem_cons_zero, List.getElem_cons_succ]
        refine HeadG.take (i := 1) (v := dgV xa) rfl (by kernel_rfl) (by kernel_rfl) (by kernel_rfl) (by kernel_rfl) (by kernel_rfl) (by kernel_rfl) (by kernel_rfl) (fun _ _ _ h => h) (Or.inl ⟨by kernel_rfl, ?hey4z1⟩) hSd ?her4z1
        case hey4z1 => (intro w' hSw; obtain ⟨⟨⟨a0, a1⟩, b0, b1⟩, ⟨c0, c1⟩, d0, d1⟩ := HK.out _ hSw; go_simp; try with_reducible rfl; try simp)
        try simp only [Act.put, List.setIfInBounds_toArray, List.set_cons_zero, List.set_cons_succ, List.getElem_toArray, List.getElem_cons_zero, List.getElem_cons_succ]
        refine HeadG.take (i := 2) (v := ?hev5z2) rfl (by kernel_rfl) (by kernel_rfl) (by kernel_rfl) (by kernel_rfl) (by kernel_rfl) (by kernel_rfl) (by kernel_rfl) (fun _ _ _ h => h) (Or.inl ⟨by kernel_rfl, ?hey5z2⟩) hSd ?her5z2
        case hey5z2 => (intro w' hSw; skip; go_simp; try with_reducible rfl)
        try simp only [Act.put, List.setIfInBounds_toArray, List.set_cons_zero, List.set_cons_succ, List.getElem_toArray, List.getElem_cons_zero, List.getElem_cons_succ]
        refine HeadG.take (i := 3) (v := ?hev6z3) rfl (by kernel_rfl) (by kernel_rfl) (by kernel_rfl) (by kernel_rfl) (by kernel_rfl) (by kernel_rfl) (by kernel_rfl) (fun _ _ _ h => h) (Or.inl ⟨by kernel_rfl, ?hey6z3⟩) hSd ?her6z3
        case hey6z3 => (intro w' hSw; skip; go_simp; try with_reducible rfl)
        try simp only [Act.put, List.setIfInBounds_toArray, List.set_cons_zero, List.set_cons_succ, List.getElem_toArray, List.getElem_cons_zero, List.getElem_cons_succ]
        refine HeadG.take (i := 4) (v := ?hev7z4) rfl (by kernel_rfl) (by kernel_rfl) (by kernel_rfl) (by kernel_rfl) (by kernel_rfl) (by kernel_rfl) (by kernel_rfl) (fun _ _ _ h => h) (Or.inl ⟨by kernel_rfl, ?hey7z4⟩) hSd ?her7z4
        case hey7z4 => (intro w' hSw; skip; go_simp; try with_reducible rfl)
        try simp only [Act.put, List.setIfInBounds_toArray, List.set_cons_zero, List.set_cons_succ, List.getElem_toArray, List.getElem_cons_zero, List.getElem_cons_succ]
        refine HeadG.take (i := 5) (v := dgV pa) rfl (by kernel_rfl) (by kernel_rfl) (by kernel_rfl) (by kernel_rfl) (by kernel_rfl) (by kernel_rfl) (by kernel_rfl) (fun _ _ _ h => h) (Or.inl ⟨by kernel_rfl, ?hey8z5⟩) hSd ?her8z5
        case hey8z5 => (intro w' hSw; obtain ⟨⟨⟨a0, a1⟩, b0, b1⟩, ⟨c0, c1⟩, d0, d1⟩ := HK.out _ hSw; go_simp; try with_reducible rfl; try simp)
        try simp only [Act.put, List.setIfInBounds_toArray, List.set_cons_zero, List.set_cons_succ, List.getElem_toArray, List.getElem_cons_zero, List.getElem_cons_succ]
        refine HeadG.take (i := 7) (v := ?hev9z7) rfl (by kernel_rfl) (by kernel_rfl) (by kernel_rfl) (by kernel_rfl) (by kernel_rfl) (by kernel_rfl) (by kernel_rfl) (fun _ _ _ h => h) (Or.inl ⟨by kernel_rfl, ?hey9z7⟩) hSd ?her9z7
        case hey9z7 => (intro w' hSw; skip; go_simp; try with_reducible rfl)
        try simp only [Act.put, List.setIfInBounds_toArray, List.set_cons_zero, List.set_cons_succ, List.getElem_toArray, List.getElem_cons_zero, List.getElem_cons_succ]
        refine HeadG.take (i := 8) (v := dgV xb) rfl (by kernel_rfl) (by kernel_rfl) (by kernel_rfl) (by kernel_rfl) (by kernel_rfl) (by kernel_rfl) (by kernel_rfl) (fun _ _ _ h => h) (Or.inl ⟨by kernel_rfl, ?hey10z8⟩) hSd ?her10z8
        case hey10z8 => (intro w' hSw; obtain ⟨⟨⟨a0, a1⟩, b0, b1⟩, ⟨c0, c1⟩, d0, d1⟩ := HK.out _ hSw; go_simp; try with_reducible rfl; try simp)
        try simp only [Act.put, List.setIfInBounds_toArray, List.set_cons_zero, List.set_cons_succ, List.getElem_toArray, List.getElem_cons_zero, List.getElem_cons_succ]
        refine HeadG.take (i := 9) (v := ?hev11z9) rfl (by kernel_rfl) (by kernel_rfl) (by kernel_rfl) (by kernel_rfl) (by kernel_rfl) (by kernel_rfl) (by kernel_rfl) (fun _ _ _ h => h) (Or.inl ⟨by kernel_rfl, ?hey11z9⟩) hSd ?her11z9
        case hey11z9 => (intro w' hSw; skip; go_simp; try with_reducible rfl)
        try simp only [Act.put, List.setIfInBounds_toArray, List.set_cons_zero, List.set_cons_succ, List.getElem_toArray, List.getElem_cons_zero, List.getElem_cons_succ]
        refine HeadG.take (i := 10) (v := ?hev12z10) rfl (by kernel_rfl) (by kernel_rfl) (by kernel_rfl) (by kernel_rfl) (by kernel_rfl) (by kernel_rfl) (by kernel_rfl) (fun _ _ _ h => h) (Or.inl ⟨by kernel_rfl, ?hey12z10⟩) hSd ?her12z10
        case hey12z10 => (intro w' hSw; skip; go_simp; try with_reducible rfl)
        try simp only [Act.put, List.setIfInBounds_toArray, List.set_cons_zero, List.set_cons_succ, List.getElem_toArray, List.getElem_cons_zero, List.getElem_cons_succ]
        refine HeadG.take (i := 11) (v := ?hev13z11) rfl (by kernel_rfl) (by kernel_rfl) (by kernel_rfl) (by kernel_rfl) (by kernel_rfl) (by kernel_rfl) (by kernel_rfl) (fun _ _ _ h => h) (Or.inl ⟨by kernel_rfl, ?hey13z11⟩) hSd ?her13z11
        case hey13z11 => (intro w' hSw; skip; go_simp; try with_reducible rfl)
        try simp only [Act.put, List.setIfInBounds_toArray, List.set_cons_zero, List.set_cons_succ, List.getElem_toArray, List.getElem_cons_zero, List.getElem_cons_succ]
        refine HeadG.take (i := 12) (v := dgV pb) rfl (by kernel_rfl) (by kernel_rfl) (by kernel_rfl) (by kernel_rfl) (by kernel_rfl) (by kernel_rfl) (by kernel_rfl) (fun _ _ _ h => h) (Or.inl ⟨by kernel_rfl, ?hey14z12⟩) hSd ?her14z12
        case hey14z12 => (intro w' hSw; obtain ⟨⟨⟨a0, a1⟩, b0, b1⟩, ⟨c0, c1⟩, d0, d1⟩ := HK.out _ hSw; go_simp; try with_reducible rfl; try simp)
        try simp only [Act.put, List.setIfInBounds_toArray, List.set_cons_zero, List.set_cons_succ, List.getElem_toArray, List.getElem_cons_zero, List.getElem_cons_succ]
        clear hSd
        refine HeadG.fork3c (i := 6) (j := 14) (k := 15) rfl rfl rfl (by kernel_rfl) (by kernel_rfl) (by kernel_rfl) (by kernel_rfl) (fun K9 hK9 => ?_) (fun K9 hK9 => ?_) (fun K9 hK9 => ?_)
        · go_simp
          go_at_call 53
          with_reducible refine (HPA.out _ HV0.out).mono ?_
          rintro e V5 ⟨rfl, hOc⟩
          have HV5 := Lib.hid (HV0.out.trans hOc)
          clear hOc
          refine hK9.out _ _ HV5.out ?_
          clear hK9 K9
          try simp only [Act.put, List.setIfInBounds_toArray, List.set_cons_zero, List.set_cons_succ, List.getElem_toArray, List.getElem_cons_zero, List.getElem_cons_succ]
          refine HeadG.fork3c (i := 13) (j := 14) (k := 15) rfl rfl rfl (by kernel_rfl) (by kernel_rfl) (by kernel_rfl) (by kernel_rfl) (fun K9 hK9 => ?_) (fun K9 hK9 => ?_) (fun K9 hK9 => ?_)
          · go_simp
            go_at_call 53
            with_reducible refine (HPB.out _ HV5.out).mono ?_
            rintro e V6 ⟨rfl, hOc⟩
            have HV6 := Lib.hid (HV5.out.trans hOc)
            clear hOc
            refine hK9.out _ _ HV6.out ?_
            clear hK9 K9
            try simp only [Act.put, List.setIfInBounds_toArray, List.set_cons_zero, List.set_cons_succ, List.getElem_toArray, List.getElem_cons_zero, List.getElem_cons_succ]
            refine HeadG.fork2 (i := 14) (j := 15) rfl rfl (by kernel_rfl) (by kernel_rfl) (by kernel_rfl) (fun K9 hK9 => ?_) (fun K9 hK9 => ?_)
            · go_simp
              have hOc : On V6 (V6.alloc (.cells #[.int .u64 0, .int .u64 0, .int .u64 0, .int .u64 0] 48)) := (On.refl HV6.out.tab).alloc _
              have HV7 := Lib.hid (HV6.out.trans hOc)
              have HB7x14 : Hid (Blk V6.heap.size (V6.alloc (.cells #[.int .u64 0, .int .u64 0, .int .u64 0, .int .u64 0] 48)) (fl4 (ix ⟨0, 0, 0, 0⟩))) := blk_new4 V6 0 0 0 0 48
              have hsz14 := Lib.hid HV6.out.size
              refine hK9.out _ _ HV7.out ?_
              clear hK9 K9 hOc
              try simp only [Act.put, List.setIfInBounds_toArray, List.set_cons_zero, List.set_cons_succ, List.getElem_toArray, List.getElem_cons_zero, List.getElem_cons_succ]
              generalize hw : V6.alloc (.cells #[.int .u64 0, .int .u64 0, .int .u64 0, .int .u64 0] 48) = V7 at *
              clear hw
              refine HeadG.one (i := 15) rfl (by kernel_rfl) (by kernel_rfl) (fun K9 hK9 => ?_)
              go_simp
              have hOc : On V7 (V7.alloc (.cells #[.int .u64 0, .int .u64 0, .int .u64 0, .int .u64 0] 48)) := (On.refl HV7.out.tab).alloc _
              have HV8 := Lib.hid (HV7.out.trans hOc)
              have HB8x15 : Hid (Blk V7.heap.size (V7.alloc (.cells #[.int .u64 0, .int .u64 0, .int .u64 0, .int .u64 0] 48)) (fl4 (ix ⟨0, 0, 0, 0⟩))) := blk_new4 V7 0 0 0 0 48
              have hsz15 := Lib.hid HV7.out.size
              have HB8x14 := Lib.hid (HB7x14.out.on hOc)
              have hne := Lib.hid HB7x14.out.1
              refine hK9.out _ _ HV8.out ?_
              clear hK9 K9 hOc
              try simp only [Act.put, List.setIfInBounds_toArray, List.set_cons_zero, List.set_cons_succ, List.getElem_toArray, List.getElem_cons_zero, List.getElem_cons_succ]
              generalize hw : V7.alloc (.cells #[.int .u64 0, .int .u64 0, .int .u64 0, .int .u64 0] 48) = V8 at *
              clear hw
              obtain ⟨g, hg⟩ : ∃ g, g = V6.heap.size := ⟨_, rfl⟩
              obtain ⟨h, hh⟩ : ∃ h, h = V7.heap.size := ⟨_, rfl⟩
              have hgh : g ≠ h := by rw [hg, hh]; have h1 := hne.out; omega
              have hg2 : wr.heap.size ≤ g := by rw [hg]; exact hsz14.out
              have hh2 : wr.heap.size ≤ h := by rw [hh]; exact hsz15.out
              have HGv := HB8x14
              have HHv := HB8x15
              rw [← hg] at HGv
              rw [← hh] at HHv
              rw [← hg, ← hh]
              obtain ⟨g0, g1, g2, g3⟩ := HGv.out.cells4
              obtain ⟨e0, e1, e2, e3⟩ := HGv.out.free4
              have HGa : Hid (Blk g ((((V8.setCell ⟨g, 0, none⟩ (.int .u64 ((PA.1.1 : Nat) : Int))).setCell ⟨g, 1, none⟩ (.int .u64 ((PA.1.2 : Nat) : Int))).setCell ⟨g, 2, none⟩ (.int .u64 ((PA.2.1 : Nat) : Int))).setCell ⟨g, 3, none⟩ (.int .u64 ((PA.2.2 : Nat) : Int))) (fl4 (ix (pst PA)))) := Lib.hid (HGv.out.store4 (pst PA))
              have HHa := Lib.hid (HHv.out.other4 (C := g) (Ne.symm hgh) (.int .u64 ((PA.1.1 : Nat) : Int)) (.int .u64 ((PA.1.2 : Nat) : Int)) (.int .u64 ((PA.2.1 : Nat) : Int)) (.int .u64 ((PA.2.2 : Nat) : Int)))
              have HWa := Lib.hid (HV8.out.store4 (C := g) hg2 (.int .u64 ((PA.1.1 : Nat) : Int)) (.int .u64 ((PA.1.2 : Nat) : Int)) (.int .u64 ((PA.2.1 : Nat) : Int)) (.int .u64 ((PA.2.2 : Nat) : Int)))
              clear hg hh
              refine HeadG.one (i := 16) rfl (by kernel_rfl) (by kernel_rfl) (fun K9 hK9 => ?_)
              go_simp
              refine hK9.out _ _ HWa.out ?_
              clear hK9 K9
              try simp only [Act.put, List.setIfInBounds_toArray, List.set_cons_zero, List.set_cons_succ, List.getElem_toArray, List.getElem_cons_zero, List.getElem_cons_succ]
              generalize hw : ((((V8.setCell ⟨g, 0, none⟩ (.int .u64 ((PA.1.1 : Nat) : Int))).setCell ⟨g, 1, none⟩ (.int .u64 ((PA.1.2 : Nat) : Int))).setCell ⟨g, 2, none⟩ (.int .u64 ((PA.2.1 : Nat) : Int))).setCell ⟨g, 3, none⟩ (.int .u64 ((PA.2.2 : Nat) : Int))) = Va at *
              clear hw g0 g1 g2 g3 e0 e1 e2 e3
              obtain ⟨g0, g1, g2, g3⟩ := HHa.out.cells4
              obtain ⟨e0, e1, e2, e3⟩ := HHa.out.free4
              have HHb : Hid (Blk h ((((Va.setCell ⟨h, 0, none⟩ (.int .u64 ((PB.1.1 : Nat) : Int))).setCell ⟨h, 1, none⟩ (.int .u64 ((PB.1.2 : Nat) : Int))).setCell ⟨h, 2, none⟩ (.int .u64 ((PB.2.1 : Nat) : Int))).setCell ⟨h, 3, none⟩ (.int .u64 ((PB.2.2 : Nat) : Int))) (fl4 (ix (pst PB)))) := Lib.hid (HHa.out.store4 (pst PB))
              have HGb := Lib.hid (HGa.out.other4 (C := h) hgh (.int .u64 ((PB.1.1 : Nat) : Int)) (.int .u64 ((PB.1.2 : Nat) : Int)) (.int .u64 ((PB.2.1 : Nat) : Int)) (.int .u64 ((PB.2.2 : Nat) : Int)))
              have HWb := Lib.hid (HWa.out.store4 (C := h) hh2 (.int .u64 ((PB.1.1 : Nat) : Int)) (.int .u64 ((PB.1.2 : Nat) : Int)) (.int .u64 ((PB.2.1 : Nat) : Int)) (.int .u64 ((PB.2.2 : Nat) : Int)))
              refine HeadG.last (i := 17) rfl (by kernel_rfl) (by kernel_rfl) (by kernel_rfl) (fun K9 hK9 => ?_)
              go_simp
              refine hK9.out _ _ ?_
              clear hK9 K9
              try simp only [Act.put, List.setIfInBounds_toArray, List.set_cons_zero, List.set_cons_succ, List.getElem_toArray, List.getElem_cons_zero, List.getElem_cons_succ]
              go_wp2_with fail
              go_meet
              exact ⟨_, _, rfl, rfl, hgh, hg2, hh2, HGb.out, HHb.out, HWb.out⟩
            · go_simp
              have hOc : On V6 (V6.alloc (.cells #[.int .u64 0, .int .u64 0, .int .u64 0, .int .u64 0] 48)) := (On.refl HV6.out.tab).alloc _
              have HV9 := Lib.hid (HV6.out.trans hOc)
              have HB9x15 : Hid (Blk V6.heap.size (V6.alloc (.cells #[.int .u64 0, .int .u64 0, .int .u64 0, .int .u64 0] 48)) (fl4 (ix ⟨0, 0, 0, 0⟩))) := blk_new4 V6 0 0 0 0 48
              have hsz15 := Lib.hid HV6.out.size
              refine hK9.out _ _ HV9.out ?_
              clear hK9 K9 hOc
              try simp only [Act.put, List.setIfInBounds_toArray, List.set_cons_zero, List.set_cons_succ, List.getElem_toArray, List.getElem_cons_zero, List.getElem_cons_succ]
              generalize hw : V6.alloc (.cells #[.int .u64 0, .int .u64 0, .int .u64 0, .int .u64 0] 48) = V9 at *
              clear hw
              refine HeadG.one (i := 14) rfl (by kernel_rfl) (by kernel_rfl) (fun K9 hK9 => ?_)
              go_simp
              have hOc : On V9 (V9.alloc (.cells #[.int .u64 0, .int .u64 0, .int .u64 0, .int .u64 0] 48)) := (On.refl HV9.out.tab).alloc _
              have HV10 := Lib.hid (HV9.out.trans hOc)
              have HB10x14 : Hid (Blk V9.heap.size (V9.alloc (.cells #[.int .u64 0, .int .u64 0, .int .u64 0, .int .u64 0] 48)) (fl4 (ix ⟨0, 0, 0, 0⟩))) := blk_new4 V9 0 0 0 0 48
              have hsz14 := Lib.hid HV9.out.size
              have HB10x15 := Lib.hid (HB9x15.out.on hOc)
              have hne := Lib.hid HB9x15.out.1
              refine hK9.out _ _ HV10.out ?_
              clear hK9 K9 hOc
              try simp only [Act.put, List.setIfInBounds_toArray, List.set_cons_zero, List.set_cons_succ, List.getElem_toArray, List.getElem_cons_zero, List.getElem_cons_succ]
              generalize hw : V9.alloc (.cells #[.int .u64 0, .int .u64 0, .int .u64 0, .int .u64 0] 48) = V10 at *
              clear hw
              obtain ⟨g, hg⟩ : ∃ g, g = V9.heap.size := ⟨_, rfl⟩
              obtain ⟨h, hh⟩ : ∃ h, h = V6.heap.size := ⟨_, rfl⟩
              have hgh : g ≠ h := by rw [hg, hh]; have h1 := hne.out; omega
              have hg2 : wr.heap.size ≤ g := by rw [hg]; exact hsz14.out
              have hh2 : wr.heap.size ≤ h := by rw [hh]; exact hsz15.out
              have HGv := HB10x14
              have HHv := HB10x15
              rw [← hg] at HGv
              rw [← hh] at HHv
              rw [← hg, ← hh]
              obtain ⟨g0, g1, g2, g3⟩ := HGv.out.cells4
              obtain ⟨e0, e1, e2, e3⟩ := HGv.out.free4
              have HGa : Hid (Blk g ((((V10.setCell ⟨g, 0, none⟩ (.int .u64 ((PA.1.1 : Nat) : Int))).setCell ⟨g, 1, none⟩ (.int .u64 ((PA.1.2 : Nat) : Int))).setCell ⟨g, 2, none⟩ (.int .u64 ((PA.2.1 : Nat) : Int))).setCell ⟨g, 3, none⟩ (.int .u64 ((PA.2.2 : Nat) : Int))) (fl4 (ix (pst PA)))) := Lib.hid (HGv.out.store4 (pst PA))
              have HHa := Lib.hid (HHv.out.other4 (C := g) (Ne.symm hgh) (.int .u64 ((PA.1.1 : Nat) : Int)) (.int .u64 ((PA.1.2 : Nat) : Int)) (.int .u64 ((PA.2.1 : Nat) : Int)) (.int .u64 ((PA.2.2 : Nat) : Int)))
              have HWa := Lib.hid (HV10.out.store4 (C := g) hg2 (.int .u64 ((PA.1.1 : Nat) : Int)) (.int .u64 ((PA.1.2 : Nat) : Int)) (.int .u64 ((PA.2.1 : Nat) : Int)) (.int .u64 ((PA.2.2 : Nat) : Int)))
              clear hg hh
              refine HeadG.one (i := 16) rfl (by kernel_rfl) (by kernel_rfl) (fun K9 hK9 => ?_)
              go_simp
              refine hK9.out _ _ HWa.out ?_
              clear hK9 K9
              try simp only [Act.put, List.setIfInBounds_toArray, List.set_cons_zero, List.set_cons_succ, List.getElem_toArray, List.getElem_cons_zero, List.getElem_cons_succ]
              generalize hw : ((((V10.setCell ⟨g, 0, none⟩ (.int .u64 ((PA.1.1 : Nat) : Int))).setCell ⟨g, 1, none⟩ (.int .u64 ((PA.1.2 : Nat) : Int))).setCell ⟨g, 2, none⟩ (.int .u64 ((PA.2.1 : Nat) : Int))).setCell ⟨g, 3, none⟩ (.int .u64 ((PA.2.2 : Nat) : Int))) = Va at *
              clear hw g0 g1 g2 g3 e0 e1 e2 e3
              obtain ⟨g0, g1, g2, g3⟩ := HHa.out.cells4
              obtain ⟨e0, e1, e2, e3⟩ := HHa.out.free4
              have HHb : Hid (Blk h ((((Va.setCell ⟨h, 0, none⟩ (.int .u64 ((PB.1.1 : Nat) : Int))).setCell ⟨h, 1, none⟩ (.int .u64 ((PB.1.2 : Nat) : Int))).setCell ⟨h, 2, none⟩ (.int .u64 ((PB.2.1 : Nat) : Int))).setCell ⟨h, 3, none⟩ (.int .u64 ((PB.2.2 : Nat) : Int))) (fl4 (ix (pst PB)))) := Lib.hid (HHa.out.store4 (pst PB))
              have HGb := Lib.hid (HGa.out.other4 (C := h) hgh (.int .u64 ((PB.1.1 : Nat) : Int)) (.int .u64 ((PB.1.2 : Nat) : Int)) (.int .u64 ((PB.2.1 : Nat) : Int)) (.int .u64 ((PB.2.2 : Nat) : Int)))
              have HWb := Lib.hid (HWa.out.store4 (C := h) hh2 (.int .u64 ((PB.1.1 : Nat) : Int)) (.int .u64 ((PB.1.2 : Nat) : Int)) (.int .u64 ((PB.2.1 : Nat) : Int)) (.int .u64 ((PB.2.2 : Nat) : Int)))
              refine HeadG.last (i := 17) rfl (by kernel_rfl) (by kernel_rfl) (by kernel_rfl) (fun K9 hK9 => ?_)
              go_simp
              refine hK9.out _ _ ?_
              clear hK9 K9
              try simp only [Act.put, List.setIfInBounds_toArray, List.set_cons_zero, List.set_cons_succ, List.getElem_toArray, List.getElem_cons_zero, List.getElem_cons_succ]
              go_wp2_with fail
              go_meet
              exact ⟨_, _, rfl, rfl, hgh, hg2, hh2, HGb.out, HHb.out, HWb.out⟩
          · go_simp
            have hOc : On V5 (V5.alloc (.cells #[.int .u64 0, .int .u64 0, .int .u64 0, .int .u64 0] 48)) := (On.refl HV5.out.tab).alloc _
            have HV11 := Lib.hid (HV5.out.trans hOc)
            have HB11x14 : Hid (Blk V5.heap.size (V5.alloc (.cells #[.int .u64 0, .int .u64 0, .int .u64 0, .int .u64 0] 48)) (fl4 (ix ⟨0, 0, 0, 0⟩))) := blk_new4 V5 0 0 0 0 48
            have hsz14 := Lib.hid HV5.out.size
            refine hK9.out _ _ HV11.out ?_
            clear hK9 K9 hOc
            try simp only [Act.put, List.setIfInBounds_toArray, List.set_cons_zero, List.set_cons_succ, List.getElem_toArray, List.getElem_cons_zero, List.getElem_cons_succ]
            generalize hw : V5.alloc (.cells #[.int .u64 0, .int .u64 0, .int .u64 0, .int .u64 0] 48) = V11 at *
            clear hw
            refine HeadG.fork2 (i := 13) (j := 15) rfl rfl (by kernel_rfl) (by kernel_rfl) (by kernel_rfl) (fun K9 hK9 => ?_) (fun K9 hK9 => ?_)
            · go_simp
              go_at_call 53
              with_reducible refine (HPB.out _ HV11.out).mono ?_
              rintro e V12 ⟨rfl, hOc⟩
              have HV12 := Lib.hid (HV11.out.trans hOc)
              have HB12x14 := Lib.hid (HB11x14.out.on hOc)
              clear hOc
              refine hK9.out _ _ HV12.out ?_
              clear hK9 K9
              try simp only [Act.put, List.setIfInBounds_toArray, List.set_cons_zero, List.set_cons_succ, List.getElem_toArray, List.getElem_cons_zero, List.getElem_cons_succ]
              refine HeadG.one (i := 15) rfl (by kernel_rfl) (by kernel_rfl) (fun K9 hK9 => ?_)
              go_simp
              have hOc : On V12 (V12.alloc (.cells #[.int .u64 0, .int .u64 0, .int .u64 0, .int .u64 0] 48)) := (On.refl HV12.out.tab).alloc _
              have HV13 := Lib.hid (HV12.out.trans hOc)
              have HB13x15 : Hid (Blk V12.heap.size (V12.alloc (.cells #[.int .u64 0, .int .u64 0, .int .u64 0, .int .u64 0] 48)) (fl4 (ix ⟨0, 0, 0, 0⟩))) := blk_new4 V12 0 0 0 0 48
              have hsz15 := Lib.hid HV12.out.size
              have HB13x14 := Lib.hid (HB12x14.out.on hOc)
              have hne := Lib.hid HB12x14.out.1
              refine hK9.out _ _ HV13.out ?_
              clear hK9 K9 hOc
              try simp only [Act.put, List.setIfInBounds_toArray, List.set_cons_zero, List.set_cons_succ, List.getElem_toArray, List.getElem_cons_zero, List.getElem_cons_succ]
              generalize hw : V12.alloc (.cells #[.int .u64 0, .int .u64 0, .int .u64 0, .int .u64 0] 48) = V13 at *
              clear hw
              obtain ⟨g, hg⟩ : ∃ g, g = V5.heap.size := ⟨_, rfl⟩
              obtain ⟨h, hh⟩ : ∃ h, h = V12.heap.size := ⟨_, rfl⟩
              have hgh : g ≠ h := by rw [hg, hh]; have h1 := hne.out; omega
              have hg2 : wr.heap.size ≤ g := by rw [hg]; exact hsz14.out
              have hh2 : wr.heap.size ≤ h := by rw [hh]; exact hsz15.out
              have HGv := HB13x14
              have HHv := HB13x15
              rw [← hg] at HGv
              rw [← hh] at HHv
              rw [← hg, ← hh]
              obtain ⟨g0, g1, g2, g3⟩ := HGv.out.cells4
              obtain ⟨e0, e1, e2, e3⟩ := HGv.out.free4
              have HGa : Hid (Blk g ((((V13.setCell ⟨g, 0, none⟩ (.int .u64 ((PA.1.1 : Nat) : Int))).setCell ⟨g, 1, none⟩ (.int .u64 ((PA.1.2 : Nat) : Int))).setCell ⟨g, 2, none⟩ (.int .u64 ((PA.2.1 : Nat) : Int))).setCell ⟨g, 3, none⟩ (.int .u64 ((PA.2.2 : Nat) : Int))) (fl4 (ix (pst PA)))) := Lib.hid (HGv.out.store4 (pst PA))
              have HHa := Lib.hid (HHv.out.other4 (C := g) (Ne.symm hgh) (.int .u64 ((PA.1.1 : Nat) : Int)) (.int .u64 ((PA.1.2 : Nat) : Int)) (.int .u64 ((PA.2.1 : Nat) : Int)) (.int .u64 ((PA.2.2 : Nat) : Int)))
              have HWa := Lib.hid (HV13.out.store4 (C := g) hg2 (.int .u64 ((PA.1.1 : Nat) : Int)) (.int .u64 ((PA.1.2 : Nat) : Int)) (.int .u64 ((PA.2.1 : Nat) : Int)) (.int .u64 ((PA.2.2 : Nat) : Int)))
              clear hg hh
              refine HeadG.one (i := 16) rfl (by kernel_rfl) (by kernel_rfl) (fun K9 hK9 => ?_)
              go_simp
              refine hK9.out _ _ HWa.out ?_
              clear hK9 K9
              try simp only [Act.put, List.setIfInBounds_toArray, List.set_cons_zero, List.set_cons_succ, List.getElem_toArray, List.getElem_cons_zero, List.getElem_cons_succ]
              generalize hw : ((((V13.setCell ⟨g, 0, none⟩ (.int .u64 ((PA.1.1 : Nat) : Int))).setCell ⟨g, 1, none⟩ (.int .u64 ((PA.1.2 : Nat) : Int))).setCell ⟨g, 2, none⟩ (.int .u64 ((PA.2.1 : Nat) : Int))).setCell ⟨g, 3, none⟩ (.int .u64 ((PA.2.2 : Nat) : Int))) = Va at *
              clear hw g0 g1 g2 g3 e0 e1 e2 e3
              obtain ⟨g0, g1, g2, g3⟩ := HHa.out.cells4
              obtain ⟨e0, e1, e2, e3⟩ := HHa.out.free4
              have HHb : Hid (Blk h ((((Va.setCell ⟨h, 0, none⟩ (.int .u64 ((PB.1.1 : Nat) : Int))).setCell ⟨h, 1, none⟩ (.int .u64 ((PB.1.2 : Nat) : Int))).setCell ⟨h, 2, none⟩ (.int .u64 ((PB.2.1 : Nat) : Int))).setCell ⟨h, 3, none⟩ (.int .u64 ((PB.2.2 : Nat) : Int))) (fl4 (ix (pst PB)))) := Lib.hid (HHa.out.store4 (pst PB))
              have HGb := Lib.hid (HGa.out.other4 (C := h) hgh (.int .u64 ((PB.1.1 : Nat) : Int)) (.int .u64 ((PB.1.2 : Nat) : Int)) (.int .u64 ((PB.2.1 : Nat) : Int)) (.int .u64 ((PB.2.2 : Nat) : Int)))
              have HWb := Lib.hid (HWa.out.store4 (C := h) hh2 (.int .u64 ((PB.1.1 : Nat) : Int)) (.int .u64 ((PB.1.2 : Nat) : Int)) (.int .u64 ((PB.2.1 : Nat) : Int)) (.int .u64 ((PB.2.2 : Nat) : Int)))
              refine HeadG.last (i := 17) rfl (by kernel_rfl) (by kernel_rfl) (by kernel_rfl) (fun K9 hK9 => ?_)
              go_simp
              refine hK9.out _ _ ?_
              clear hK9 K9
              try simp only [Act.put, List.setIfInBounds_toArray, List.set_cons_zero, List.set_cons_succ, List.getElem_toArray, List.getElem_cons_zero, List.getElem_cons_succ]
              go_wp2_with fail
              go_meet
              exact ⟨_, _, rfl, rfl, hgh, hg2, hh2, HGb.out, HHb.out, HWb.out⟩
            · go_simp
              have hOc : On V11 (V11.alloc (.cells #[.int .u64 0, .int .u64 0, .int .u64 0, .int .u64 0] 48)) := (On.refl HV11.out.tab).alloc _
              have HV14 := Lib.hid (HV11.out.trans hOc)
              have HB14x15 : Hid (Blk V11.heap.size (V11.alloc (.cells #[.int .u64 0, .int .u64 0, .int .u64 0, .int .u64 0] 48)) (fl4 (ix ⟨0, 0, 0, 0⟩))) := blk_new4 V11 0 0 0 0 48
              have hsz15 := Lib.hid HV11.out.size
              have HB14x14 := Lib.hid (HB11x14.out.on hOc)
              have hne := Lib.hid HB11x14.out.1
              refine hK9.out _ _ HV14.out ?_
              clear hK9 K9 hOc
              try simp only [Act.put, List.setIfInBounds_toArray, List.set_cons_zero, List.set_cons_succ, List.getElem_toArray, List.getElem_cons_zero, List.getElem_cons_succ]
              generalize hw : V11.alloc (.cells #[.int .u64 0, .int .u64 0, .int .u64 0, .int .u64 0] 48) = V14 at *
              clear hw
              refine HeadG.one (i := 13) rfl (by kernel_rfl) (by kernel_rfl) (fun K9 hK9 => ?_)
              go_simp
              go_at_call 53
              with_reducible refine (HPB.out _ HV14.out).mono ?_
              rintro e V15 ⟨rfl, hOc⟩
              have HV15 := Lib.hid (HV14.out.trans hOc)
              have HB15x14 := Lib.hid (HB14x14.out.on hOc)
              have HB15x15 := Lib.hid (HB14x15.out.on hOc)
              clear hOc
              refine hK9.out _ _ HV15.out ?_
              clear hK9 K9
              try simp only [Act.put, List.setIfInBounds_toArray, List.set_cons_zero, List.set_cons_succ, List.getElem_toArray, List.getElem_cons_zero, List.getElem_cons_succ]
              obtain ⟨g, hg⟩ : ∃ g, g = V5.heap.size := ⟨_, rfl⟩
              obtain ⟨h, hh⟩ : ∃ h, h = V11.heap.size := ⟨_, rfl⟩
              have hgh : g ≠ h := by rw [hg, hh]; have h1 := hne.out; omega
              have hg2 : wr.heap.size ≤ g := by rw [hg]; exact hsz14.out
              have hh2 : wr.heap.size ≤ h := by rw [hh]; exact hsz15.out
              have HGv := HB15x14
              have HHv := HB15x15
              rw [← hg] at HGv
              rw [← hh] at HHv
              rw [← hg, ← hh]
              obtain ⟨g0, g1, g2, g3⟩ := HGv.out.cells4
              obtain ⟨e0, e1, e2, e3⟩ := HGv.out.free4
              have HGa : Hid (Blk g ((((V15.setCell ⟨g, 0, none⟩ (.int .u64 ((PA.1.1 : Nat) : Int))).setCell ⟨g, 1, none⟩ (.int .u64 ((PA.1.2 : Nat) : Int))).setCell ⟨g, 2, none⟩ (.int .u64 ((PA.2.1 : Nat) : Int))).setCell ⟨g, 3, none⟩ (.int .u64 ((PA.2.2 : Nat) : Int))) (fl4 (ix (pst PA)))) := Lib.hid (HGv.out.store4 (pst PA))
              have HHa := Lib.hid (HHv.out.other4 (C := g) (Ne.symm hgh) (.int .u64 ((PA.1.1 : Nat) : Int)) (.int .u64 ((PA.1.2 : Nat) : Int)) (.int .u64 ((PA.2.1 : Nat) : Int)) (.int .u64 ((PA.2.2 : Nat) : Int)))
              have HWa := Lib.hid (HV15.out.store4 (C := g) hg2 (.int .u64 ((PA.1.1 : Nat) : Int)) (.int .u64 ((PA.1.2 : Nat) : Int)) (.int .u64 ((PA.2.1 : Nat) : Int)) (.int .u64 ((PA.2.2 : Nat) : Int)))
              clear hg hh
              refine HeadG.one (i := 16) rfl (by kernel_rfl) (by kernel_rfl) (fun K9 hK9 => ?_)
              go_simp
              refine hK9.out _ _ HWa.out ?_
              clear hK9 K9
              try simp only [Act.put, List.setIfInBounds_toArray, List.set_cons_zero, List.set_cons_succ, List.getElem_toArray, List.getElem_cons_zero, List.getElem_cons_succ]
              generalize hw : ((((V15.setCell ⟨g, 0, none⟩ (.int .u64 ((PA.1.1 : Nat) : Int))).setCell ⟨g, 1, none⟩ (.int .u64 ((PA.1.2 : Nat) : Int))).setCell ⟨g, 2, none⟩ (.int .u64 ((PA.2.1 : Nat) : Int))).setCell ⟨g, 3, none⟩ (.int .u64 ((PA.2.2 : Nat) : Int))) = Va at *
              clear hw g0 g1 g2 g3 e0 e1 e2 e3
              obtain ⟨g0, g1, g2, g3⟩ := HHa.out.cells4
              obtain ⟨e0, e1, e2, e3⟩ := HHa.out.free4
              have HHb : Hid (Blk h ((((Va.setCell ⟨h, 0, none⟩ (.int .u64 ((PB.1.1 : Nat) : Int))).setCell ⟨h, 1, none⟩ (.int .u64 ((PB.1.2 : Nat) : Int))).setCell ⟨h, 2, none⟩ (.int .u64 ((PB.2.1 : Nat) : Int))).setCell ⟨h, 3, none⟩ (.int .u64 ((PB.2.2 : Nat) : Int))) (fl4 (ix (pst PB)))) := Lib.hid (HHa.out.store4 (pst PB))
              have HGb := Lib.hid (HGa.out.other4 (C := h) hgh (.int .u64 ((PB.1.1 : Nat) : Int)) (.int .u64 ((PB.1.2 : Nat) : Int)) (.int .u64 ((PB.2.1 : Nat) : Int)) (.int .u64 ((PB.2.2 : Nat) : Int)))
              have HWb := Lib.hid (HWa.out.store4 (C := h) hh2 (.int .u64 ((PB.1.1 : Nat) : Int)) (.int .u64 ((PB.1.2 : Nat) : Int)) (.int .u64 ((PB.2.1 : Nat) : Int)) (.int .u64 ((PB.2.2 : Nat) : Int)))
              refine HeadG.last (i := 17) rfl (by kernel_rfl) (by kernel_rfl) (by kernel_rfl) (fun K9 hK9 => ?_)
              go_simp
              refine hK9.out _ _ ?_
              clear hK9 K9
              try simp only [Act.put, List.setIfInBounds_toArray, List.set_cons_zero, List.set_cons_succ, List.getElem_toArray, List.getElem_cons_zero, List.getElem_cons_succ]
              go_wp2_with fail
              go_meet
              exact ⟨_, _, rfl, rfl, hgh, hg2, hh2, HGb.out, HHb.out, HWb.out⟩
          · go_simp
            have hOc : On V5 (V5.alloc (.cells #[.int .u64 0, .int .u64 0, .int .u64 0, .int .u64 0] 48)) := (On.refl HV5.out.tab).alloc _
            have HV16 := Lib.hid (HV5.out.trans hOc)
            have HB16x15 : Hid (Blk V5.heap.size (V5.alloc (.cells #[.int .u64 0, .int .u64 0, .int .u64 0, .int .u64 0] 48)) (fl4 (ix ⟨0, 0, 0, 0⟩))) := blk_new4 V5 0 0 0 0 48
            have hsz15 := Lib.hid HV5.out.size
            refine hK9.out _ _ HV16.out ?_
            clear hK9 K9 hOc
            try simp only [Act.put, List.setIfInBounds_toArray, List.set_cons_zero, List.set_cons_succ, List.getElem_toArray, List.getElem_cons_zero, List.getElem_cons_succ]
            generalize hw : V5.alloc (.cells #[.int .u64 0, .int .u64 0, .int .u64 0, .int .u64 0] 48) = V16 at *
            clear hw
            refine HeadG.fork2 (i := 13) (j := 14) rfl rfl (by kernel_rfl) (by kernel_rfl) (by kernel_rfl) (fun K9 hK9 => ?_) (fun K9 hK9 => ?_)
            · go_simp
              go_at_call 53
              with_reducible refine (HPB.out _ HV16.out).mono ?_
              rintro e V17 ⟨rfl, hOc⟩
              have HV17 := Lib.hid (HV16.out.trans hOc)
              have HB17x15 := Lib.hid (HB16x15.out.on hOc)
              clear hOc
              refine hK9.out _ _ HV17.out ?_
              clear hK9 K9
              try simp only [Act.put, List.setIfInBounds_toArray, List.set_cons_zero, List.set_cons_succ, List.getElem_toArray, List.getElem_cons_zero, List.getElem_cons_succ]
              refine HeadG.one (i := 14) rfl (by kernel_rfl) (by kernel_rfl) (fun K9 hK9 => ?_)
              go_simp
              have hOc : On V17 (V17.alloc (.cells #[.int .u64 0, .int .u64 0, .int .u64 0, .int .u64 0] 48)) := (On.refl HV17.out.tab).alloc _
              have HV18 := Lib.hid (HV17.out.trans hOc)
              have HB18x14 : Hid (Blk V17.heap.size (V17.alloc (.cells #[.int .u64 0, .int .u64 0, .int .u64 0, .int .u64 0] 48)) (fl4 (ix ⟨0, 0, 0, 0⟩))) := blk_new4 V17 0 0 0 0 48
              have hsz14 := Lib.hid HV17.out.size
              have HB18x15 := Lib.hid (HB17x15.out.on hOc)
              have hne := Lib.hid HB17x15.out.1
              refine hK9.out _ _ HV18.out ?_
              clear hK9 K9 hOc
              try simp only [Act.put, List.setIfInBounds_toArray, List.set_cons_zero, List.set_cons_succ, List.getElem_toArray, List.getElem_cons_zero, List.getElem_cons_succ]
              generalize hw : V17.alloc (.cells #[.int .u64 0, .int .u64 0, .int .u64 0, .int .u64 0] 48) = V18 at *
              clear hw
              obtain ⟨g, hg⟩ : ∃ g, g = V17.heap.size := ⟨_, rfl⟩
              obtain ⟨h, hh⟩ : ∃ h, h = V5.heap.size := ⟨_, rfl⟩
              have hgh : g ≠ h := by rw [hg, hh]; have h1 := hne.out; omega
              have hg2 : wr.heap.size ≤ g := by rw [hg]; exact hsz14.out
              have hh2 : wr.heap.size ≤ h := by rw [hh]; exact hsz15.out
              have HGv := HB18x14
              have HHv := HB18x15
              rw [← hg] at HGv
              rw [← hh] at HHv
              rw [← hg, ← hh]
              obtain ⟨g0, g1, g2, g3⟩ := HGv.out.cells4
              obtain ⟨e0, e1, e2, e3⟩ := HGv.out.free4
              have HGa : Hid (Blk g ((((V18.setCell ⟨g, 0, none⟩ (.int .u64 ((PA.1.1 : Nat) : Int))).setCell ⟨g, 1, none⟩ (.int .u64 ((PA.1.2 : Nat) : Int))).setCell ⟨g, 2, none⟩ (.int .u64 ((PA.2.1 : Nat) : Int))).setCell ⟨g, 3, none⟩ (.int .u64 ((PA.2.2 : Nat) : Int))) (fl4 (ix (pst PA)))) := Lib.hid (HGv.out.store4 (pst PA))
              have HHa := Lib.hid (HHv.out.other4 (C := g) (Ne.symm hgh) (.int .u64 ((PA.1.1 : Nat) : Int)) (.int .u64 ((PA.1.2 : Nat) : Int)) (.int .u64 ((PA.2.1 : Nat) : Int)) (.int .u64 ((PA.2.2 : Nat) : Int)))
              have HWa := Lib.hid (HV18.out.store4 (C := g) hg2 (.int .u64 ((PA.1.1 : Nat) : Int)) (.int .u64 ((PA.1.2 : Nat) : Int)) (.int .u64 ((PA.2.1 : Nat) : Int)) (.int .u64 ((PA.2.2 : Nat) : Int)))
              clear hg hh
              refine HeadG.one (i := 16) rfl (by kernel_rfl) (by kernel_rfl) (fun K9 hK9 => ?_)
              go_simp
              refine hK9.out _ _ HWa.out ?_
              clear hK9 K9
              try simp only [Act.put, List.setIfInBounds_toArray, List.set_cons_zero, List.set_cons_succ, List.getElem_toArray, List.getElem_cons_zero, List.getElem_cons_succ]
              generalize hw : ((((V18.setCell ⟨g, 0, none⟩ (.int .u64 ((PA.1.1 : Nat) : Int))).setCell ⟨g, 1, none⟩ (.int .u64 ((PA.1.2 : Nat) : Int))).setCell ⟨g, 2, none⟩ (.int .u64 ((PA.2.1 : Nat) : Int))).setCell ⟨g, 3, none⟩ (.int .u64 ((PA.2.2 : Nat) : Int))) = Va at *
              clear hw g0 g1 g2 g3 e0 e1 e2 e3
              obtain ⟨g0, g1, g2, g3⟩ := HHa.out.cells4
              obtain ⟨e0, e1, e2, e3⟩ := HHa.out.free4
              have HHb : Hid (Blk h ((((Va.setCell ⟨h, 0, none⟩ (.int .u64 ((PB.1.1 : Nat) : Int))).setCell ⟨h, 1, none⟩ (.int .u64 ((PB.1.2 : Nat) : Int))).setCell ⟨h, 2, none⟩ (.int .u64 ((PB.2.1 : Nat) : Int))).setCell ⟨h, 3, none⟩ (.int .u64 ((PB.2.2 : Nat) : Int))) (fl4 (ix (pst PB)))) := Lib.hid (HHa.out.store4 (pst PB))
              have HGb := Lib.hid (HGa.out.other4 (C := h) hgh (.int .u64 ((PB.1.1 : Nat) : Int)) (.int .u64 ((PB.1.2 : Nat) : Int)) (.int .u64 ((PB.2.1 : Nat) : Int)) (.int .u64 ((PB.2.2 : Nat) : Int)))
              have HWb := Lib.hid (HWa.out.store4 (C := h) hh2 (.int .u64 ((PB.1.1 : Nat) : Int)) (.int .u64 ((PB.1.2 : Nat) : Int)) (.int .u64 ((PB.2.1 : Nat) : Int)) (.int .u64 ((PB.2.2 : Nat) : Int)))
              refine HeadG.last (i := 17) rfl (by kernel_rfl) (by kernel_rfl) (by kernel_rfl) (fun K9 hK9 => ?_)
              go_simp
              refine hK9.out _ _ ?_
              clear hK9 K9
              try simp only [Act.put, List.setIfInBounds_toArray, List.set_cons_zero, List.set_cons_succ, List.getElem_toArray, List.getElem_cons_zero, List.getElem_cons_succ]
              go_wp2_with fail
              go_meet
              exact ⟨_, _, rfl, rfl, hgh, hg2, hh2, HGb.out, HHb.out, HWb.out⟩
            · go_simp
              have hOc : On V16 (V16.alloc (.cells #[.int .u64 0, .int .u64 0, .int .u64 0, .int .u64 0] 48)) := (On.refl HV16.out.tab).alloc _
              have HV19 := Lib.hid (HV16.out.trans hOc)
              have HB19x14 : Hid (Blk V16.heap.size (V16.alloc (.cells #[.int .u64 0, .int .u64 0, .int .u64 0, .int .u64 0] 48)) (fl4 (ix ⟨0, 0, 0, 0⟩))) := blk_new4 V16 0 0 0 0 48
              have hsz14 := Lib.hid HV16.out.size
              have HB19x15 := Lib.hid (HB16x15.out.on hOc)
              have hne := Lib.hid HB16x15.out.1
              refine hK9.out _ _ HV19.out ?_
              clear hK9 K9 hOc
              try simp only [Act.put, List.setIfInBounds_toArray, List.set_cons_zero, List.set_cons_succ, List.getElem_toArray, List.getElem_cons_zero, List.getElem_cons_succ]
              generalize hw : V16.alloc (.cells #[.int .u64 0, .int .u64 0, .int .u64 0, .int .u64 0] 48) = V19 at *
              clear hw
              refine HeadG.one (i := 13) rfl (by kernel_rfl) (by kernel_rfl) (fun K9 hK9 => ?_)
              go_simp
              go_at_call 53
              with_reducible refine (HPB.out _ HV19.out).mono ?_
              rintro e V20 ⟨rfl, hOc⟩
              have HV20 := Lib.hid (HV19.out.trans hOc)
              have HB20x15 := Lib.hid (HB19x15.out.on hOc)
              have HB20x14 := Lib.hid (HB19x14.out.on hOc)
              clear hOc
              refine hK9.out _ _ HV20.out ?_
              clear hK9 K9
              try simp only [Act.put, List.setIfInBounds_toArray, List.set_cons_zero, List.set_cons_succ, List.getElem_toArray, List.getElem_cons_zero, List.getElem_cons_succ]
              obtain ⟨g, hg⟩ : ∃ g, g = V16.heap.size := ⟨_, rfl⟩
              obtain ⟨h, hh⟩ : ∃ h, h = V5.heap.size := ⟨_, rfl⟩
              have hgh : g ≠ h := by rw [hg, hh]; have h1 := hne.out; omega
              have hg2 : wr.heap.size ≤ g := by rw [hg]; exact hsz14.out
              have hh2 : wr.heap.size ≤ h := by rw [hh]; exact hsz15.out
              have HGv := HB20x14
              have HHv := HB20x15
              rw [← hg] at HGv
              rw [← hh] at HHv
              rw [← hg, ← hh]
              obtain ⟨g0, g1, g2, g3⟩ := HGv.out.cells4
              obtain ⟨e0, e1, e2, e3⟩ := HGv.out.free4
              have HGa : Hid (Blk g ((((V20.setCell ⟨g, 0, none⟩ (.int .u64 ((PA.1.1 : Nat) : Int))).setCell ⟨g, 1, none⟩ (.int .u64 ((PA.1.2 : Nat) : Int))).setCell ⟨g, 2, none⟩ (.int .u64 ((PA.2.1 : Nat) : Int))).setCell ⟨g, 3, none⟩ (.int .u64 ((PA.2.2 : Nat) : Int))) (fl4 (ix (pst PA)))) := Lib.hid (HGv.out.store4 (pst PA))
              have HHa := Lib.hid (HHv.out.other4 (C := g) (Ne.symm hgh) (.int .u64 ((PA.1.1 : Nat) : Int)) (.int .u64 ((PA.1.2 : Nat) : Int)) (.int .u64 ((PA.2.1 : Nat) : Int)) (.int .u64 ((PA.2.2 : Nat) : Int)))
              have HWa := Lib.hid (HV20.out.store4 (C := g) hg2 (.int .u64 ((PA.1.1 : Nat) : Int)) (.int .u64 ((PA.1.2 : Nat) : Int)) (.int .u64 ((PA.2.1 : Nat) : Int)) (.int .u64 ((PA.2.2 : Nat) : Int)))
              clear hg hh
              refine HeadG.one (i := 16) rfl (by kernel_rfl) (by kernel_rfl) (fun K9 hK9 => ?_)
              go_simp
              refine hK9.out _ _ HWa.out ?_
              clear hK9 K9
              try simp only [Act.put, List.setIfInBounds_toArray, List.set_cons_zero, List.set_cons_succ, List.getElem_toArray, List.getElem_cons_zero, List.getElem_cons_succ]
              generalize hw : ((((V20.setCell ⟨g, 0, none⟩ (.int .u64 ((PA.1.1 : Nat) : Int))).setCell ⟨g, 1, none⟩ (.int .u64 ((PA.1.2 : Nat) : Int))).setCell ⟨g, 2, none⟩ (.int .u64 ((PA.2.1 : Nat) : Int))).setCell ⟨g, 3, none⟩ (.int .u64 ((PA.2.2 : Nat) : Int))) = Va at *
              clear hw g0 g1 g2 g3 e0 e1 e2 e3
              obtain ⟨g0, g1, g2, g3⟩ := HHa.out.cells4
              obtain ⟨e0, e1, e2, e3⟩ := HHa.out.free4
              have HHb : Hid (Blk h ((((Va.setCell ⟨h, 0, none⟩ (.int .u64 ((PB.1.1 : Nat) : Int))).setCell ⟨h, 1, none⟩ (.int .u64 ((PB.1.2 : Nat) : Int))).setCell ⟨h, 2, none⟩ (.int .u64 ((PB.2.1 : Nat) : Int))).setCell ⟨h, 3, none⟩ (.int .u64 ((PB.2.2 : Nat) : Int))) (fl4 (ix (pst PB)))) := Lib.hid (HHa.out.store4 (pst PB))
              have HGb := Lib.hid (HGa.out.other4 (C := h) hgh (.int .u64 ((PB.1.1 : Nat) : Int)) (.int .u64 ((PB.1.2 : Nat) : Int)) (.int .u64 ((PB.2.1 : Nat) : Int)) (.int .u64 ((PB.2.2 : Nat) : Int)))
              have HWb := Lib.hid (HWa.out.store4 (C := h) hh2 (.int .u64 ((PB.1.1 : Nat) : Int)) (.int .u64 ((PB.1.2 : Nat) : Int)) (.int .u64 ((PB.2.1 : Nat) : Int)) (.int .u64 ((PB.2.2 : Nat) : Int)))
              refine HeadG.last (i := 17) rfl (by kernel_rfl) (by kernel_rfl) (by kernel_rfl) (fun K9 hK9 => ?_)
              go_simp
              refine hK9.out _ _ ?_
              clear hK9 K9
              try simp only [Act.put, List.setIfInBounds_toArray, List.set_cons_zero, List.set_cons_succ, List.getElem_toArray, List.getElem_cons_zero, List.getElem_cons_succ]
              go_wp2_with fail
              go_meet
              exact ⟨_, _, rfl, rfl, hgh, hg2, hh2, HGb.out, HHb.out, HWb.out⟩
        · go_simp
          have hOc : On V0 (V0.alloc (.cells #[.int .u64 0, .int .u64 0, .int .u64 0, .int .u64 0] 48)) := (On.refl HV0.out.tab).alloc _
          have HV21 := Lib.hid (HV0.out.trans hOc)
          have HB21x14 : Hid (Blk V0.heap.size (V0.alloc (.cells #[.int .u64 0, .int .u64 0, .int .u64 0, .int .u64 0] 48)) (fl4 (ix ⟨0, 0, 0, 0⟩))) := blk_new4 V0 0 0 0 0 48
          have hsz14 := Lib.hid HV0.out.size
          refine hK9.out _ _ HV21.out ?_
          clear hK9 K9 hOc
          try simp only [Act.put, List.setIfInBounds_toArray, List.set_cons_zero, List.set_cons_succ, List.getElem_toArray, List.getElem_cons_zero, List.getElem_cons_succ]
          generalize hw : V0.alloc (.cells #[.int .u64 0, .int .u64 0, .int .u64 0, .int .u64 0] 48) = V21 at *
          clear hw
          refine HeadG.fork2 (i := 6) (j := 15) rfl rfl (by kernel_rfl) (by kernel_rfl) (by kernel_rfl) (fun K9 hK9 => ?_) (fun K9 hK9 => ?_)
          · go_simp
            go_at_call 53
            with_reducible refine (HPA.out _ HV21.out).mono ?_
            rintro e V22 ⟨rfl, hOc⟩
            have HV22 := Lib.hid (HV21.out.trans hOc)
            have HB22x14 := Lib.hid (HB21x14.out.on hOc)
            clear hOc
            refine hK9.out _ _ HV22.out ?_
            clear hK9 K9
            try simp only [Act.put, List.setIfInBounds_toArray, List.set_cons_zero, List.set_cons_succ, List.getElem_toArray, List.getElem_cons_zero, List.getElem_cons_succ]
            refine HeadG.fork2 (i := 13) (j := 15) rfl rfl (by kernel_rfl) (by kernel_rfl) (by kernel_rfl) (fun K9 hK9 => ?_) (fun K9 hK9 => ?_)
            · go_simp
              go_at_call 53
              with_reducible refine (HPB.out _ HV22.out).mono ?_
              rintro e V23 ⟨rfl, hOc⟩
              have HV23 := Lib.hid (HV22.out.trans hOc)
              have HB23x14 := Lib.hid (HB22x14.out.on hOc)
              clear hOc
              refine hK9.out _ _ HV23.out ?_
              clear hK9 K9
              try simp only [Act.put, List.setIfInBounds_toArray, List.set_cons_zero, List.set_cons_succ, List.getElem_toArray, List.getElem_cons_zero, List.getElem_cons_succ]
              refine HeadG.one (i := 15) rfl (by kernel_rfl) (by kernel_rfl) (fun K9 hK9 => ?_)
              go_simp
              have hOc : On V23 (V23.alloc (.cells #[.int .u64 0, .int .u64 0, .int .u64 0, .int .u64 0] 48)) := (On.refl HV23.out.tab).alloc _
              have HV24 := Lib.hid (HV23.out.trans hOc)
              have HB24x15 : Hid (Blk V23.heap.size (V23.alloc (.cells #[.int .u64 0, .int .u64 0, .int .u64 0, .int .u64 0] 48)) (fl4 (ix ⟨0, 0, 0, 0⟩))) := blk_new4 V23 0 0 0 0 48
              have hsz15 := Lib.hid HV23.out.size
              have HB24x14 := Lib.hid (HB23x14.out.on hOc)
              have hne := Lib.hid HB23x14.out.1
              refine hK9.out _ _ HV24.out ?_
              clear hK9 K9 hOc
              try simp only [Act.put, List.setIfInBounds_toArray, List.set_cons_zero, List.set_cons_succ, List.getElem_toArray, List.getElem_cons_zero, List.getElem_cons_succ]
              generalize hw : V23.alloc (.cells #[.int .u64 0, .int .u64 0, .int .u64 0, .int .u64 0] 48) = V24 at *
              clear hw
              obtain ⟨g, hg⟩ : ∃ g, g = V0.heap.size := ⟨_, rfl⟩
              obtain ⟨h, hh⟩ : ∃ h, h = V23.heap.size := ⟨_, rfl⟩
              have hgh : g ≠ h := by rw [hg, hh]; have h1 := hne.out; omega
              have hg2 : wr.heap.size ≤ g := by rw [hg]; exact hsz14.out
              have hh2 : wr.heap.size ≤ h := by rw [hh]; exact hsz15.out
              have HGv := HB24x14
              have HHv := HB24x15
              rw [← hg] at HGv
              rw [← hh] at HHv
              rw [← hg, ← hh]
              obtain ⟨g0, g1, g2, g3⟩ := HGv.out.cells4
              obtain ⟨e0, e1, e2, e3⟩ := HGv.out.free4
              have HGa : Hid (Blk g ((((V24.setCell ⟨g, 0, none⟩ (.int .u64 ((PA.1.1 : Nat) : Int))).setCell ⟨g, 1, none⟩ (.int .u64 ((PA.1.2 : Nat) : Int))).setCell ⟨g, 2, none⟩ (.int .u64 ((PA.2.1 : Nat) : Int))).setCell ⟨g, 3, none⟩ (.int .u64 ((PA.2.2 : Nat) : Int))) (fl4 (ix (pst PA)))) := Lib.hid (HGv.out.store4 (pst PA))
              have HHa := Lib.hid (HHv.out.other4 (C := g) (Ne.symm hgh) (.int .u64 ((PA.1.1 : Nat) : Int)) (.int .u64 ((PA.1.2 : Nat) : Int)) (.int .u64 ((PA.2.1 : Nat) : Int)) (.int .u64 ((PA.2.2 : Nat) : Int)))
              have HWa := Lib.hid (HV24.out.store4 (C := g) hg2 (.int .u64 ((PA.1.1 : Nat) : Int)) (.int .u64 ((PA.1.2 : Nat) : Int)) (.int .u64 ((PA.2.1 : Nat) : Int)) (.int .u64 ((PA.2.2 : Nat) : Int)))
              clear hg hh
              refine HeadG.one (i := 16) rfl (by kernel_rfl) (by kernel_rfl) (fun K9 hK9 => ?_)
              go_simp
              refine hK9.out _ _ HWa.out ?_
              clear hK9 K9
              try simp only [Act.put, List.setIfInBounds_toArray, List.set_cons_zero, List.set_cons_succ, List.getElem_toArray, List.getElem_cons_zero, List.getElem_cons_succ]
              generalize hw : ((((V24.setCell ⟨g, 0, none⟩ (.int .u64 ((PA.1.1 : Nat) : Int))).setCell ⟨g, 1, none⟩ (.int .u64 ((PA.1.2 : Nat) : Int))).setCell ⟨g, 2, none⟩ (.int .u64 ((PA.2.1 : Nat) : Int))).setCell ⟨g, 3, none⟩ (.int .u64 ((PA.2.2 : Nat) : Int))) = Va at *
              clear hw g0 g1 g2 g3 e0 e1 e2 e3
              obtain ⟨g0, g1, g2, g3⟩ := HHa.out.cells4
              obtain ⟨e0, e1, e2, e3⟩ := HHa.out.free4
              have HHb : Hid (Blk h ((((Va.setCell ⟨h, 0, none⟩ (.int .u64 ((PB.1.1 : Nat) : Int))).setCell ⟨h, 1, none⟩ (.int .u64 ((PB.1.2 : Nat) : Int))).setCell ⟨h, 2, none⟩ (.int .u64 ((PB.2.1 : Nat) : Int))).setCell ⟨h, 3, none⟩ (.int .u64 ((PB.2.2 : Nat) : Int))) (fl4 (ix (pst PB)))) := Lib.hid (HHa.out.store4 (pst PB))
              have HGb := Lib.hid (HGa.out.other4 (C := h) hgh (.int .u64 ((PB.1.1 : Nat) : Int)) (.int .u64 ((PB.1.2 : Nat) : Int)) (.int .u64 ((PB.2.1 : Nat) : Int)) (.int .u64 ((PB.2.2 : Nat) : Int)))
              have HWb := Lib.hid (HWa.out.store4 (C := h) hh2 (.int .u64 ((PB.1.1 : Nat) : Int)) (.int .u64 ((PB.1.2 : Nat) : Int)) (.int .u64 ((PB.2.1 : Nat) : Int)) (.int .u64 ((PB.2.2 : Nat) : Int)))
              refine HeadG.last (i := 17) rfl (by kernel_rfl) (by kernel_rfl) (by kernel_rfl) (fun K9 hK9 => ?_)
              go_simp
              refine hK9.out _ _ ?_
              clear hK9 K9
              try simp only [Act.put, List.setIfInBounds_toArray, List.set_cons_zero, List.set_cons_succ, List.getElem_toArray, List.getElem_cons_zero, List.getElem_cons_succ]
              go_wp2_with fail
              go_meet
              exact ⟨_, _, rfl, rfl, hgh, hg2, hh2, HGb.out, HHb.out, HWb.out⟩
            · go_simp
              have hOc : On V22 (V22.alloc (.cells #[.int .u64 0, .int .u64 0, .int .u64 0, .int .u64 0] 48)) := (On.refl HV22.out.tab).alloc _
              have HV25 := Lib.hid (HV22.out.trans hOc)
              have HB25x15 : Hid (Blk V22.heap.size (V22.alloc (.cells #[.int .u64 0, .int .u64 0, .int .u64 0, .int .u64 0] 48)) (fl4 (ix ⟨0, 0, 0, 0⟩))) := blk_new4 V22 0 0 0 0 48
              have hsz15 := Lib.hid HV22.out.size
              have HB25x14 := Lib.hid (HB22x14.out.on hOc)
              have hne := Lib.hid HB22x14.out.1
              refine hK9.out _ _ HV25.out ?_
              clear hK9 K9 hOc
              try simp only [Act.put, List.setIfInBounds_toArray, List.set_cons_zero, List.set_cons_succ, List.getElem_toArray, List.getElem_cons_zero, List.getElem_cons_succ]
              generalize hw : V22.alloc (.cells #[.int .u64 0, .int .u64 0, .int .u64 0, .int .u64 0] 48) = V25 at *
              clear hw
              refine HeadG.one (i := 13) rfl (by kernel_rfl) (by kernel_rfl) (fun K9 hK9 => ?_)
              go_simp
              go_at_call 53
              with_reducible refine (HPB.out _ HV25.out).mono ?_
              rintro e V26 ⟨rfl, hOc⟩
              have HV26 := Lib.hid (HV25.out.trans hOc)
              have HB26x14 := Lib.hid (HB25x14.out.on hOc)
              have HB26x15 := Lib.hid (HB25x15.out.on hOc)
              clear hOc
              refine hK9.out _ _ HV26.out ?_
              clear hK9 K9
              try simp only [Act.put, List.setIfInBounds_toArray, List.set_cons_zero, List.set_cons_succ, List.getElem_toArray, List.getElem_cons_zero, List.getElem_cons_succ]
              obtain ⟨g, hg⟩ : ∃ g, g = V0.heap.size := ⟨_, rfl⟩
              obtain ⟨h, hh⟩ : ∃ h, h = V22.heap.size := ⟨_, rfl⟩
              have hgh : g ≠ h := by rw [hg, hh]; have h1 := hne.out; omega
              have hg2 : wr.heap.size ≤ g := by rw [hg]; exact hsz14.out
              have hh2 : wr.heap.size ≤ h := by rw [hh]; exact hsz15.out
              have HGv := HB26x14
              have HHv := HB26x15
              rw [← hg] at HGv
              rw [← hh] at HHv
              rw [← hg, ← hh]
              obtain ⟨g0, g1, g2, g3⟩ := HGv.out.cells4
              obtain ⟨e0, e1, e2, e3⟩ := HGv.out.free4
              have HGa : Hid (Blk g ((((V26.setCell ⟨g, 0, none⟩ (.int .u64 ((PA.1.1 : Nat) : Int))).setCell ⟨g, 1, none⟩ (.int .u64 ((PA.1.2 : Nat) : Int))).setCell ⟨g, 2, none⟩ (.int .u64 ((PA.2.1 : Nat) : Int))).setCell ⟨g, 3, none⟩ (.int .u64 ((PA.2.2 : Nat) : Int))) (fl4 (ix (pst PA)))) := Lib.hid (HGv.out.store4 (pst PA))
              have HHa := Lib.hid (HHv.out.other4 (C := g) (Ne.symm hgh) (.int .u64 ((PA.1.1 : Nat) : Int)) (.int .u64 ((PA.1.2 : Nat) : Int)) (.int .u64 ((PA.2.1 : Nat) : Int)) (.int .u64 ((PA.2.2 : Nat) : Int)))
              have HWa := Lib.hid (HV26.out.store4 (C := g) hg2 (.int .u64 ((PA.1.1 : Nat) : Int)) (.int .u64 ((PA.1.2 : Nat) : Int)) (.int .u64 ((PA.2.1 : Nat) : Int)) (.int .u64 ((PA.2.2 : Nat) : Int)))
              clear hg hh
              refine HeadG.one (i := 16) rfl (by kernel_rfl) (by kernel_rfl) (fun K9 hK9 => ?_)
              go_simp
              refine hK9.out _ _ HWa.out ?_
              clear hK9 K9
              try simp only [Act.put, List.setIfInBounds_toArray, List.set_cons_zero, List.set_cons_succ, List.getElem_toArray, List.getElem_cons_zero, List.getElem_cons_succ]
              generalize hw : ((((V26.setCell ⟨g, 0, none⟩ (.int .u64 ((PA.1.1 : Nat) : Int))).setCell ⟨g, 1, none⟩ (.int .u64 ((PA.1.2 : Nat) : Int))).setCell ⟨g, 2, none⟩ (.int .u64 ((PA.2.1 : Nat) : Int))).setCell ⟨g, 3, none⟩ (.int .u64 ((PA.2.2 : Nat) : Int))) = Va at *
              clear hw g0 g1 g2 g3 e0 e1 e2 e3
              obtain ⟨g0, g1, g2, g3⟩ := HHa.out.cells4
              obtain ⟨e0, e1, e2, e3⟩ := HHa.out.free4
              have HHb : Hid (Blk h ((((Va.setCell ⟨h, 0, none⟩ (.int .u64 ((PB.1.1 : Nat) : Int))).setCell ⟨h, 1, none⟩ (.int .u64 ((PB.1.2 : Nat) : Int))).setCell ⟨h, 2, none⟩ (.int .u64 ((PB.2.1 : Nat) : Int))).setCell ⟨h, 3, none⟩ (.int .u64 ((PB.2.2 : Nat) : Int))) (fl4 (ix (pst PB)))) := Lib.hid (HHa.out.store4 (pst PB))
              have HGb := Lib.hid (HGa.out.other4 (C := h) hgh (.int .u64 ((PB.1.1 : Nat) : Int)) (.int .u64 ((PB.1.2 : Nat) : Int)) (.int .u64 ((PB.2.1 : Nat) : Int)) (.int .u64 ((PB.2.2 : Nat) : Int)))
              have HWb := Lib.hid (HWa.out.store4 (C := h) hh2 (.int .u64 ((PB.1.1 : Nat) : Int)) (.int .u64 ((PB.1.2 : Nat) : Int)) (.int .u64 ((PB.2.1 : Nat) : Int)) (.int .u64 ((PB.2.2 : Nat) : Int)))
              refine HeadG.last (i := 17) rfl (by kernel_rfl) (by kernel_rfl) (by kernel_rfl) (fun K9 hK9 => ?_)
              go_simp
              refine hK9.out _ _ ?_
              clear hK9 K9
              try simp only [Act.put, List.setIfInBounds_toArray, List.set_cons_zero, List.set_cons_succ, List.getElem_toArray, List.getElem_cons_zero, List.getElem_cons_succ]
              go_wp2_with fail
              go_meet
              exact ⟨_, _, rfl, rfl, hgh, hg2, hh2, HGb.out, HHb.out, HWb.out⟩
          · go_simp
            have hOc : On V21 (V21.alloc (.cells #[.int .u64 0, .int .u64 0, .int .u64 0, .int .u64 0] 48)) := (On.refl HV21.out.tab).alloc _
            have HV27 := Lib.hid (HV21.out.trans hOc)
            have HB27x15 : Hid (Blk V21.heap.size (V21.alloc (.cells #[.int .u64 0, .int .u64 0, .int .u64 0, .int .u64 0] 48)) (fl4 (ix ⟨0, 0, 0, 0⟩))) := blk_new4 V21 0 0 0 0 48
            have hsz15 := Lib.hid HV21.out.size
            have HB27x14 := Lib.hid (HB21x14.out.on hOc)
            have hne := Lib.hid HB21x14.out.1
            refine hK9.out _ _ HV27.out ?_
            clear hK9 K9 hOc
            try simp only [Act.put, List.setIfInBounds_toArray, List.set_cons_zero, List.set_cons_succ, List.getElem_toArray, List.getElem_cons_zero, List.getElem_cons_succ]
            generalize hw : V21.alloc (.cells #[.int .u64 0, .int .u64 0, .int .u64 0, .int .u64 0] 48) = V27 at *
            clear hw
            refine HeadG.one (i := 6) rfl (by kernel_rfl) (by kernel_rfl) (fun K9 hK9 => ?_)
            go_simp
            go_at_call 53
            with_reducible refine (HPA.out _ HV27.out).mono ?_
            rintro e V28 ⟨rfl, hOc⟩
            have HV28 := Lib.hid (HV27.out.trans hOc)
            have HB28x14 := Lib.hid (HB27x14.out.on hOc)
            have HB28x15 := Lib.hid (HB27x15.out.on hOc)
            clear hOc
            refine hK9.out _ _ HV28.out ?_
            clear hK9 K9
            try simp only [Act.put, List.setIfInBounds_toArray, List.set_cons_zero, List.set_cons_succ, List.getElem_toArray, List.getElem_cons_zero, List.getElem_cons_succ]
            refine HeadG.one (i := 13) rfl (by kernel_rfl) (by kernel_rfl) (fun K9 hK9 => ?_)
            go_simp
            go_at_call 53
            with_reducible refine (HPB.out _ HV28.out).mono ?_
            rintro e V29 ⟨rfl, hOc⟩
            have HV29 := Lib.hid (HV28.out.trans hOc)
            have HB29x14 := Lib.hid (HB28x14.out.on hOc)
            have HB29x15 := Lib.hid (HB28x15.out.on hOc)
            clear hOc
            refine hK9.out _ _ HV29.out ?_
            clear hK9 K9
            try simp only [Act.put, List.setIfInBounds_toArray, List.set_cons_zero, List.set_cons_succ, List.getElem_toArray, List.getElem_cons_zero, List.getElem_cons_succ]
            obtain ⟨g, hg⟩ : ∃ g, g = V0.heap.size := ⟨_, rfl⟩
            obtain ⟨h, hh⟩ : ∃ h, h = V21.heap.size := ⟨_, rfl⟩
            have hgh : g ≠ h := by rw [hg, hh]; have h1 := hne.out; omega
            have hg2 : wr.heap.size ≤ g := by rw [hg]; exact hsz14.out
            have hh2 : wr.heap.size ≤ h := by rw [hh]; exact hsz15.out
            have HGv := HB29x14
            have HHv := HB29x15
            rw [← hg] at HGv
            rw [← hh] at HHv
            rw [← hg, ← hh]
            obtain ⟨g0, g1, g2, g3⟩ := HGv.out.cells4
            obtain ⟨e0, e1, e2, e3⟩ := HGv.out.free4
            have HGa : Hid (Blk g ((((V29.setCell ⟨g, 0, none⟩ (.int .u64 ((PA.1.1 : Nat) : Int))).setCell ⟨g, 1, none⟩ (.int .u64 ((PA.1.2 : Nat) : Int))).setCell ⟨g, 2, none⟩ (.int .u64 ((PA.2.1 : Nat) : Int))).setCell ⟨g, 3, none⟩ (.int .u64 ((PA.2.2 : Nat) : Int))) (fl4 (ix (pst PA)))) := Lib.hid (HGv.out.store4 (pst PA))
            have HHa := Lib.hid (HHv.out.other4 (C := g) (Ne.symm hgh) (.int .u64 ((PA.1.1 : Nat) : Int)) (.int .u64 ((PA.1.2 : Nat) : Int)) (.int .u64 ((PA.2.1 : Nat) : Int)) (.int .u64 ((PA.2.2 : Nat) : Int)))
            have HWa := Lib.hid (HV29.out.store4 (C := g) hg2 (.int .u64 ((PA.1.1 : Nat) : Int)) (.int .u64 ((PA.1.2 : Nat) : Int)) (.int .u64 ((PA.2.1 : Nat) : Int)) (.int .u64 ((PA.2.2 : Nat) : Int)))
            clear hg hh
            refine HeadG.one (i := 16) rfl (by kernel_rfl) (by kernel_rfl) (fun K9 hK9 => ?_)
            go_simp
            refine hK9.out _ _ HWa.out ?_
            clear hK9 K9
            try simp only [Act.put, List.setIfInBounds_toArray, List.set_cons_zero, List.set_cons_succ, List.getElem_toArray, List.getElem_cons_zero, List.getElem_cons_succ]
            generalize hw : ((((V29.setCell ⟨g, 0, none⟩ (.int .u64 ((PA.1.1 : Nat) : Int))).setCell ⟨g, 1, none⟩ (.int .u64 ((PA.1.2 : Nat) : Int))).setCell ⟨g, 2, none⟩ (.int .u64 ((PA.2.1 : Nat) : Int))).setCell ⟨g, 3, none⟩ (.int .u64 ((PA.2.2 : Nat) : Int))) = Va at *
            clear hw g0 g1 g2 g3 e0 e1 e2 e3
            obtain ⟨g0, g1, g2, g3⟩ := HHa.out.cells4
            obtain ⟨e0, e1, e2, e3⟩ := HHa.out.free4
            have HHb : Hid (Blk h ((((Va.setCell ⟨h, 0, none⟩ (.int .u64 ((PB.1.1 : Nat) : Int))).setCell ⟨h, 1, none⟩ (.int .u64 ((PB.1.2 : Nat) : Int))).setCell ⟨h, 2, none⟩ (.int .u64 ((PB.2.1 : Nat) : Int))).setCell ⟨h, 3, none⟩ (.int .u64 ((PB.2.2 : Nat) : Int))) (fl4 (ix (pst PB)))) := Lib.hid (HHa.out.store4 (pst PB))
            have HGb := Lib.hid (HGa.out.other4 (C := h) hgh (.int .u64 ((PB.1.1 : Nat) : Int)) (.int .u64 ((PB.1.2 : Nat) : Int)) (.int .u64 ((PB.2.1 : Nat) : Int)) (.int .u64 ((PB.2.2 : Nat) : Int)))
            have HWb := Lib.hid (HWa.out.store4 (C := h) hh2 (.int .u64 ((PB.1.1 : Nat) : Int)) (.int .u64 ((PB.1.2 : Nat) : Int)) (.int .u64 ((PB.2.1 : Nat) : Int)) (.int .u64 ((PB.2.2 : Nat) : Int)))
            refine HeadG.last (i := 17) rfl (by kernel_rfl) (by kernel_rfl) (by kernel_rfl) (fun K9 hK9 => ?_)
            go_simp
            refine hK9.out _ _ ?_
            clear hK9 K9
            try simp only [Act.put, List.setIfInBounds_toArray, List.set_cons_zero, List.set_cons_succ, List.getElem_toArray, List.getElem_cons_zero, List.getElem_cons_succ]
            go_wp2_with fail
            go_meet
            exact ⟨_, _, rfl, rfl, hgh, hg2, hh2, HGb.out, HHb.out, HWb.out⟩
        · go_simp
          have hOc : On V0 (V0.alloc (.cells #[.int .u64 0, .int .u64 0, .int .u64 0, .int .u64 0] 48)) := (On.refl HV0.out.tab).alloc _
          have HV30 := Lib.hid (HV0.out.trans hOc)
          have HB30x15 : Hid (Blk V0.heap.size (V0.alloc (.cells #[.int .u64 0, .int .u64 0, .int .u64 0, .int .u64 0] 48)) (fl4 (ix ⟨0, 0, 0, 0⟩))) := blk_new4 V0 0 0 0 0 48
          have hsz15 := Lib.hid HV0.out.size
          refine hK9.out _ _ HV30.out ?_
          clear hK9 K9 hOc
          try simp only [Act.put, List.setIfInBounds_toArray, List.set_cons_zero, List.set_cons_succ, List.getElem_toArray, List.getElem_cons_zero, List.getElem_cons_succ]
          generalize hw : V0.alloc (.cells #[.int .u64 0, .int .u64 0, .int .u64 0, .int .u64 0] 48) = V30 at *
          clear hw
          refine HeadG.fork2 (i := 6) (j := 14) rfl rfl (by kernel_rfl) (by kernel_rfl) (by kernel_rfl) (fun K9 hK9 => ?_) (fun K9 hK9 => ?_)
          · go_simp
            go_at_call 53
            with_reducible refine (HPA.out _ HV30.out).mono ?_
            rintro e V31 ⟨rfl, hOc⟩
            have HV31 := Lib.hid (HV30.out.trans hOc)
            have HB31x15 := Lib.hid (HB30x15.out.on hOc)
            clear hOc
            refine hK9.out _ _ HV31.out ?_
            clear hK9 K9
            try simp only [Act.put, List.setIfInBounds_toArray, List.set_cons_zero, List.set_cons_succ, List.getElem_toArray, List.getElem_cons_zero, List.getElem_cons_succ]
            refine HeadG.fork2 (i := 13) (j := 14) rfl rfl (by kernel_rfl) (by kernel_rfl) (by kernel_rfl) (fun K9 hK9 => ?_) (fun K9 hK9 => ?_)
            · go_simp
              go_at_call 53
              with_reducible refine (HPB.out _ HV31.out).mono ?_
              rintro e V32 ⟨rfl, hOc⟩
              have HV32 := Lib.hid (HV31.out.trans hOc)
              have HB32x15 := Lib.hid (HB31x15.out.on hOc)
              clear hOc
              refine hK9.out _ _ HV32.out ?_
              clear hK9 K9
              try simp only [Act.put, List.setIfInBounds_toArray, List.set_cons_zero, List.set_cons_succ, List.getElem_toArray, List.getElem_cons_zero, List.getElem_cons_succ]
              refine HeadG.one (i := 14) rfl (by kernel_rfl) (by kernel_rfl) (fun K9 hK9 => ?_)
              go_simp
              have hOc : On V32 (V32.alloc (.cells #[.int .u64 0, .int .u64 0, .int .u64 0, .int .u64 0] 48)) := (On.refl HV32.out.tab).alloc _
              have HV33 := Lib.hid (HV32.out.trans hOc)
              have HB33x14 : Hid (Blk V32.heap.size (V32.alloc (.cells #[.int .u64 0, .int .u64 0, .int .u64 0, .int .u64 0] 48)) (fl4 (ix ⟨0, 0, 0, 0⟩))) := blk_new4 V32 0 0 0 0 48
              have hsz14 := Lib.hid HV32.out.size
              have HB33x15 := Lib.hid (HB32x15.out.on hOc)
              have hne := Lib.hid HB32x15.out.1
              refine hK9.out _ _ HV33.out ?_
              clear hK9 K9 hOc
              try simp only [Act.put, List.setIfInBounds_toArray, List.set_cons_zero, List.set_cons_succ, List.getElem_toArray, List.getElem_cons_zero, List.getElem_cons_succ]
              generalize hw : V32.alloc (.cells #[.int .u64 0, .int .u64 0, .int .u64 0, .int .u64 0] 48) = V33 at *
              clear hw
              obtain ⟨g, hg⟩ : ∃ g, g = V32.heap.size := ⟨_, rfl⟩
              obtain ⟨h, hh⟩ : ∃ h, h = V0.heap.size := ⟨_, rfl⟩
              have hgh : g ≠ h := by rw [hg, hh]; have h1 := hne.out; omega
              have hg2 : wr.heap.size ≤ g := by rw [hg]; exact hsz14.out
              have hh2 : wr.heap.size ≤ h := by rw [hh]; exact hsz15.out
              have HGv := HB33x14
              have HHv := HB33x15
              rw [← hg] at HGv
              rw [← hh] at HHv
              rw [← hg, ← hh]
              obtain ⟨g0, g1, g2, g3⟩ := HGv.out.cells4
              obtain ⟨e0, e1, e2, e3⟩ := HGv.out.free4
              have HGa : Hid (Blk g ((((V33.setCell ⟨g, 0, none⟩ (.int .u64 ((PA.1.1 : Nat) : Int))).setCell ⟨g, 1, none⟩ (.int .u64 ((PA.1.2 : Nat) : Int))).setCell ⟨g, 2, none⟩ (.int .u64 ((PA.2.1 : Nat) : Int))).setCell ⟨g, 3, none⟩ (.int .u64 ((PA.2.2 : Nat) : Int))) (fl4 (ix (pst PA)))) := Lib.hid (HGv.out.store4 (pst PA))
              have HHa := Lib.hid (HHv.out.other4 (C := g) (Ne.symm hgh) (.int .u64 ((PA.1.1 : Nat) : Int)) (.int .u64 ((PA.1.2 : Nat) : Int)) (.int .u64 ((PA.2.1 : Nat) : Int)) (.int .u64 ((PA.2.2 : Nat) : Int)))
              have HWa := Lib.hid (HV33.out.store4 (C := g) hg2 (.int .u64 ((PA.1.1 : Nat) : Int)) (.int .u64 ((PA.1.2 : Nat) : Int)) (.int .u64 ((PA.2.1 : Nat) : Int)) (.int .u64 ((PA.2.2 : Nat) : Int)))
              clear hg hh
              refine HeadG.one (i := 16) rfl (by kernel_rfl) (by kernel_rfl) (fun K9 hK9 => ?_)
              go_simp
              refine hK9.out _ _ HWa.out ?_
              clear hK9 K9
              try simp only [Act.put, List.setIfInBounds_toArray, List.set_cons_zero, List.set_cons_succ, List.getElem_toArray, List.getElem_cons_zero, List.getElem_cons_succ]
              generalize hw : ((((V33.setCell ⟨g, 0, none⟩ (.int .u64 ((PA.1.1 : Nat) : Int))).setCell ⟨g, 1, none⟩ (.int .u64 ((PA.1.2 : Nat) : Int))).setCell ⟨g, 2, none⟩ (.int .u64 ((PA.2.1 : Nat) : Int))).setCell ⟨g, 3, none⟩ (.int .u64 ((PA.2.2 : Nat) : Int))) = Va at *
              clear hw g0 g1 g2 g3 e0 e1 e2 e3
              obtain ⟨g0, g1, g2, g3⟩ := HHa.out.cells4
              obtain ⟨e0, e1, e2, e3⟩ := HHa.out.free4
              have HHb : Hid (Blk h ((((Va.setCell ⟨h, 0, none⟩ (.int .u64 ((PB.1.1 : Nat) : Int))).setCell ⟨h, 1, none⟩ (.int .u64 ((PB.1.2 : Nat) : Int))).setCell ⟨h, 2, none⟩ (.int .u64 ((PB.2.1 : Nat) : Int))).setCell ⟨h, 3, none⟩ (.int .u64 ((PB.2.2 : Nat) : Int))) (fl4 (ix (pst PB)))) := Lib.hid (HHa.out.store4 (pst PB))
              have HGb := Lib.hid (HGa.out.other4 (C := h) hgh (.int .u64 ((PB.1.1 : Nat) : Int)) (.int .u64 ((PB.1.2 : Nat) : Int)) (.int .u64 ((PB.2.1 : Nat) : Int)) (.int .u64 ((PB.2.2 : Nat) : Int)))
              have HWb := Lib.hid (HWa.out.store4 (C := h) hh2 (.int .u64 ((PB.1.1 : Nat) : Int)) (.int .u64 ((PB.1.2 : Nat) : Int)) (.int .u64 ((PB.2.1 : Nat) : Int)) (.int .u64 ((PB.2.2 : Nat) : Int)))
              refine HeadG.last (i := 17) rfl (by kernel_rfl) (by kernel_rfl) (by kernel_rfl) (fun K9 hK9 => ?_)
              go_simp
              refine hK9.out _ _ ?_
              clear hK9 K9
              try simp only [Act.put, List.setIfInBounds_toArray, List.set_cons_zero, List.set_cons_succ, List.getElem_toArray, List.getElem_cons_zero, List.getElem_cons_succ]
              go_wp2_with fail
              go_meet
              exact ⟨_, _, rfl, rfl, hgh, hg2, hh2, HGb.out, HHb.out, HWb.out⟩
            · go_simp
              have hOc : On V31 (V31.alloc (.cells #[.int .u64 0, .int .u64 0, .int .u64 0, .int .u64 0] 48)) := (On.refl HV31.out.tab).alloc _
              have HV34 := Lib.hid (HV31.out.trans hOc)
              have HB34x14 : Hid (Blk V31.heap.size (V31.alloc (.cells #[.int .u64 0, .int .u64 0, .int .u64 0, .int .u64 0] 48)) (fl4 (ix ⟨0, 0, 0, 0⟩))) := blk_new4 V31 0 0 0 0 48
              have hsz14 := Lib.hid HV31.out.size
              have HB34x15 := Lib.hid (HB31x15.out.on hOc)
              have hne := Lib.hid HB31x15.out.1
              refine hK9.out _ _ HV34.out ?_
              clear hK9 K9 hOc
              try simp only [Act.put, List.setIfInBounds_toArray, List.set_cons_zero, List.set_cons_succ, List.getElem_toArray, List.getElem_cons_zero, List.getElem_cons_succ]
              generalize hw : V31.alloc (.cells #[.int .u64 0, .int .u64 0, .int .u64 0, .int .u64 0] 48) = V34 at *
              clear hw
              refine HeadG.one (i := 13) rfl (by kernel_rfl) (by kernel_rfl) (fun K9 hK9 => ?_)
              go_simp
              go_at_call 53
              with_reducible refine (HPB.out _ HV34.out).mono ?_
              rintro e V35 ⟨rfl, hOc⟩
              have HV35 := Lib.hid (HV34.out.trans hOc)
              have HB35x15 := Lib.hid (HB34x15.out.on hOc)
              have HB35x14 := Lib.hid (HB34x14.out.on hOc)
              clear hOc
              refine hK9.out _ _ HV35.out ?_
              clear hK9 K9
              try simp only [Act.put, List.setIfInBounds_toArray, List.set_cons_zero, List.set_cons_succ, List.getElem_toArray, List.getElem_cons_zero, List.getElem_cons_succ]
              obtain ⟨g, hg⟩ : ∃ g, g = V31.heap.size := ⟨_, rfl⟩
              obtain ⟨h, hh⟩ : ∃ h, h = V0.heap.size := ⟨_, rfl⟩
              have hgh : g ≠ h := by rw [hg, hh]; have h1 := hne.out; omega
              have hg2 : wr.heap.size ≤ g := by rw [hg]; exact hsz14.out
              have hh2 : wr.heap.size ≤ h := by rw [hh]; exact hsz15.out
              have HGv := HB35x14
              have HHv := HB35x15
              rw [← hg] at HGv
              rw [← hh] at HHv
              rw [← hg, ← hh]
              obtain ⟨g0, g1, g2, g3⟩ := HGv.out.cells4
              obtain ⟨e0, e1, e2, e3⟩ := HGv.out.free4
              have HGa : Hid (Blk g ((((V35.setCell ⟨g, 0, none⟩ (.int .u64 ((PA.1.1 : Nat) : Int))).setCell ⟨g, 1, none⟩ (.int .u64 ((PA.1.2 : Nat) : Int))).setCell ⟨g, 2, none⟩ (.int .u64 ((PA.2.1 : Nat) : Int))).setCell ⟨g, 3, none⟩ (.int .u64 ((PA.2.2 : Nat) : Int))) (fl4 (ix (pst PA)))) := Lib.hid (HGv.out.store4 (pst PA))
              have HHa := Lib.hid (HHv.out.other4 (C := g) (Ne.symm hgh) (.int .u64 ((PA.1.1 : Nat) : Int)) (.int .u64 ((PA.1.2 : Nat) : Int)) (.int .u64 ((PA.2.1 : Nat) : Int)) (.int .u64 ((PA.2.2 : Nat) : Int)))
              have HWa := Lib.hid (HV35.out.store4 (C := g) hg2 (.int .u64 ((PA.1.1 : Nat) : Int)) (.int .u64 ((PA.1.2 : Nat) : Int)) (.int .u64 ((PA.2.1 : Nat) : Int)) (.int .u64 ((PA.2.2 : Nat) : Int)))
              clear hg hh
              refine HeadG.one (i := 16) rfl (by kernel_rfl) (by kernel_rfl) (fun K9 hK9 => ?_)
              go_simp
              refine hK9.out _ _ HWa.out ?_
              clear hK9 K9
              try simp only [Act.put, List.setIfInBounds_toArray, List.set_cons_zero, List.set_cons_succ, List.getElem_toArray, List.getElem_cons_zero, List.getElem_cons_succ]
              generalize hw : ((((V35.setCell ⟨g, 0, none⟩ (.int .u64 ((PA.1.1 : Nat) : Int))).setCell ⟨g, 1, none⟩ (.int .u64 ((PA.1.2 : Nat) : Int))).setCell ⟨g, 2, none⟩ (.int .u64 ((PA.2.1 : Nat) : Int))).setCell ⟨g, 3, none⟩ (.int .u64 ((PA.2.2 : Nat) : Int))) = Va at *
              clear hw g0 g1 g2 g3 e0 e1 e2 e3
              obtain ⟨g0, g1, g2, g3⟩ := HHa.out.cells4
              obtain ⟨e0, e1, e2, e3⟩ := HHa.out.free4
              have HHb : Hid (Blk h ((((Va.setCell ⟨h, 0, none⟩ (.int .u64 ((PB.1.1 : Nat) : Int))).setCell ⟨h, 1, none⟩ (.int .u64 ((PB.1.2 : Nat) : Int))).setCell ⟨h, 2, none⟩ (.int .u64 ((PB.2.1 : Nat) : Int))).setCell ⟨h, 3, none⟩ (.int .u64 ((PB.2.2 : Nat) : Int))) (fl4 (ix (pst PB)))) := Lib.hid (HHa.out.store4 (pst PB))
              have HGb := Lib.hid (HGa.out.other4 (C := h) hgh (.int .u64 ((PB.1.1 : Nat) : Int)) (.int .u64 ((PB.1.2 : Nat) : Int)) (.int .u64 ((PB.2.1 : Nat) : Int)) (.int .u64 ((PB.2.2 : Nat) : Int)))
              have HWb := Lib.hid (HWa.out.store4 (C := h) hh2 (.int .u64 ((PB.1.1 : Nat) : Int)) (.int .u64 ((PB.1.2 : Nat) : Int)) (.int .u64 ((PB.2.1 : Nat) : Int)) (.int .u64 ((PB.2.2 : Nat) : Int)))
              refine HeadG.last (i := 17) rfl (by kernel_rfl) (by kernel_rfl) (by kernel_rfl) (fun K9 hK9 => ?_)
              go_simp
              refine hK9.out _ _ ?_
              clear hK9 K9
              try simp only [Act.put, List.setIfInBounds_toArray, List.set_cons_zero, List.set_cons_succ, List.getElem_toArray, List.getElem_cons_zero, List.getElem_cons_succ]
              go_wp2_with fail
              go_meet
              exact ⟨_, _, rfl, rfl, hgh, hg2, hh2, HGb.out, HHb.out, HWb.out⟩
          · go_simp
            have hOc : On V30 (V30.alloc (.cells #[.int .u64 0, .int .u64 0, .int .u64 0, .int .u64 0] 48)) := (On.refl HV30.out.tab).alloc _
            have HV36 := Lib.hid (HV30.out.trans hOc)
            have HB36x14 : Hid (Blk V30.heap.size (V30.alloc (.cells #[.int .u64 0, .int .u64 0, .int .u64 0, .int .u64 0] 48)) (fl4 (ix ⟨0, 0, 0, 0⟩))) := blk_new4 V30 0 0 0 0 48
            have hsz14 := Lib.hid HV30.out.size
            have HB36x15 := Lib.hid (HB30x15.out.on hOc)
            have hne := Lib.hid HB30x15.out.1
            refine hK9.out _ _ HV36.out ?_
            clear hK9 K9 hOc
            try simp only [Act.put, List.setIfInBounds_toArray, List.set_cons_zero, List.set_cons_succ, List.getElem_toArray, List.getElem_cons_zero, List.getElem_cons_succ]
            generalize hw : V30.alloc (.cells #[.int .u64 0, .int .u64 0, .int .u64 0, .int .u64 0] 48) = V36 at *
            clear hw
            refine HeadG.one (i := 6) rfl (by kernel_rfl) (by kernel_rfl) (fun K9 hK9 => ?_)
            go_simp
            go_at_call 53
            with_reducible refine (HPA.out _ HV36.out).mono ?_
            rintro e V37 ⟨rfl, hOc⟩
            have HV37 := Lib.hid (HV36.out.trans hOc)
            have HB37x15 := Lib.hid (HB36x15.out.on hOc)
            have HB37x14 := Lib.hid (HB36x14.out.on hOc)
            clear hOc
            refine hK9.out _ _ HV37.out ?_
            clear hK9 K9
            try simp only [Act.put, List.setIfInBounds_toArray, List.set_cons_zero, List.set_cons_succ, List.getElem_toArray, List.getElem_cons_zero, List.getElem_cons_succ]
            refine HeadG.one (i := 13) rfl (by kernel_rfl) (by kernel_rfl) (fun K9 hK9 => ?_)
            go_simp
            go_at_call 53
            with_reducible refine (HPB.out _ HV37.out).mono ?_
            rintro e V38 ⟨rfl, hOc⟩
            have HV38 := Lib.hid (HV37.out.trans hOc)
            have HB38x15 := Lib.hid (HB37x15.out.on hOc)
            have HB38x14 := Lib.hid (HB37x14.out.on hOc)
            clear hOc
            refine hK9.out _ _ HV38.out ?_
            clear hK9 K9
            try simp only [Act.put, List.setIfInBounds_toArray, List.set_cons_zero, List.set_cons_succ, List.getElem_toArray, List.getElem_cons_zero, List.getElem_cons_succ]
            obtain ⟨g, hg⟩ : ∃ g, g = V30.heap.size := ⟨_, rfl⟩
            obtain ⟨h, hh⟩ : ∃ h, h = V0.heap.size := ⟨_, rfl⟩
            have hgh : g ≠ h := by rw [hg, hh]; have h1 := hne.out; omega
            have hg2 : wr.heap.size ≤ g := by rw [hg]; exact hsz14.out
            have hh2 : wr.heap.size ≤ h := by rw [hh]; exact hsz15.out
            have HGv := HB38x14
            have HHv := HB38x15
            rw [← hg] at HGv
            rw [← hh] at HHv
            rw [← hg, ← hh]
            obtain ⟨g0, g1, g2, g3⟩ := HGv.out.cells4
            obtain ⟨e0, e1, e2, e3⟩ := HGv.out.free4
            have HGa : Hid (Blk g ((((V38.setCell ⟨g, 0, none⟩ (.int .u64 ((PA.1.1 : Nat) : Int))).setCell ⟨g, 1, none⟩ (.int .u64 ((PA.1.2 : Nat) : Int))).setCell ⟨g, 2, none⟩ (.int .u64 ((PA.2.1 : Nat) : Int))).setCell ⟨g, 3, none⟩ (.int .u64 ((PA.2.2 : Nat) : Int))) (fl4 (ix (pst PA)))) := Lib.hid (HGv.out.store4 (pst PA))
            have HHa := Lib.hid (HHv.out.other4 (C := g) (Ne.symm hgh) (.int .u64 ((PA.1.1 : Nat) : Int)) (.int .u64 ((PA.1.2 : Nat) : Int)) (.int .u64 ((PA.2.1 : Nat) : Int)) (.int .u64 ((PA.2.2 : Nat) : Int)))
            have HWa := Lib.hid (HV38.out.store4 (C := g) hg2 (.int .u64 ((PA.1.1 : Nat) : Int)) (.int .u64 ((PA.1.2 : Nat) : Int)) (.int .u64 ((PA.2.1 : Nat) : Int)) (.int .u64 ((PA.2.2 : Nat) : Int)))
            clear hg hh
            refine HeadG.one (i := 16) rfl (by kernel_rfl) (by kernel_rfl) (fun K9 hK9 => ?_)
            go_simp
            refine hK9.out _ _ HWa.out ?_
            clear hK9 K9
            try simp only [Act.put, List.setIfInBounds_toArray, List.set_cons_zero, List.set_cons_succ, List.getElem_toArray, List.getElem_cons_zero, List.getElem_cons_succ]
            generalize hw : ((((V38.setCell ⟨g, 0, none⟩ (.int .u64 ((PA.1.1 : Nat) : Int))).setCell ⟨g, 1, none⟩ (.int .u64 ((PA.1.2 : Nat) : Int))).setCell ⟨g, 2, none⟩ (.int .u64 ((PA.2.1 : Nat) : Int))).setCell ⟨g, 3, none⟩ (.int .u64 ((PA.2.2 : Nat) : Int))) = Va at *
            clear hw g0 g1 g2 g3 e0 e1 e2 e3
            obtain ⟨g0, g1, g2, g3⟩ := HHa.out.cells4
            obtain ⟨e0, e1, e2, e3⟩ := HHa.out.free4
            have HHb : Hid (Blk h ((((Va.setCell ⟨h, 0, none⟩ (.int .u64 ((PB.1.1 : Nat) : Int))).setCell ⟨h, 1, none⟩ (.int .u64 ((PB.1.2 : Nat) : Int))).setCell ⟨h, 2, none⟩ (.int .u64 ((PB.2.1 : Nat) : Int))).setCell ⟨h, 3, none⟩ (.int .u64 ((PB.2.2 : Nat) : Int))) (fl4 (ix (pst PB)))) := Lib.hid (HHa.out.store4 (pst PB))
            have HGb := Lib.hid (HGa.out.other4 (C := h) hgh (.int .u64 ((PB.1.1 : Nat) : Int)) (.int .u64 ((PB.1.2 : Nat) : Int)) (.int .u64 ((PB.2.1 : Nat) : Int)) (.int .u64 ((PB.2.2 : Nat) : Int)))
            have HWb := Lib.hid (HWa.out.store4 (C := h) hh2 (.int .u64 ((PB.1.1 : Nat) : Int)) (.int .u64 ((PB.1.2 : Nat) : Int)) (.int .u64 ((PB.2.1 : Nat) : Int)) (.int .u64 ((PB.2.2 : Nat) : Int)))
            refine HeadG.last (i := 17) rfl (by kernel_rfl) (by kernel_rfl) (by kernel_rfl) (fun K9 hK9 => ?_)
            go_simp
            refine hK9.out _ _ ?_
            clear hK9 K9
            try simp only [Act.put, List.setIfInBounds_toArray, List.set_cons_zero, List.set_cons_succ, List.getElem_toArray, List.getElem_cons_zero, List.getElem_cons_succ]
            go_wp2_with fail
            go_meet
            exact ⟨_, _, rfl, rfl, hgh, hg2, hh2, HGb.out, HHb.out, HWb.out⟩
      case rest =>
      rename World => wa
      obtain ⟨g, h, rfl, rfl, hgh, hg2, hh2, hG, hH, hOa⟩ := hcut
      have HG := Lib.hid hG
      have HH := Lib.hid hH
      have HGH : Hid (g ≠ h ∧ wr.heap.size ≤ g ∧ wr.heap.size ≤ h) := ⟨hgh, hg2, hh2⟩
      have HRA := Lib.hid (HS.out.1.on hOa)
      have HOA := Lib.hid (HS.out.2.trans hOa)
      have hsx : X < wr.heap.size ∧ Y < wr.heap.size := ⟨HS.out.1.bx.1, HS.out.1.by_.1⟩
      have HGX : Hid (g ≠ X ∧ g ≠ Y ∧ h ≠ X ∧ h ≠ Y ∧ n0 + 5 ≤ g ∧ n0 + 5 ≤ h) := by have h5 := HXY.out; refine Lib.hid ⟨?_, ?_, ?_, ?_, ?_, ?_⟩ <;> omega
      clear hgh hg2 hh2 hG hH hOa hsx HPA HPB HK HS
      obtain ⟨g0, g1, g2, g3⟩ := HG.out.cells4
      obtain ⟨h0, h1, h2, h3⟩ := HH.out.cells4
      simp only [pst, ix] at g0 g1 g2 g3 h0 h1 h2 h3
      have hq := eq_pr PA PB
      obtain ⟨D, hD⟩ : ∃ D, D = decide (PA = PB) := ⟨_, rfl⟩
      rw [← hD] at hq
      have HD := Lib.hid hD
      clear hD
      go_upto_if 104 with fail
      clear hq
      go_cut [18] from 82 to 120 (fun v18 wx => v18 = .bool c2.2.2 ∧ Hid (RC n0 X Y xa xb c2.1 c2.2.1 Z wx ∧ On w wx ∧ Blk g wx (fl4 (ix (pst PA))) ∧ Blk h wx (fl4 (ix (pst PB)))))
      case first =>
        have hD := HD.out
        by_cases hpe : PA = PB
        · rw [decide_eq_true hpe] at hD
          subst hD
          have hc2 : c2 = (P1, P2, fd) := by rw [HCS.out, if_neg (by simp [hpe])]
          clear hpe
          subst hc2
          go_wp2_with fail
          go_meet
          exact ⟨rfl, HRA.out, HOA.out, HG.out, HH.out⟩
        · rw [decide_eq_false hpe] at hD
          subst hD
          have hc2 : c2 = (PA, PB, true) := by rw [HCS.out, if_pos hpe]
          clear hpe
          subst hc2
          obtain ⟨r0, r1, r2, r3⟩ := HRA.out.bx.free4
          obtain ⟨s0, s1, s2, s3⟩ := HRA.out.by_.free4
          obtain ⟨j0, j1, j2, j3⟩ := HRA.out.bx.cells4
          obtain ⟨m0, m1, m2, m3⟩ := HRA.out.by_.cells4
          have hxy := HXY.out
          have hgx := HGX.out
          have hnw := HNW.out
          go_upto_region 10 with fail
          refine region_head_tail (S := fun wq => Blk g wq (fl4 (ix (pst PA))) ∧ Blk h wq (fl4 (ix (pst PB)))) 4 (by kernel_rfl) (by kernel_rfl) ?_
          obtain ⟨V0, hV0⟩ : ∃ V0, V0 = wa.drew := ⟨_, rfl⟩
          have hov : On wa V0 := by rw [hV0]; exact (On.refl (HOA.out).tab).drew
          rw [← hV0]
          clear hV0
          have hSd : Blk g V0 (fl4 (ix (pst PA))) ∧ Blk h V0 (fl4 (ix (pst PB))) := ⟨(HG.out).on hov, (HH.out).on hov⟩
          have HRu := Lib.hid ((HRA.out).on hov)
          have HOu := Lib.hid ((HOA.out).trans hov)
          clear hov
          refine HeadG.take (i := 0) (v := prV PA) rfl (by kernel_rfl) (by kernel_rfl) (by kernel_rfl) (by kernel_rfl) (by kernel_rfl) (by kernel_rfl) (by kernel_rfl) (fun _ _ _ h => h) (Or.inl ⟨by kernel_rfl, ?hey15z0⟩) hSd ?her15z0
          case hey15z0 => (intro w' hSw; obtain ⟨g0, g1, g2, g3⟩ := hSw.1.cells4; obtain ⟨h0, h1, h2, h3⟩ := hSw.2.cells4; simp only [pst, ix] at g0 g1 g2 g3 h0 h1 h2 h3; go_simp; try with_reducible rfl; try simp)
          try simp only [Act.put, List.setIfInBounds_toArray, List.set_cons_zero, List.set_cons_succ, List.getElem_toArray, List.getElem_cons_zero, List.getElem_cons_succ]
          refine HeadG.take (i := 1) (v := prV PB) rfl (by kernel_rfl) (by kernel_rfl) (by kernel_rfl) (by kernel_rfl) (by kernel_rfl) (by kernel_rfl) (by kernel_rfl) (fun _ _ _ h => h) (Or.inl ⟨by kernel_rfl, ?hey16z1⟩) hSd ?her16z1
          case hey16z1 => (intro w' hSw; obtain ⟨g0, g1, g2, g3⟩ := hSw.1.cells4; obtain ⟨h0, h1, h2, h3⟩ := hSw.2.cells4; simp only [pst, ix] at g0 g1 g2 g3 h0 h1 h2 h3; go_simp; try with_reducible rfl; try simp)
          try simp only [Act.put, List.setIfInBounds_toArray, List.set_cons_zero, List.set_cons_succ, List.getElem_toArray, List.getElem_cons_zero, List.getElem_cons_succ]
          obtain ⟨r0, r1, r2, r3⟩ := HRu.out.bx.free4
          obtain ⟨j0, j1, j2, j3⟩ := HRu.out.bx.cells4
          have hSa : Blk g ((((V0.setCell ⟨X, 0, none⟩ (.int .u64 ((PA.1.1 : Nat) : Int))).setCell ⟨X, 1, none⟩ (.int .u64 ((PA.1.2 : Nat) : Int))).setCell ⟨X, 2, none⟩ (.int .u64 ((PA.2.1 : Nat) : Int))).setCell ⟨X, 3, none⟩ (.int .u64 ((PA.2.2 : Nat) : Int))) (fl4 (ix (pst PA))) ∧ Blk h ((((V0.setCell ⟨X, 0, none⟩ (.int .u64 ((PA.1.1 : Nat) : Int))).setCell ⟨X, 1, none⟩ (.int .u64 ((PA.1.2 : Nat) : Int))).setCell ⟨X, 2, none⟩ (.int .u64 ((PA.2.1 : Nat) : Int))).setCell ⟨X, 3, none⟩ (.int .u64 ((PA.2.2 : Nat) : Int))) (fl4 (ix (pst PB))) := ⟨hSd.1.other4 (C := X) hgx.1 _ _ _ _, hSd.2.other4 (C := X) hgx.2.2.1 _ _ _ _⟩
          have HRv := Lib.hid (HRu.out.putX hxy.1 hxy.2.1 PA)
          have HOv : Hid (On w ((((V0.setCell ⟨X, 0, none⟩ (.int .u64 ((PA.1.1 : Nat) : Int))).setCell ⟨X, 1, none⟩ (.int .u64 ((PA.1.2 : Nat) : Int))).setCell ⟨X, 2, none⟩ (.int .u64 ((PA.2.1 : Nat) : Int))).setCell ⟨X, 3, none⟩ (.int .u64 ((PA.2.2 : Nat) : Int)))) := Lib.hid (HOu.out.store4 (C := X) (by omega) _ _ _ _)
          refine HeadG.one (i := 2) rfl (by kernel_rfl) (by kernel_rfl) (fun K9 hK9 => ?_)
          go_simp
          refine hK9.out _ _ hSa ?_
          clear hK9 K9 hSd HRu HOu r0 r1 r2 r3 j0 j1 j2 j3
          try simp only [Act.put, List.setIfInBounds_toArray, List.set_cons_zero, List.set_cons_succ, List.getElem_toArray, List.getElem_cons_zero, List.getElem_cons_succ]
          generalize ((((V0.setCell ⟨X, 0, none⟩ (.int .u64 ((PA.1.1 : Nat) : Int))).setCell ⟨X, 1, none⟩ (.int .u64 ((PA.1.2 : Nat) : Int))).setCell ⟨X, 2, none⟩ (.int .u64 ((PA.2.1 : Nat) : Int))).setCell ⟨X, 3, none⟩ (.int .u64 ((PA.2.2 : Nat) : Int))) = V1 at *
          obtain ⟨r0, r1, r2, r3⟩ := HRv.out.by_.free4
          obtain ⟨j0, j1, j2, j3⟩ := HRv.out.by_.cells4
          have hSb : Blk g ((((V1.setCell ⟨Y, 0, none⟩ (.int .u64 ((PB.1.1 : Nat) : Int))).setCell ⟨Y, 1, none⟩ (.int .u64 ((PB.1.2 : Nat) : Int))).setCell ⟨Y, 2, none⟩ (.int .u64 ((PB.2.1 : Nat) : Int))).setCell ⟨Y, 3, none⟩ (.int .u64 ((PB.2.2 : Nat) : Int))) (fl4 (ix (pst PA))) ∧ Blk h ((((V1.setCell ⟨Y, 0, none⟩ (.int .u64 ((PB.1.1 : Nat) : Int))).setCell ⟨Y, 1, none⟩ (.int .u64 ((PB.1.2 : Nat) : Int))).setCell ⟨Y, 2, none⟩ (.int .u64 ((PB.2.1 : Nat) : Int))).setCell ⟨Y, 3, none⟩ (.int .u64 ((PB.2.2 : Nat) : Int))) (fl4 (ix (pst PB))) := ⟨hSa.1.other4 (C := Y) hgx.2.1 _ _ _ _, hSa.2.other4 (C := Y) hgx.2.2.2.1 _ _ _ _⟩
          have HRw := Lib.hid (HRv.out.putY hxy.1 hxy.2.2 PB)
          have HOw : Hid (On w ((((V1.setCell ⟨Y, 0, none⟩ (.int .u64 ((PB.1.1 : Nat) : Int))).setCell ⟨Y, 1, none⟩ (.int .u64 ((PB.1.2 : Nat) : Int))).setCell ⟨Y, 2, none⟩ (.int .u64 ((PB.2.1 : Nat) : Int))).setCell ⟨Y, 3, none⟩ (.int .u64 ((PB.2.2 : Nat) : Int)))) := Lib.hid (HOv.out.store4 (C := Y) (by omega) _ _ _ _)
          refine HeadG.one (i := 3) rfl (by kernel_rfl) (by kernel_rfl) (fun K9 hK9 => ?_)
          go_simp
          refine hK9.out _ _ hSb ?_
          clear hK9 K9 hSa HRv HOv r0 r1 r2 r3 j0 j1 j2 j3
          try simp only [Act.put, List.setIfInBounds_toArray, List.set_cons_zero, List.set_cons_succ, List.getElem_toArray, List.getElem_cons_zero, List.getElem_cons_succ]
          refine HeadG.last (i := 4) rfl (by kernel_rfl) (by kernel_rfl) (by kernel_rfl) (fun K9 hK9 => ?_)
          go_simp
          refine hK9.out _ _ ?_
          clear hK9 K9
          try simp only [Act.put, List.setIfInBounds_toArray, List.set_cons_zero, List.set_cons_succ, List.getElem_toArray, List.getElem_cons_zero, List.getElem_cons_succ]
          go_wp2_with fail
          go_meet
          exact ⟨rfl, HRw.out, HOw.out, hSb.1, hSb.2⟩
      case rest =>
      rename World => wb
      obtain ⟨rfl, HB⟩ := hcut
      clear HRA HOA HG HH HCS g0 g1 g2 g3 h0 h1 h2 h3
      obtain ⟨c1a, c1b, fd2⟩ := c2
      simp only at HB
      obtain ⟨g0, g1, g2, g3⟩ := HB.out.2.2.1.cells4
      simp only [pst, ix] at g0 g1 g2 g3
      go_wp2_with fail
      with_reducible refine (HNA.out _ HB.out.2.1).mono ?_
      rintro e wc1 ⟨rfl, hOc⟩
      have HRB := Lib.hid (HB.out.1.on hOc)
      have HOB := Lib.hid (HB.out.2.1.trans hOc)
      have HH := Lib.hid (HB.out.2.2.2.on hOc)
      clear hOc g0 g1 g2 g3 HB HNA
      have hxy := HXY.out
      have hgx := HGX.out
      have hnw := HNW.out
      obtain ⟨b0, b1⟩ := HRB.out.ta.cells2
      have f0 := HRB.out.ta.free 0
      have f1 := HRB.out.ta.free 1
      have HRC := Lib.hid (HRB.out.putA hxy.2.1 hxy.2.2 na)
      have HOC : Hid (On w ((wc1.setCell ⟨n0, 0, none⟩ (.int .u64 ((na.1 : Nat) : Int))).setCell ⟨n0, 1, none⟩ (.int .u64 ((na.2 : Nat) : Int)))) := Lib.hid (HOB.out.store2 (by omega) _ _)
      have HHC : Hid (Blk h ((wc1.setCell ⟨n0, 0, none⟩ (.int .u64 ((na.1 : Nat) : Int))).setCell ⟨n0, 1, none⟩ (.int .u64 ((na.2 : Nat) : Int))) (fl4 (ix (pst PB)))) := Lib.hid (HH.out.ap (ap2 n0 wc1 _ _) (by omega))
      go_upto_region 12 with fail
      generalize ((wc1.setCell ⟨n0, 0, none⟩ (.int .u64 ((na.1 : Nat) : Int))).setCell ⟨n0, 1, none⟩ (.int .u64 ((na.2 : Nat) : Int))) = wd at *
      clear b0 b1 f0 f1 HRB HOB HH
      obtain ⟨h0, h1, h2, h3⟩ := HHC.out.cells4
      simp only [pst, ix] at h0 h1 h2 h3
      go_wp2_with fail
      with_reducible refine (HNB.out _ HOC.out).mono ?_
      rintro e we ⟨rfl, hOc⟩
      have HRD := Lib.hid (HRC.out.on hOc)
      have HOD := Lib.hid (HOC.out.trans hOc)
      clear hOc h0 h1 h2 h3 HRC HOC HHC HNB
      obtain ⟨b0, b1⟩ := HRD.out.tb.cells2
      have f0 := HRD.out.tb.free 0
      have f1 := HRD.out.tb.free 1
      have HRE := Lib.hid (HRD.out.putB hxy.2.1 hxy.2.2 nb)
      have HOE : Hid (On w ((we.setCell ⟨n0 + 1, 0, none⟩ (.int .u64 ((nb.1 : Nat) : Int))).setCell ⟨n0 + 1, 1, none⟩ (.int .u64 ((nb.2 : Nat) : Int)))) := Lib.hid (HOD.out.store2 (by omega) _ _)
      have hI2 := HI2.out
      have hI3 := HI3.out
      go_wp2_with fail
      go_roundw
      case rel => exact ⟨k + 1, by omega, by go_num, by rw [HI2E.out, HW9.out], by rw [HCC.out], by rw [HNAE.out, HNBE.out, HCC.out]; exact ⟨HRE.out, HOE.out⟩⟩
      case measure => simp [intOf]; omega
    · obtain rfl : k = p.length := by omega
      generalize hcc : csF f i a b p q p.length = cc at *
      have HCC := Lib.hid hcc
      clear hcc
      obtain ⟨P1, P2, fd⟩ := cc
      simp only at HS
      have hxy := HXY.out
      have hnw := HNW.out
      go_upto_region 14 with fail
      refine region_head_tail (S := fun wq => Blk X wq (fl4 (ix (pst P1))) ∧ Blk Y wq (fl4 (ix (pst P2)))) 5 (by kernel_rfl) (by kernel_rfl) ?_
      obtain ⟨V0, hV0⟩ : ∃ V0, V0 = wr.drew := ⟨_, rfl⟩
      have hov : On wr V0 := by rw [hV0]; exact (On.refl (HS.out.2).tab).drew
      rw [← hV0]
      clear hV0
      have hSd : Blk X V0 (fl4 (ix (pst P1))) ∧ Blk Y V0 (fl4 (ix (pst P2))) := ⟨(HS.out.1.bx).on hov, (HS.out.1.by_).on hov⟩
      have HRu := Lib.hid ((HS.out.1).on hov)
      have HOu := Lib.hid ((HS.out.2).trans hov)
      clear hov
      refine HeadG.take (i := 0) (v := prV P1) rfl (by kernel_rfl) (by kernel_rfl) (by kernel_rfl) (by kernel_rfl) (by kernel_rfl) (by kernel_rfl) (by kernel_rfl) (fun _ _ _ h => h) (Or.inl ⟨by kernel_rfl, ?hey17z0⟩) hSd ?her17z0
      case hey17z0 => (intro w' hSw; obtain ⟨g0, g1, g2, g3⟩ := hSw.1.cells4; obtain ⟨h0, h1, h2, h3⟩ := hSw.2.cells4; simp only [pst, ix] at g0 g1 g2 g3 h0 h1 h2 h3; go_simp; try with_reducible rfl; try simp)
      try simp only [Act.put, List.setIfInBounds_toArray, List.set_cons_zero, List.set_cons_succ, List.getElem_toArray, List.getElem_cons_zero, List.getElem_cons_succ]
      refine HeadG.take (i := 1) (v := prV P2) rfl (by kernel_rfl) (by kernel_rfl) (by kernel_rfl) (by kernel_rfl) (by kernel_rfl) (by kernel_rfl) (by kernel_rfl) (fun _ _ _ h => h) (Or.inl ⟨by kernel_rfl, ?hey18z1⟩) hSd ?her18z1
      case hey18z1 => (intro w' hSw; obtain ⟨g0, g1, g2, g3⟩ := hSw.1.cells4; obtain ⟨h0, h1, h2, h3⟩ := hSw.2.cells4; simp only [pst, ix] at g0 g1 g2 g3 h0 h1 h2 h3; go_simp; try with_reducible rfl; try simp)
      try simp only [Act.put, List.setIfInBounds_toArray, List.set_cons_zero, List.set_cons_succ, List.getElem_toArray, List.getElem_cons_zero, List.getElem_cons_succ]
      refine HeadG.take (i := 2) (v := ?hev19z2) rfl (by kernel_rfl) (by kernel_rfl) (by kernel_rfl) (by kernel_rfl) (by kernel_rfl) (by kernel_rfl) (by kernel_rfl) (fun _ _ _ h => h) (Or.inl ⟨by kernel_rfl, ?hey19z2⟩) hSd ?her19z2
      case hey19z2 => (intro w' hSw; skip; go_simp; try with_reducible rfl)
      try simp only [Act.put, List.setIfInBounds_toArray, List.set_cons_zero, List.set_cons_succ, List.getElem_toArray, List.getElem_cons_zero, List.getElem_cons_succ]
      obtain ⟨r0, r1, r2, r3⟩ := HRu.out.r1.free4
      obtain ⟨j0, j1, j2, j3⟩ := HRu.out.r1.cells4
      have hSa : Blk X ((((V0.setCell ⟨n0 + 1 + 1, 0, none⟩ (.int .u64 ((P1.1.1 : Nat) : Int))).setCell ⟨n0 + 1 + 1, 1, none⟩ (.int .u64 ((P1.1.2 : Nat) : Int))).setCell ⟨n0 + 1 + 1, 2, none⟩ (.int .u64 ((P1.2.1 : Nat) : Int))).setCell ⟨n0 + 1 + 1, 3, none⟩ (.int .u64 ((P1.2.2 : Nat) : Int))) (fl4 (ix (pst P1))) ∧ Blk Y ((((V0.setCell ⟨n0 + 1 + 1, 0, none⟩ (.int .u64 ((P1.1.1 : Nat) : Int))).setCell ⟨n0 + 1 + 1, 1, none⟩ (.int .u64 ((P1.1.2 : Nat) : Int))).setCell ⟨n0 + 1 + 1, 2, none⟩ (.int .u64 ((P1.2.1 : Nat) : Int))).setCell ⟨n0 + 1 + 1, 3, none⟩ (.int .u64 ((P1.2.2 : Nat) : Int))) (fl4 (ix (pst P2))) := ⟨hSd.1.other4 (C := n0 + 1 + 1) (by omega) _ _ _ _, hSd.2.other4 (C := n0 + 1 + 1) (by omega) _ _ _ _⟩
      have HRv := Lib.hid (HRu.out.put1 P1)
      have HOv : Hid (On w ((((V0.setCell ⟨n0 + 1 + 1, 0, none⟩ (.int .u64 ((P1.1.1 : Nat) : Int))).setCell ⟨n0 + 1 + 1, 1, none⟩ (.int .u64 ((P1.1.2 : Nat) : Int))).setCell ⟨n0 + 1 + 1, 2, none⟩ (.int .u64 ((P1.2.1 : Nat) : Int))).setCell ⟨n0 + 1 + 1, 3, none⟩ (.int .u64 ((P1.2.2 : Nat) : Int)))) := Lib.hid (HOu.out.store4 (C := n0 + 1 + 1) (by omega) _ _ _ _)
      refine HeadG.one (i := 3) rfl (by kernel_rfl) (by kernel_rfl) (fun K9 hK9 => ?_)
      go_simp
      refine hK9.out _ _ hSa ?_
      clear hK9 K9 hSd HRu HOu r0 r1 r2 r3 j0 j1 j2 j3
      try simp only [Act.put, List.setIfInBounds_toArray, List.set_cons_zero, List.set_cons_succ, List.getElem_toArray, List.getElem_cons_zero, List.getElem_cons_succ]
      generalize ((((V0.setCell ⟨n0 + 1 + 1, 0, none⟩ (.int .u64 ((P1.1.1 : Nat) : Int))).setCell ⟨n0 + 1 + 1, 1, none⟩ (.int .u64 ((P1.1.2 : Nat) : Int))).setCell ⟨n0 + 1 + 1, 2, none⟩ (.int .u64 ((P1.2.1 : Nat) : Int))).setCell ⟨n0 + 1 + 1, 3, none⟩ (.int .u64 ((P1.2.2 : Nat) : Int))) = V1 at *
      obtain ⟨r0, r1, r2, r3⟩ := HRv.out.r2.free4
      obtain ⟨j0, j1, j2, j3⟩ := HRv.out.r2.cells4
      have hSb : Blk X ((((V1.setCell ⟨n0 + 1 + 1 + 1, 0, none⟩ (.int .u64 ((P2.1.1 : Nat) : Int))).setCell ⟨n0 + 1 + 1 + 1, 1, none⟩ (.int .u64 ((P2.1.2 : Nat) : Int))).setCell ⟨n0 + 1 + 1 + 1, 2, none⟩ (.int .u64 ((P2.2.1 : Nat) : Int))).setCell ⟨n0 + 1 + 1 + 1, 3, none⟩ (.int .u64 ((P2.2.2 : Nat) : Int))) (fl4 (ix (pst P1))) ∧ Blk Y ((((V1.setCell ⟨n0 + 1 + 1 + 1, 0, none⟩ (.int .u64 ((P2.1.1 : Nat) : Int))).setCell ⟨n0 + 1 + 1 + 1, 1, none⟩ (.int .u64 ((P2.1.2 : Nat) : Int))).setCell ⟨n0 + 1 + 1 + 1, 2, none⟩ (.int .u64 ((P2.2.1 : Nat) : Int))).setCell ⟨n0 + 1 + 1 + 1, 3, none⟩ (.int .u64 ((P2.2.2 : Nat) : Int))) (fl4 (ix (pst P2))) := ⟨hSa.1.other4 (C := n0 + 1 + 1 + 1) (by omega) _ _ _ _, hSa.2.other4 (C := n0 + 1 + 1 + 1) (by omega) _ _ _ _⟩
      have HRw := Lib.hid (HRv.out.put2 P2)
      have HOw : Hid (On w ((((V1.setCell ⟨n0 + 1 + 1 + 1, 0, none⟩ (.int .u64 ((P2.1.1 : Nat) : Int))).setCell ⟨n0 + 1 + 1 + 1, 1, none⟩ (.int .u64 ((P2.1.2 : Nat) : Int))).setCell ⟨n0 + 1 + 1 + 1, 2, none⟩ (.int .u64 ((P2.2.1 : Nat) : Int))).setCell ⟨n0 + 1 + 1 + 1, 3, none⟩ (.int .u64 ((P2.2.2 : Nat) : Int)))) := Lib.hid (HOv.out.store4 (C := n0 + 1 + 1 + 1) (by omega) _ _ _ _)
      refine HeadG.one (i := 4) rfl (by kernel_rfl) (by kernel_rfl) (fun K9 hK9 => ?_)
      go_simp
      refine hK9.out _ _ hSb ?_
      clear hK9 K9 hSa HRv HOv r0 r1 r2 r3 j0 j1 j2 j3
      try simp only [Act.put, List.setIfInBounds_toArray, List.set_cons_zero, List.set_cons_succ, List.getElem_toArray, List.getElem_cons_zero, List.getElem_cons_succ]
      refine HeadG.last (i := 5) rfl (by kernel_rfl) (by kernel_rfl) (by kernel_rfl) (fun K9 hK9 => ?_)
      go_simp
      refine hK9.out _ _ ?_
      clear hK9 K9
      try simp only [Act.put, List.setIfInBounds_toArray, List.set_cons_zero, List.set_cons_succ, List.getElem_toArray, List.getElem_cons_zero, List.getElem_cons_succ]
      generalize ((((V1.setCell ⟨n0 + 1 + 1 + 1, 0, none⟩ (.int .u64 ((P2.1.1 : Nat) : Int))).setCell ⟨n0 + 1 + 1 + 1, 1, none⟩ (.int .u64 ((P2.1.2 : Nat) : Int))).setCell ⟨n0 + 1 + 1 + 1, 2, none⟩ (.int .u64 ((P2.2.1 : Nat) : Int))).setCell ⟨n0 + 1 + 1 + 1, 3, none⟩ (.int .u64 ((P2.2.2 : Nat) : Int))) = V2 at *
      go_wp2
      obtain ⟨p0, p1, p2, p3⟩ := HRw.out.r1.cells4
      obtain ⟨q0, q1, q2, q3⟩ := HRw.out.r2.cells4
      simp only [pst, ix] at p0 p1 p2 p3 q0 q1 q2 q3
      refine bodyPost_ret (v := .tuple #[prV P1, prV P2, .bool fd]) (by simp [results, Tryd.results32, go_sem, p0, p1, p2, p3, q0, q1, q2, q3]; try rfl) rfl ?_
      exact ⟨by rw [HCC.out], HOw.out⟩
end Go.Proofs.YtnmfneeojnmebaaDoor
