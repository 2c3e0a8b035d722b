/- Package system: all rules, validSizes, Valid: what the calls return. -/
import Derived.Test.YtnanjacllmdenaaDoorKc13
import Derived.Test.YtnanjacllmdenaaDoorKc04
import Derived.Test.YtnanjacllmdenaaDoorKc06
set_option linter.unusedSimpArgs false
set_option linter.unusedVariables false
/- Package system: all rules, validSizes, Valid: what the calls return. -/
namespace Go.Proofs.YtnanjacllmdenaaDoor
open Go.RowKit
set_option linter.unusedVariables false

set_option maxHeartbeats 1000000 in
set_option maxRecDepth 100000 in
theorem all_rule (S : Sy) (H : Sh) (l : List Ru) (v : Value) (w : World) (hT : Tab w) (hs : szS S = true) (hV : RuL w v l) :
    Calls Tryd.prog 101 #[syA S H, v, .func (.func 102) #[] #[]] w fun e w' => e = .returned (.bool (l.all (ruB S))) ∧ On w w' := by
  obtain ⟨a, cap, rfl⟩ := hV.shape
  have hL := hV.1
  obtain ⟨W0, hW0⟩ : ∃ W0, W0 = w.alloc (syO S H) := ⟨_, rfl⟩
  have hO0 : On w W0 := by rw [hW0]; exact (On.refl hT).alloc _
  obtain ⟨Q, hQ⟩ : ∃ Q, Q = w.heap.size := ⟨_, rfl⟩
  have HB0 : Hid (VB Q W0 (syL S H)) := by rw [hW0, hQ]; exact Lib.hid (vb_newS S H w)
  have HV := Lib.hid hV.cells
  have HW0 := Lib.hid hW0; have HQ := Lib.hid hQ; have HO0 := Lib.hid hO0; have HS := Lib.hid hs
  have HNO : Hid (∀ j, j < l.length → (ruB S) (l.getD j zRu) = false → l.all (ruB S) = false) := fun j hj h => all_no _ zRu l j hj h
  have HYES : Hid ((∀ j, j < l.length → (ruB S) (l.getD j zRu) = true) → l.all (ruB S) = true) := fun h => (all_getD _ zRu l).2 h
  generalize l.all (ruB S) = RR at *
  generalize hn : l.length = n at *
  clear hn hT hs hV hW0 hQ hO0
  go_enter Tryd.func101, Tryd.ntmps101
  go_upto_region 1 with fail
  rw [← HW0.out, ← HQ.out]
  go_wp2_with fail
  go_loopw [11] (fun vi wr => ∃ i : Nat, i ≤ n ∧ vi = .int .i64 (i : Int) ∧ Hid (∀ j, j < i → (ruB S) (l.getD j zRu) = true) ∧ Hid (On W0 wr)) (fun vi _ => n - (intOf vi).toNat)
  case atStart => exact ⟨0, Nat.zero_le _, rfl, Lib.hid (fun j hj => absurd hj (Nat.not_lt_zero _)), Lib.hid (On.refl HO0.out.tab)⟩
  case round =>
    rename World => wr
    obtain ⟨i, hi, rfl, HJ, HO⟩ := hrel
    by_cases hlt : i < n
    · have hlt' : (i : Int) < (n : Int) := by omega
      obtain ⟨b, off, rfl, c0⟩ := HV.out i hlt
      try simp only [Nat.mul_one] at c0
      have HJ2 : Hid ((ruB S) (l.getD i zRu) = true → ∀ j, j < i + 1 → (ruB S) (l.getD j zRu) = true) := fun h j hj => by
        by_cases e : j = i
        · rw [e]; exact h
        · exact HJ.out j (by omega)
      have HN := Lib.hid (HNO.out i hlt)
      have HOQ : On w wr := HO0.out.trans HO.out
      obtain ⟨⟨d0, d01⟩, u, d1, d2⟩ := c0
      obtain ⟨ua, uc, rfl⟩ := d2.shape
      have e0 := cell_on HOQ d0
      have e1 := cell_on HOQ d1
      clear d0 d1
      have HSY := sy_cells ((HB0.out.on HO.out).on ((On.refl HO.out.tab).alloc (.cells #[.int .u8 (l.getD i zRu).1, .slice ua (l.getD i zRu).2.length uc] 76)))
      obtain ⟨s0, s1, s2, s3, s4, s5, s6, s7⟩ := HSY
      have HCB : Hid (Calls Tryd.prog 102 #[syA S H, .agg #[.int .u8 (l.getD i zRu).1, .slice ua (l.getD i zRu).2.length uc]] (wr.alloc (.cells #[.int .u8 (l.getD i zRu).1, .slice ua (l.getD i zRu).2.length uc] 76)) fun e w' => e = .returned (.bool (ruB S (l.getD i zRu))) ∧ On (wr.alloc (.cells #[.int .u8 (l.getD i zRu).1, .slice ua (l.getD i zRu).2.length uc] 76)) w') := by
        have hA := (On.refl HO.out.tab).alloc (.cells #[.int .u8 (l.getD i zRu).1, .slice ua (l.getD i zRu).2.length uc] 76)
        exact Lib.hid (vrule_any S H (l.getD i zRu) ua uc _ hA.tab HS.out (d2.on (HOQ.trans hA)))
      clear d2 d01
      generalize (l.getD i zRu).2.length = ln at *
      generalize (l.getD i zRu).1 = lc at *
      clear HJ HOQ
      generalize (ruB S) (l.getD i zRu) = BB at *
      generalize l.getD i zRu = x at *
      cases BB with
      | false =>
        have HF := Lib.hid (HN.out rfl)
        go_wp2_with (go_at_call 102; (with_reducible refine HCB.out.mono ?_); rintro e wy ⟨rfl, hOy⟩)
        go_ret
        exact ⟨by rw [HF.out]; rfl, HO0.out.trans (HO.out.trans (((On.refl HO.out.tab).alloc _).trans hOy))⟩
      | true =>
        have HF := Lib.hid (HJ2.out rfl)
        go_wp2_with (go_at_call 102; (with_reducible refine HCB.out.mono ?_); rintro e wy ⟨rfl, hOy⟩)
        have hOz : Hid (On W0 wy) := Lib.hid (HO.out.trans (((On.refl HO.out.tab).alloc _).trans hOy))
        clear hOy
        go_roundw
        case rel => exact ⟨i + 1, by omega, by simp, HF, hOz⟩
        case measure => simp [intOf]; omega
    · obtain rfl : n = i := by omega
      have HG := Lib.hid (HYES.out HJ.out)
      have hOz := HO0.out.trans HO.out
      clear HJ
      go_wp2
      go_ret
      exact ⟨by rw [HG.out]; rfl, hOz⟩
set_option maxHeartbeats 4000000 in
set_option maxRecDepth 100000 in
theorem vsizes_any (S : Sy) (H : Sh) (w : World) (hT : Tab w) :
    Calls Tryd.prog 100 #[syA S H] w fun e w' => e = .returned (.bool (szS S)) ∧ On w w' := by
  obtain ⟨u, hu⟩ : ∃ u, u = w.alloc (syO S H) := ⟨_, rfl⟩
  have HU : Hid (On w u) := by rw [hu]; exact Lib.hid ((On.refl hT).alloc _)
  have HB0 : Hid (VB w.heap.size u (syL S H)) := by rw [hu]; exact Lib.hid (vb_newS S H w)
  have HSY : Hid (∀ wq, On u wq → _) := fun wq h => sy_cells (HB0.out.on h)
  obtain ⟨M, hM⟩ : ∃ M : Int, M = min 13 (twoOf S.f : Int) := ⟨_, rfl⟩
  have HMIN : Hid ((if ((twoOf S.f : Nat) : Int) < 13 then ((twoOf S.f : Nat) : Int) else 13) = M) := Lib.hid (by rw [hM]; split <;> omega)
  have HVF : Hid (∀ wq, On u wq → Calls Tryd.prog 107 #[.int .i64 S.f] wq fun e w' => e = .returned (.bool (validB S.f)) ∧ On u w') := fun wq h => (valid_any S.f wq).mono fun e w' ⟨he, ho⟩ => ⟨he, ho ▸ h⟩
  have HTW : Hid (∀ wq, On u wq → Calls Tryd.prog 85 #[.int .i64 S.f] wq fun e w' => e = .returned (.int .i64 ((twoOf S.f : Nat) : Int)) ∧ On u w') := fun wq h => twos_any S.f u wq h
  have HW1 : Hid (∀ wq, On u wq → Calls Tryd.prog 144 #[.int .i64 S.rows, .int .i64 1, .int .i64 M] wq fun e w' => e = .returned (.bool (decide (1 ≤ S.rows ∧ S.rows ≤ M))) ∧ On u w') := fun wq h => (within_any S.rows 1 M wq).mono fun e w' ⟨he, ho⟩ => ⟨he, ho ▸ h⟩
  have HW2 : Hid (∀ wq, On u wq → Calls Tryd.prog 144 #[.int .i64 S.main, .int .i64 1, .int .i64 64] wq fun e w' => e = .returned (.bool (decide (1 ≤ S.main ∧ S.main ≤ 64))) ∧ On u w') := fun wq h => (within_any S.main 1 64 wq).mono fun e w' ⟨he, ho⟩ => ⟨he, ho ▸ h⟩
  have HW3 : Hid (∀ wq, On u wq → Calls Tryd.prog 144 #[.int .i64 S.pub, .int .i64 0, .int .i64 16] wq fun e w' => e = .returned (.bool (decide (0 ≤ S.pub ∧ S.pub ≤ 16))) ∧ On u w') := fun wq h => (within_any S.pub 0 16 wq).mono fun e w' ⟨he, ho⟩ => ⟨he, ho ▸ h⟩
  have E : szS S = (validB S.f && decide (1 ≤ S.rows ∧ S.rows ≤ M) && decide (1 ≤ S.main ∧ S.main ≤ 64) && decide (0 ≤ S.pub ∧ S.pub ≤ 16) && decide (((S.fixed.length : Nat) : Int) ≤ 64) && decide (((S.rules.length : Nat) : Int) ≤ 64) && decide (((S.perms.length : Nat) : Int) ≤ 4) && decide (((S.looks.length : Nat) : Int) ≤ 8)) := by
    unfold szS
    have e1 : decide (1 ≤ S.rows ∧ S.rows ≤ 13 ∧ S.rows ≤ (twoOf S.f : Int)) = decide (1 ≤ S.rows ∧ S.rows ≤ M) := decide_eq_decide.2 (by rw [hM]; omega)
    have e4 : ∀ (a b : Nat), decide (a ≤ b) = decide (((a : Nat) : Int) ≤ ((b : Nat) : Int)) := fun a b => decide_eq_decide.2 (by omega)
    rw [e1, e4 S.fixed.length 64, e4 S.rules.length 64, e4 S.perms.length 4, e4 S.looks.length 8]; rfl
  rw [E]
  obtain ⟨b4, hb4⟩ : ∃ b, decide (((S.fixed.length : Nat) : Int) ≤ 64) = b := ⟨_, rfl⟩
  obtain ⟨b5, hb5⟩ : ∃ b, decide (((S.rules.length : Nat) : Int) ≤ 64) = b := ⟨_, rfl⟩
  obtain ⟨b6, hb6⟩ : ∃ b, decide (((S.perms.length : Nat) : Int) ≤ 4) = b := ⟨_, rfl⟩
  obtain ⟨b7, hb7⟩ : ∃ b, decide (((S.looks.length : Nat) : Int) ≤ 8) = b := ⟨_, rfl⟩
  rw [hb4, hb5, hb6, hb7]
  have HC4 := Lib.hid hb4; have HC5 := Lib.hid hb5; have HC6 := Lib.hid hb6; have HC7 := Lib.hid hb7
  have HUE := Lib.hid hu
  clear hT hu hM E hb4 hb5 hb6 hb7 HB0
  generalize validB S.f = b0 at *
  generalize decide (1 ≤ S.rows ∧ S.rows ≤ M) = b1 at *
  generalize decide (1 ≤ S.main ∧ S.main ≤ 64) = b2 at *
  generalize decide (0 ≤ S.pub ∧ S.pub ≤ 16) = b3 at *
  cases b0 with
  | false =>
    go_enter Tryd.func100, Tryd.ntmps100
    go_upto_region 1 with fail
    rw [← HUE.out]
    refine region_keep_tail (fun wq => On u wq) 46 (by kernel_rfl) (by kernel_rfl) (On.refl HU.out.tab).drew ?_
    simp only [List.take_succ_cons, List.take_zero, List.drop_succ_cons, List.drop_zero]
    refine quiet_start fun L9 hL9 => ?_
    refine quiet_take (v := ?z0v0) hL9 (by kernel_rfl) (fun wq hwq => ?z0y0) (fun L9 hL9 => ?z0r0)
    case z0y0 => (go_simp; try with_reducible rfl)
    try simp only [Act.put, List.setIfInBounds_toArray, List.set_cons_zero, List.set_cons_succ]
    refine quiet_take (v := .int .i64 S.f) hL9 (by kernel_rfl) (fun wq hwq => ?z0y1) (fun L9 hL9 => ?z0r1)
    case z0y1 => (obtain ⟨s0, s1, s2, s3, s4, s5, s6, s7⟩ := HSY.out wq hwq; go_simp; try with_reducible rfl)
    try simp only [Act.put, List.setIfInBounds_toArray, List.set_cons_zero, List.set_cons_succ]
    refine quiet_take (v := .bool false) hL9 (by kernel_rfl) (fun wq hwq => ?z0y2) (fun L9 hL9 => ?z0r2)
    case z0y2 => (go_simp; go_at_call 107; exact HVF.out wq hwq)
    try simp only [Act.put, List.setIfInBounds_toArray, List.set_cons_zero, List.set_cons_succ]
    refine quiet_take (v := .bool false) hL9 (by kernel_rfl) (fun wq hwq => ?z0y3) (fun L9 hL9 => ?z0r3)
    case z0y3 => (go_simp; try with_reducible rfl)
    try simp only [Act.put, List.setIfInBounds_toArray, List.set_cons_zero, List.set_cons_succ]
    refine quiet_skip hL9 (by kernel_rfl) (fun L9 hL9 => ?_)
    try simp only [Act.put, List.setIfInBounds_toArray, List.set_cons_zero, List.set_cons_succ]
    refine quiet_skip hL9 (by kernel_rfl) (fun L9 hL9 => ?_)
    try simp only [Act.put, List.setIfInBounds_toArray, List.set_cons_zero, List.set_cons_succ]
    refine quiet_skip hL9 (by kernel_rfl) (fun L9 hL9 => ?_)
    try simp only [Act.put, List.setIfInBounds_toArray, List.set_cons_zero, List.set_cons_succ]
    refine quiet_skip hL9 (by kernel_rfl) (fun L9 hL9 => ?_)
    try simp only [Act.put, List.setIfInBounds_toArray, List.set_cons_zero, List.set_cons_succ]
    refine quiet_skip hL9 (by kernel_rfl) (fun L9 hL9 => ?_)
    try simp only [Act.put, List.setIfInBounds_toArray, List.set_cons_zero, List.set_cons_succ]
    refine quiet_skip hL9 (by kernel_rfl) (fun L9 hL9 => ?_)
    try simp only [Act.put, List.setIfInBounds_toArray, List.set_cons_zero, List.set_cons_succ]
    refine quiet_skip hL9 (by kernel_rfl) (fun L9 hL9 => ?_)
    try simp only [Act.put, List.setIfInBounds_toArray, List.set_cons_zero, List.set_cons_succ]
    refine quiet_take (v := .bool false) hL9 (by kernel_rfl) (fun wq hwq => ?z0y11) (fun L9 hL9 => ?z0r11)
    case z0y11 => (go_simp; try with_reducible rfl)
    try simp only [Act.put, List.setIfInBounds_toArray, List.set_cons_zero, List.set_cons_succ]
    refine quiet_take (v := .bool false) hL9 (by kernel_rfl) (fun wq hwq => ?z0y12) (fun L9 hL9 => ?z0r12)
    case z0y12 => (go_simp; try with_reducible rfl)
    try simp only [Act.put, List.setIfInBounds_toArray, List.set_cons_zero, List.set_cons_succ]
    refine quiet_skip hL9 (by kernel_rfl) (fun L9 hL9 => ?_)
    try simp only [Act.put, List.setIfInBounds_toArray, List.set_cons_zero, List.set_cons_succ]
    refine quiet_skip hL9 (by kernel_rfl) (fun L9 hL9 => ?_)
    try simp only [Act.put, List.setIfInBounds_toArray, List.set_cons_zero, List.set_cons_succ]
    refine quiet_skip hL9 (by kernel_rfl) (fun L9 hL9 => ?_)
    try simp only [Act.put, List.setIfInBounds_toArray, List.set_cons_zero, List.set_cons_succ]
    refine quiet_take (v := .bool false) hL9 (by kernel_rfl) (fun wq hwq => ?z0y16) (fun L9 hL9 => ?z0r16)
    case z0y16 => (go_simp; try with_reducible rfl)
    try simp only [Act.put, List.setIfInBounds_toArray, List.set_cons_zero, List.set_cons_succ]
    refine quiet_take (v := .bool false) hL9 (by kernel_rfl) (fun wq hwq => ?z0y17) (fun L9 hL9 => ?z0r17)
    case z0y17 => (go_simp; try with_reducible rfl)
    try simp only [Act.put, List.setIfInBounds_toArray, List.set_cons_zero, List.set_cons_succ]
    refine quiet_skip hL9 (by kernel_rfl) (fun L9 hL9 => ?_)
    try simp only [Act.put, List.setIfInBounds_toArray, List.set_cons_zero, List.set_cons_succ]
    refine quiet_skip hL9 (by kernel_rfl) (fun L9 hL9 => ?_)
    try simp only [Act.put, List.setIfInBounds_toArray, List.set_cons_zero, List.set_cons_succ]
    refine quiet_skip hL9 (by kernel_rfl) (fun L9 hL9 => ?_)
    try simp only [Act.put, List.setIfInBounds_toArray, List.set_cons_zero, List.set_cons_succ]
    refine quiet_take (v := .bool false) hL9 (by kernel_rfl) (fun wq hwq => ?z0y21) (fun L9 hL9 => ?z0r21)
    case z0y21 => (go_simp; try with_reducible rfl)
    try simp only [Act.put, List.setIfInBounds_toArray, List.set_cons_zero, List.set_cons_succ]
    refine quiet_take (v := .bool false) hL9 (by kernel_rfl) (fun wq hwq => ?z0y22) (fun L9 hL9 => ?z0r22)
    case z0y22 => (go_simp; try with_reducible rfl)
    try simp only [Act.put, List.setIfInBounds_toArray, List.set_cons_zero, List.set_cons_succ]
    refine quiet_skip hL9 (by kernel_rfl) (fun L9 hL9 => ?_)
    try simp only [Act.put, List.setIfInBounds_toArray, List.set_cons_zero, List.set_cons_succ]
    refine quiet_skip hL9 (by kernel_rfl) (fun L9 hL9 => ?_)
    try simp only [Act.put, List.setIfInBounds_toArray, List.set_cons_zero, List.set_cons_succ]
    refine quiet_skip hL9 (by kernel_rfl) (fun L9 hL9 => ?_)
    try simp only [Act.put, List.setIfInBounds_toArray, List.set_cons_zero, List.set_cons_succ]
    refine quiet_skip hL9 (by kernel_rfl) (fun L9 hL9 => ?_)
    try simp only [Act.put, List.setIfInBounds_toArray, List.set_cons_zero, List.set_cons_succ]
    refine quiet_take (v := .bool false) hL9 (by kernel_rfl) (fun wq hwq => ?z0y27) (fun L9 hL9 => ?z0r27)
    case z0y27 => (go_simp; try with_reducible rfl)
    try simp only [Act.put, List.setIfInBounds_toArray, List.set_cons_zero, List.set_cons_succ]
    refine quiet_take (v := .bool false) hL9 (by kernel_rfl) (fun wq hwq => ?z0y28) (fun L9 hL9 => ?z0r28)
    case z0y28 => (go_simp; try with_reducible rfl)
    try simp only [Act.put, List.setIfInBounds_toArray, List.set_cons_zero, List.set_cons_succ]
    refine quiet_skip hL9 (by kernel_rfl) (fun L9 hL9 => ?_)
    try simp only [Act.put, List.setIfInBounds_toArray, List.set_cons_zero, List.set_cons_succ]
    refine quiet_skip hL9 (by kernel_rfl) (fun L9 hL9 => ?_)
    try simp only [Act.put, List.setIfInBounds_toArray, List.set_cons_zero, List.set_cons_succ]
    refine quiet_skip hL9 (by kernel_rfl) (fun L9 hL9 => ?_)
    try simp only [Act.put, List.setIfInBounds_toArray, List.set_cons_zero, List.set_cons_succ]
    refine quiet_skip hL9 (by kernel_rfl) (fun L9 hL9 => ?_)
    try simp only [Act.put, List.setIfInBounds_toArray, List.set_cons_zero, List.set_cons_succ]
    refine quiet_take (v := .bool false) hL9 (by kernel_rfl) (fun wq hwq => ?z0y33) (fun L9 hL9 => ?z0r33)
    case z0y33 => (go_simp; try with_reducible rfl)
    try simp only [Act.put, List.setIfInBounds_toArray, List.set_cons_zero, List.set_cons_succ]
    refine quiet_take (v := .bool false) hL9 (by kernel_rfl) (fun wq hwq => ?z0y34) (fun L9 hL9 => ?z0r34)
    case z0y34 => (go_simp; try with_reducible rfl)
    try simp only [Act.put, List.setIfInBounds_toArray, List.set_cons_zero, List.set_cons_succ]
    refine quiet_skip hL9 (by kernel_rfl) (fun L9 hL9 => ?_)
    try simp only [Act.put, List.setIfInBounds_toArray, List.set_cons_zero, List.set_cons_succ]
    refine quiet_skip hL9 (by kernel_rfl) (fun L9 hL9 => ?_)
    try simp only [Act.put, List.setIfInBounds_toArray, List.set_cons_zero, List.set_cons_succ]
    refine quiet_skip hL9 (by kernel_rfl) (fun L9 hL9 => ?_)
    try simp only [Act.put, List.setIfInBounds_toArray, List.set_cons_zero, List.set_cons_succ]
    refine quiet_skip hL9 (by kernel_rfl) (fun L9 hL9 => ?_)
    try simp only [Act.put, List.setIfInBounds_toArray, List.set_cons_zero, List.set_cons_succ]
    refine quiet_take (v := .bool false) hL9 (by kernel_rfl) (fun wq hwq => ?z0y39) (fun L9 hL9 => ?z0r39)
    case z0y39 => (go_simp; try with_reducible rfl)
    try simp only [Act.put, List.setIfInBounds_toArray, List.set_cons_zero, List.set_cons_succ]
    refine quiet_take (v := .bool false) hL9 (by kernel_rfl) (fun wq hwq => ?z0y40) (fun L9 hL9 => ?z0r40)
    case z0y40 => (go_simp; try with_reducible rfl)
    try simp only [Act.put, List.setIfInBounds_toArray, List.set_cons_zero, List.set_cons_succ]
    refine quiet_skip hL9 (by kernel_rfl) (fun L9 hL9 => ?_)
    try simp only [Act.put, List.setIfInBounds_toArray, List.set_cons_zero, List.set_cons_succ]
    refine quiet_skip hL9 (by kernel_rfl) (fun L9 hL9 => ?_)
    try simp only [Act.put, List.setIfInBounds_toArray, List.set_cons_zero, List.set_cons_succ]
    refine quiet_skip hL9 (by kernel_rfl) (fun L9 hL9 => ?_)
    try simp only [Act.put, List.setIfInBounds_toArray, List.set_cons_zero, List.set_cons_succ]
    refine quiet_skip hL9 (by kernel_rfl) (fun L9 hL9 => ?_)
    try simp only [Act.put, List.setIfInBounds_toArray, List.set_cons_zero, List.set_cons_succ]
    refine quiet_take (v := .bool false) hL9 (by kernel_rfl) (fun wq hwq => ?z0y45) (fun L9 hL9 => ?z0r45)
    case z0y45 => (go_simp; try with_reducible rfl)
    try simp only [Act.put, List.setIfInBounds_toArray, List.set_cons_zero, List.set_cons_succ]
    refine quiet_nil hL9 ?_
    clear hL9
    intro wy hOy
    have hOz := HU.out.trans hOy
    go_wp2
    go_ret
    exact ⟨by simp, hOz⟩
  | true =>
    cases b1 with
    | false =>
      go_enter Tryd.func100, Tryd.ntmps100
      go_upto_region 1 with fail
      rw [← HUE.out]
      refine region_keep_tail (fun wq => On u wq) 46 (by kernel_rfl) (by kernel_rfl) (On.refl HU.out.tab).drew ?_
      simp only [List.take_succ_cons, List.take_zero, List.drop_succ_cons, List.drop_zero]
      refine quiet_start fun L9 hL9 => ?_
      refine quiet_take (v := ?z1v0) hL9 (by kernel_rfl) (fun wq hwq => ?z1y0) (fun L9 hL9 => ?z1r0)
      case z1y0 => (go_simp; try with_reducible rfl)
      try simp only [Act.put, List.setIfInBounds_toArray, List.set_cons_zero, List.set_cons_succ]
      refine quiet_take (v := .int .i64 S.f) hL9 (by kernel_rfl) (fun wq hwq => ?z1y1) (fun L9 hL9 => ?z1r1)
      case z1y1 => (obtain ⟨s0, s1, s2, s3, s4, s5, s6, s7⟩ := HSY.out wq hwq; go_simp; try with_reducible rfl)
      try simp only [Act.put, List.setIfInBounds_toArray, List.set_cons_zero, List.set_cons_succ]
      refine quiet_take (v := .bool true) hL9 (by kernel_rfl) (fun wq hwq => ?z1y2) (fun L9 hL9 => ?z1r2)
      case z1y2 => (go_simp; go_at_call 107; exact HVF.out wq hwq)
      try simp only [Act.put, List.setIfInBounds_toArray, List.set_cons_zero, List.set_cons_succ]
      refine quiet_take (v := .bool true) hL9 (by kernel_rfl) (fun wq hwq => ?z1y3) (fun L9 hL9 => ?z1r3)
      case z1y3 => (go_simp; try with_reducible rfl)
      try simp only [Act.put, List.setIfInBounds_toArray, List.set_cons_zero, List.set_cons_succ]
      refine quiet_take (v := ?z1v4) hL9 (by kernel_rfl) (fun wq hwq => ?z1y4) (fun L9 hL9 => ?z1r4)
      case z1y4 => (go_simp; try with_reducible rfl)
      try simp only [Act.put, List.setIfInBounds_toArray, List.set_cons_zero, List.set_cons_succ]
      refine quiet_take (v := .int .i64 S.rows) hL9 (by kernel_rfl) (fun wq hwq => ?z1y5) (fun L9 hL9 => ?z1r5)
      case z1y5 => (obtain ⟨s0, s1, s2, s3, s4, s5, s6, s7⟩ := HSY.out wq hwq; go_simp; try with_reducible rfl)
      try simp only [Act.put, List.setIfInBounds_toArray, List.set_cons_zero, List.set_cons_succ]
      refine quiet_take (v := ?z1v6) hL9 (by kernel_rfl) (fun wq hwq => ?z1y6) (fun L9 hL9 => ?z1r6)
      case z1y6 => (go_simp; try with_reducible rfl)
      try simp only [Act.put, List.setIfInBounds_toArray, List.set_cons_zero, List.set_cons_succ]
      refine quiet_take (v := .int .i64 S.f) hL9 (by kernel_rfl) (fun wq hwq => ?z1y7) (fun L9 hL9 => ?z1r7)
      case z1y7 => (obtain ⟨s0, s1, s2, s3, s4, s5, s6, s7⟩ := HSY.out wq hwq; go_simp; try with_reducible rfl)
      try simp only [Act.put, List.setIfInBounds_toArray, List.set_cons_zero, List.set_cons_succ]
      refine quiet_take (v := .int .i64 ((twoOf S.f : Nat) : Int)) hL9 (by kernel_rfl) (fun wq hwq => ?z1y8) (fun L9 hL9 => ?z1r8)
      case z1y8 => (go_simp; go_at_call 85; exact HTW.out wq hwq)
      try simp only [Act.put, List.setIfInBounds_toArray, List.set_cons_zero, List.set_cons_succ]
      refine quiet_take (v := .int .i64 M) hL9 (by kernel_rfl) (fun wq hwq => ?z1y9) (fun L9 hL9 => ?z1r9)
      case z1y9 => (go_simp; first | with_reducible rfl | exact HMIN.out | (rw [← HMIN.out]) | skip)
      try simp only [Act.put, List.setIfInBounds_toArray, List.set_cons_zero, List.set_cons_succ]
      refine quiet_take (v := .bool false) hL9 (by kernel_rfl) (fun wq hwq => ?z1y10) (fun L9 hL9 => ?z1r10)
      case z1y10 => (go_simp; go_at_call 144; exact HW1.out wq hwq)
      try simp only [Act.put, List.setIfInBounds_toArray, List.set_cons_zero, List.set_cons_succ]
      refine quiet_take (v := .bool false) hL9 (by kernel_rfl) (fun wq hwq => ?z1y11) (fun L9 hL9 => ?z1r11)
      case z1y11 => (go_simp; try with_reducible rfl)
      try simp only [Act.put, List.setIfInBounds_toArray, List.set_cons_zero, List.set_cons_succ]
      refine quiet_take (v := .bool false) hL9 (by kernel_rfl) (fun wq hwq => ?z1y12) (fun L9 hL9 => ?z1r12)
      case z1y12 => (go_simp; try with_reducible rfl)
      try simp only [Act.put, List.setIfInBounds_toArray, List.set_cons_zero, List.set_cons_succ]
      refine quiet_skip hL9 (by kernel_rfl) (fun L9 hL9 => ?_)
      try simp only [Act.put, List.setIfInBounds_toArray, List.set_cons_zero, List.set_cons_succ]
      refine quiet_skip hL9 (by kernel_rfl) (fun L9 hL9 => ?_)
      try simp only [Act.put, List.setIfInBounds_toArray, List.set_cons_zero, List.set_cons_succ]
      refine quiet_skip hL9 (by kernel_rfl) (fun L9 hL9 => ?_)
      try simp only [Act.put, List.setIfInBounds_toArray, List.set_cons_zero, List.set_cons_succ]
      refine quiet_take (v := .bool false) hL9 (by kernel_rfl) (fun wq hwq => ?z1y16) (fun L9 hL9 => ?z1r16)
      case z1y16 => (go_simp; try with_reducible rfl)
      try simp only [Act.put, List.setIfInBounds_toArray, List.set_cons_zero, List.set_cons_succ]
      refine quiet_take (v := .bool false) hL9 (by kernel_rfl) (fun wq hwq => ?z1y17) (fun L9 hL9 => ?z1r17)
      case z1y17 => (go_simp; try with_reducible rfl)
      try simp only [Act.put, List.setIfInBounds_toArray, List.set_cons_zero, List.set_cons_succ]
      refine quiet_skip hL9 (by kernel_rfl) (fun L9 hL9 => ?_)
      try simp only [Act.put, List.setIfInBounds_toArray, List.set_cons_zero, List.set_cons_succ]
      refine quiet_skip hL9 (by kernel_rfl) (fun L9 hL9 => ?_)
      try simp only [Act.put, List.setIfInBounds_toArray, List.set_cons_zero, List.set_cons_succ]
      refine quiet_skip hL9 (by kernel_rfl) (fun L9 hL9 => ?_)
      try simp only [Act.put, List.setIfInBounds_toArray, List.set_cons_zero, List.set_cons_succ]
      refine quiet_take (v := .bool false) hL9 (by kernel_rfl) (fun wq hwq => ?z1y21) (fun L9 hL9 => ?z1r21)
      case z1y21 => (go_simp; try with_reducible rfl)
      try simp only [Act.put, List.setIfInBounds_toArray, List.set_cons_zero, List.set_cons_succ]
      refine quiet_take (v := .bool false) hL9 (by kernel_rfl) (fun wq hwq => ?z1y22) (fun L9 hL9 => ?z1r22)
      case z1y22 => (go_simp; try with_reducible rfl)
      try simp only [Act.put, List.setIfInBounds_toArray, List.set_cons_zero, List.set_cons_succ]
      refine quiet_skip hL9 (by kernel_rfl) (fun L9 hL9 => ?_)
      try simp only [Act.put, List.setIfInBounds_toArray, List.set_cons_zero, List.set_cons_succ]
      refine quiet_skip hL9 (by kernel_rfl) (fun L9 hL9 => ?_)
      try simp only [Act.put, List.setIfInBounds_toArray, List.set_cons_zero, List.set_cons_succ]
      refine quiet_skip hL9 (by kernel_rfl) (fun L9 hL9 => ?_)
      try simp only [Act.put, List.setIfInBounds_toArray, List.set_cons_zero, List.set_cons_succ]
      refine quiet_skip hL9 (by kernel_rfl) (fun L9 hL9 => ?_)
      try simp only [Act.put, List.setIfInBounds_toArray, List.set_cons_zero, List.set_cons_succ]
      refine quiet_take (v := .bool false) hL9 (by kernel_rfl) (fun wq hwq => ?z1y27) (fun L9 hL9 => ?z1r27)
      case z1y27 => (go_simp; try with_reducible rfl)
      try simp only [Act.put, List.setIfInBounds_toArray, List.set_cons_zero, List.set_cons_succ]
      refine quiet_take (v := .bool false) hL9 (by kernel_rfl) (fun wq hwq => ?z1y28) (fun L9 hL9 => ?z1r28)
      case z1y28 => (go_simp; try with_reducible rfl)
      try simp only [Act.put, List.setIfInBounds_toArray, List.set_cons_zero, List.set_cons_succ]
      refine quiet_skip hL9 (by kernel_rfl) (fun L9 hL9 => ?_)
      try simp only [Act.put, List.setIfInBounds_toArray, List.set_cons_zero, List.set_cons_succ]
      refine quiet_skip hL9 (by kernel_rfl) (fun L9 hL9 => ?_)
      try simp only [Act.put, List.setIfInBounds_toArray, List.set_cons_zero, List.set_cons_succ]
      refine quiet_skip hL9 (by kernel_rfl) (fun L9 hL9 => ?_)
      try simp only [Act.put, List.setIfInBounds_toArray, List.set_cons_zero, List.set_cons_succ]
      refine quiet_skip hL9 (by kernel_rfl) (fun L9 hL9 => ?_)
      try simp only [Act.put, List.setIfInBounds_toArray, List.set_cons_zero, List.set_cons_succ]
      refine quiet_take (v := .bool false) hL9 (by kernel_rfl) (fun wq hwq => ?z1y33) (fun L9 hL9 => ?z1r33)
      case z1y33 => (go_simp; try with_reducible rfl)
      try simp only [Act.put, List.setIfInBounds_toArray, List.set_cons_zero, List.set_cons_succ]
      refine quiet_take (v := .bool false) hL9 (by kernel_rfl) (fun wq hwq => ?z1y34) (fun L9 hL9 => ?z1r34)
      case z1y34 => (go_simp; try with_reducible rfl)
      try simp only [Act.put, List.setIfInBounds_toArray, List.set_cons_zero, List.set_cons_succ]
      refine quiet_skip hL9 (by kernel_rfl) (fun L9 hL9 => ?_)
      try simp only [Act.put, List.setIfInBounds_toArray, List.set_cons_zero, List.set_cons_succ]
      refine quiet_skip hL9 (by kernel_rfl) (fun L9 hL9 => ?_)
      try simp only [Act.put, List.setIfInBounds_toArray, List.set_cons_zero, List.set_cons_succ]
      refine quiet_skip hL9 (by kernel_rfl) (fun L9 hL9 => ?_)
      try simp only [Act.put, List.setIfInBounds_toArray, List.set_cons_zero, List.set_cons_succ]
      refine quiet_skip hL9 (by kernel_rfl) (fun L9 hL9 => ?_)
      try simp only [Act.put, List.setIfInBounds_toArray, List.set_cons_zero, List.set_cons_succ]
      refine quiet_take (v := .bool false) hL9 (by kernel_rfl) (fun wq hwq => ?z1y39) (fun L9 hL9 => ?z1r39)
      case z1y39 => (go_simp; try with_reducible rfl)
      try simp only [Act.put, List.setIfInBounds_toArray, List.set_cons_zero, List.set_cons_succ]
      refine quiet_take (v := .bool false) hL9 (by kernel_rfl) (fun wq hwq => ?z1y40) (fun L9 hL9 => ?z1r40)
      case z1y40 => (go_simp; try with_reducible rfl)
      try simp only [Act.put, List.setIfInBounds_toArray, List.set_cons_zero, List.set_cons_succ]
      refine quiet_skip hL9 (by kernel_rfl) (fun L9 hL9 => ?_)
      try simp only [Act.put, List.setIfInBounds_toArray, List.set_cons_zero, List.set_cons_succ]
      refine quiet_skip hL9 (by kernel_rfl) (fun L9 hL9 => ?_)
      try simp only [Act.put, List.setIfInBounds_toArray, List.set_cons_zero, List.set_cons_succ]
      refine quiet_skip hL9 (by kernel_rfl) (fun L9 hL9 => ?_)
      try simp only [Act.put, List.setIfInBounds_toArray, List.set_cons_zero, List.set_cons_succ]
      refine quiet_skip hL9 (by kernel_rfl) (fun L9 hL9 => ?_)
      try simp only [Act.put, List.setIfInBounds_toArray, List.set_cons_zero, List.set_cons_succ]
      refine quiet_take (v := .bool false) hL9 (by kernel_rfl) (fun wq hwq => ?z1y45) (fun L9 hL9 => ?z1r45)
      case z1y45 => (go_simp; try with_reducible rfl)
      try simp only [Act.put, List.setIfInBounds_toArray, List.set_cons_zero, List.set_cons_succ]
      refine quiet_nil hL9 ?_
      clear hL9
      intro wy hOy
      have hOz := HU.out.trans hOy
      go_wp2
      go_ret
      exact ⟨by simp, hOz⟩
    | true =>
      cases b2 with
      | false =>
        go_enter Tryd.func100, Tryd.ntmps100
        go_upto_region 1 with fail
        rw [← HUE.out]
        refine region_keep_tail (fun wq => On u wq) 46 (by kernel_rfl) (by kernel_rfl) (On.refl HU.out.tab).drew ?_
        simp only [List.take_succ_cons, List.take_zero, List.drop_succ_cons, List.drop_zero]
        refine quiet_start fun L9 hL9 => ?_
        refine quiet_take (v := ?z2v0) hL9 (by kernel_rfl) (fun wq hwq => ?z2y0) (fun L9 hL9 => ?z2r0)
        case z2y0 => (go_simp; try with_reducible rfl)
        try simp only [Act.put, List.setIfInBounds_toArray, List.set_cons_zero, List.set_cons_succ]
        refine quiet_take (v := .int .i64 S.f) hL9 (by kernel_rfl) (fun wq hwq => ?z2y1) (fun L9 hL9 => ?z2r1)
        case z2y1 => (obtain ⟨s0, s1, s2, s3, s4, s5, s6, s7⟩ := HSY.out wq hwq; go_simp; try with_reducible rfl)
        try simp only [Act.put, List.setIfInBounds_toArray, List.set_cons_zero, List.set_cons_succ]
        refine quiet_take (v := .bool true) hL9 (by kernel_rfl) (fun wq hwq => ?z2y2) (fun L9 hL9 => ?z2r2)
        case z2y2 => (go_simp; go_at_call 107; exact HVF.out wq hwq)
        try simp only [Act.put, List.setIfInBounds_toArray, List.set_cons_zero, List.set_cons_succ]
        refine quiet_take (v := .bool true) hL9 (by kernel_rfl) (fun wq hwq => ?z2y3) (fun L9 hL9 => ?z2r3)
        case z2y3 => (go_simp; try with_reducible rfl)
        try simp only [Act.put, List.setIfInBounds_toArray, List.set_cons_zero, List.set_cons_succ]
        refine quiet_take (v := ?z2v4) hL9 (by kernel_rfl) (fun wq hwq => ?z2y4) (fun L9 hL9 => ?z2r4)
        case z2y4 => (go_simp; try with_reducible rfl)
        try simp only [Act.put, List.setIfInBounds_toArray, List.set_cons_zero, List.set_cons_succ]
        refine quiet_take (v := .int .i64 S.rows) hL9 (by kernel_rfl) (fun wq hwq => ?z2y5) (fun L9 hL9 => ?z2r5)
        case z2y5 => (obtain ⟨s0, s1, s2, s3, s4, s5, s6, s7⟩ := HSY.out wq hwq; go_simp; try with_reducible rfl)
        try simp only [Act.put, List.setIfInBounds_toArray, List.set_cons_zero, List.set_cons_succ]
        refine quiet_take (v := ?z2v6) hL9 (by kernel_rfl) (fun wq hwq => ?z2y6) (fun L9 hL9 => ?z2r6)
        case z2y6 => (go_simp; try with_reducible rfl)
        try simp only [Act.put, List.setIfInBounds_toArray, List.set_cons_zero, List.set_cons_succ]
        refine quiet_take (v := .int .i64 S.f) hL9 (by kernel_rfl) (fun wq hwq => ?z2y7) (fun L9 hL9 => ?z2r7)
        case z2y7 => (obtain ⟨s0, s1, s2, s3, s4, s5, s6, s7⟩ := HSY.out wq hwq; go_simp; try with_reducible rfl)
        try simp only [Act.put, List.setIfInBounds_toArray, List.set_cons_zero, List.set_cons_succ]
        refine quiet_take (v := .int .i64 ((twoOf S.f : Nat) : Int)) hL9 (by kernel_rfl) (fun wq hwq => ?z2y8) (fun L9 hL9 => ?z2r8)
        case z2y8 => (go_simp; go_at_call 85; exact HTW.out wq hwq)
        try simp only [Act.put, List.setIfInBounds_toArray, List.set_cons_zero, List.set_cons_succ]
        refine quiet_take (v := .int .i64 M) hL9 (by kernel_rfl) (fun wq hwq => ?z2y9) (fun L9 hL9 => ?z2r9)
        case z2y9 => (go_simp; first | with_reducible rfl | exact HMIN.out | (rw [← HMIN.out]) | skip)
        try simp only [Act.put, List.setIfInBounds_toArray, List.set_cons_zero, List.set_cons_succ]
        refine quiet_take (v := .bool true) hL9 (by kernel_rfl) (fun wq hwq => ?z2y10) (fun L9 hL9 => ?z2r10)
        case z2y10 => (go_simp; go_at_call 144; exact HW1.out wq hwq)
        try simp only [Act.put, List.setIfInBounds_toArray, List.set_cons_zero, List.set_cons_succ]
        refine quiet_take (v := .bool true) hL9 (by kernel_rfl) (fun wq hwq => ?z2y11) (fun L9 hL9 => ?z2r11)
        case z2y11 => (go_simp; try with_reducible rfl)
        try simp only [Act.put, List.setIfInBounds_toArray, List.set_cons_zero, List.set_cons_succ]
        refine quiet_take (v := .bool true) hL9 (by kernel_rfl) (fun wq hwq => ?z2y12) (fun L9 hL9 => ?z2r12)
        case z2y12 => (go_simp; try with_reducible rfl)
        try simp only [Act.put, List.setIfInBounds_toArray, List.set_cons_zero, List.set_cons_succ]
        refine quiet_take (v := ?z2v13) hL9 (by kernel_rfl) (fun wq hwq => ?z2y13) (fun L9 hL9 => ?z2r13)
        case z2y13 => (go_simp; try with_reducible rfl)
        try simp only [Act.put, List.setIfInBounds_toArray, List.set_cons_zero, List.set_cons_succ]
        refine quiet_take (v := .int .i64 S.main) hL9 (by kernel_rfl) (fun wq hwq => ?z2y14) (fun L9 hL9 => ?z2r14)
        case z2y14 => (obtain ⟨s0, s1, s2, s3, s4, s5, s6, s7⟩ := HSY.out wq hwq; go_simp; try with_reducible rfl)
        try simp only [Act.put, List.setIfInBounds_toArray, List.set_cons_zero, List.set_cons_succ]
        refine quiet_take (v := .bool false) hL9 (by kernel_rfl) (fun wq hwq => ?z2y15) (fun L9 hL9 => ?z2r15)
        case z2y15 => (go_simp; go_at_call 144; exact HW2.out wq hwq)
        try simp only [Act.put, List.setIfInBounds_toArray, List.set_cons_zero, List.set_cons_succ]
        refine quiet_take (v := .bool false) hL9 (by kernel_rfl) (fun wq hwq => ?z2y16) (fun L9 hL9 => ?z2r16)
        case z2y16 => (go_simp; try with_reducible rfl)
        try simp only [Act.put, List.setIfInBounds_toArray, List.set_cons_zero, List.set_cons_succ]
        refine quiet_take (v := .bool false) hL9 (by kernel_rfl) (fun wq hwq => ?z2y17) (fun L9 hL9 => ?z2r17)
        case z2y17 => (go_simp; try with_reducible rfl)
        try simp only [Act.put, List.setIfInBounds_toArray, List.set_cons_zero, List.set_cons_succ]
        refine quiet_skip hL9 (by kernel_rfl) (fun L9 hL9 => ?_)
        try simp only [Act.put, List.setIfInBounds_toArray, List.set_cons_zero, List.set_cons_succ]
        refine quiet_skip hL9 (by kernel_rfl) (fun L9 hL9 => ?_)
        try simp only [Act.put, List.setIfInBounds_toArray, List.set_cons_zero, List.set_cons_succ]
        refine quiet_skip hL9 (by kernel_rfl) (fun L9 hL9 => ?_)
        try simp only [Act.put, List.setIfInBounds_toArray, List.set_cons_zero, List.set_cons_succ]
        refine quiet_take (v := .bool false) hL9 (by kernel_rfl) (fun wq hwq => ?z2y21) (fun L9 hL9 => ?z2r21)
        case z2y21 => (go_simp; try with_reducible rfl)
        try simp only [Act.put, List.setIfInBounds_toArray, List.set_cons_zero, List.set_cons_succ]
        refine quiet_take (v := .bool false) hL9 (by kernel_rfl) (fun wq hwq => ?z2y22) (fun L9 hL9 => ?z2r22)
        case z2y22 => (go_simp; try with_reducible rfl)
        try simp only [Act.put, List.setIfInBounds_toArray, List.set_cons_zero, List.set_cons_succ]
        refine quiet_skip hL9 (by kernel_rfl) (fun L9 hL9 => ?_)
        try simp only [Act.put, List.setIfInBounds_toArray, List.set_cons_zero, List.set_cons_succ]
        refine quiet_skip hL9 (by kernel_rfl) (fun L9 hL9 => ?_)
        try simp only [Act.put, List.setIfInBounds_toArray, List.set_cons_zero, List.set_cons_succ]
        refine quiet_skip hL9 (by kernel_rfl) (fun L9 hL9 => ?_)
        try simp only [Act.put, List.setIfInBounds_toArray, List.set_cons_zero, List.set_cons_succ]
        refine quiet_skip hL9 (by kernel_rfl) (fun L9 hL9 => ?_)
        try simp only [Act.put, List.setIfInBounds_toArray, List.set_cons_zero, List.set_cons_succ]
        refine quiet_take (v := .bool false) hL9 (by kernel_rfl) (fun wq hwq => ?z2y27) (fun L9 hL9 => ?z2r27)
        case z2y27 => (go_simp; try with_reducible rfl)
        try simp only [Act.put, List.setIfInBounds_toArray, List.set_cons_zero, List.set_cons_succ]
        refine quiet_take (v := .bool false) hL9 (by kernel_rfl) (fun wq hwq => ?z2y28) (fun L9 hL9 => ?z2r28)
        case z2y28 => (go_simp; try with_reducible rfl)
        try simp only [Act.put, List.setIfInBounds_toArray, List.set_cons_zero, List.set_cons_succ]
        refine quiet_skip hL9 (by kernel_rfl) (fun L9 hL9 => ?_)
        try simp only [Act.put, List.setIfInBounds_toArray, List.set_cons_zero, List.set_cons_succ]
        refine quiet_skip hL9 (by kernel_rfl) (fun L9 hL9 => ?_)
        try simp only [Act.put, List.setIfInBounds_toArray, List.set_cons_zero, List.set_cons_succ]
        refine quiet_skip hL9 (by kernel_rfl) (fun L9 hL9 => ?_)
        try simp only [Act.put, List.setIfInBounds_toArray, List.set_cons_zero, List.set_cons_succ]
        refine quiet_skip hL9 (by kernel_rfl) (fun L9 hL9 => ?_)
        try simp only [Act.put, List.setIfInBounds_toArray, List.set_cons_zero, List.set_cons_succ]
        refine quiet_take (v := .bool false) hL9 (by kernel_rfl) (fun wq hwq => ?z2y33) (fun L9 hL9 => ?z2r33)
        case z2y33 => (go_simp; try with_reducible rfl)
        try simp only [Act.put, List.setIfInBounds_toArray, List.set_cons_zero, List.set_cons_succ]
        refine quiet_take (v := .bool false) hL9 (by kernel_rfl) (fun wq hwq => ?z2y34) (fun L9 hL9 => ?z2r34)
        case z2y34 => (go_simp; try with_reducible rfl)
        try simp only [Act.put, List.setIfInBounds_toArray, List.set_cons_zero, List.set_cons_succ]
        refine quiet_skip hL9 (by kernel_rfl) (fun L9 hL9 => ?_)
        try simp only [Act.put, List.setIfInBounds_toArray, List.set_cons_zero, List.set_cons_succ]
        refine quiet_skip hL9 (by kernel_rfl) (fun L9 hL9 => ?_)
        try simp only [Act.put, List.setIfInBounds_toArray, List.set_cons_zero, List.set_cons_succ]
        refine quiet_skip hL9 (by kernel_rfl) (fun L9 hL9 => ?_)
        try simp only [Act.put, List.setIfInBounds_toArray, List.set_cons_zero, List.set_cons_succ]
        refine quiet_skip hL9 (by kernel_rfl) (fun L9 hL9 => ?_)
        try simp only [Act.put, List.setIfInBounds_toArray, List.set_cons_zero, List.set_cons_succ]
        refine quiet_take (v := .bool false) hL9 (by kernel_rfl) (fun wq hwq => ?z2y39) (fun L9 hL9 => ?z2r39)
        case z2y39 => (go_simp; try with_reducible rfl)
        try simp only [Act.put, List.setIfInBounds_toArray, List.set_cons_zero, List.set_cons_succ]
        refine quiet_take (v := .bool false) hL9 (by kernel_rfl) (fun wq hwq => ?z2y40) (fun L9 hL9 => ?z2r40)
        case z2y40 => (go_simp; try with_reducible rfl)
        try simp only [Act.put, List.setIfInBounds_toArray, List.set_cons_zero, List.set_cons_succ]
        refine quiet_skip hL9 (by kernel_rfl) (fun L9 hL9 => ?_)
        try simp only [Act.put, List.setIfInBounds_toArray, List.set_cons_zero, List.set_cons_succ]
        refine quiet_skip hL9 (by kernel_rfl) (fun L9 hL9 => ?_)
        try simp only [Act.put, List.setIfInBounds_toArray, List.set_cons_zero, List.set_cons_succ]
        refine quiet_skip hL9 (by kernel_rfl) (fun L9 hL9 => ?_)
        try simp only [Act.put, List.setIfInBounds_toArray, List.set_cons_zero, List.set_cons_succ]
        refine quiet_skip hL9 (by kernel_rfl) (fun L9 hL9 => ?_)
        try simp only [Act.put, List.setIfInBounds_toArray, List.set_cons_zero, List.set_cons_succ]
        refine quiet_take (v := .bool false) hL9 (by kernel_rfl) (fun wq hwq => ?z2y45) (fun L9 hL9 => ?z2r45)
        case z2y45 => (go_simp; try with_reducible rfl)
        try simp only [Act.put, List.setIfInBounds_toArray, List.set_cons_zero, List.set_cons_succ]
        refine quiet_nil hL9 ?_
        clear hL9
        intro wy hOy
        have hOz := HU.out.trans hOy
        go_wp2
        go_ret
        exact ⟨by simp, hOz⟩
      | true =>
        cases b3 with
        | false =>
          go_enter Tryd.func100, Tryd.ntmps100
          go_upto_region 1 with fail
          rw [← HUE.out]
          refine region_keep_tail (fun wq => On u wq) 46 (by kernel_rfl) (by kernel_rfl) (On.refl HU.out.tab).drew ?_
          simp only [List.take_succ_cons, List.take_zero, List.drop_succ_cons, List.drop_zero]
          refine quiet_start fun L9 hL9 => ?_
          refine quiet_take (v := ?z3v0) hL9 (by kernel_rfl) (fun wq hwq => ?z3y0) (fun L9 hL9 => ?z3r0)
          case z3y0 => (go_simp; try with_reducible rfl)
          try simp only [Act.put, List.setIfInBounds_toArray, List.set_cons_zero, List.set_cons_succ]
          refine quiet_take (v := .int .i64 S.f) hL9 (by kernel_rfl) (fun wq hwq => ?z3y1) (fun L9 hL9 => ?z3r1)
          case z3y1 => (obtain ⟨s0, s1, s2, s3, s4, s5, s6, s7⟩ := HSY.out wq hwq; go_simp; try with_reducible rfl)
          try simp only [Act.put, List.setIfInBounds_toArray, List.set_cons_zero, List.set_cons_succ]
          refine quiet_take (v := .bool true) hL9 (by kernel_rfl) (fun wq hwq => ?z3y2) (fun L9 hL9 => ?z3r2)
          case z3y2 => (go_simp; go_at_call 107; exact HVF.out wq hwq)
          try simp only [Act.put, List.setIfInBounds_toArray, List.set_cons_zero, List.set_cons_succ]
          refine quiet_take (v := .bool true) hL9 (by kernel_rfl) (fun wq hwq => ?z3y3) (fun L9 hL9 => ?z3r3)
          case z3y3 => (go_simp; try with_reducible rfl)
          try simp only [Act.put, List.setIfInBounds_toArray, List.set_cons_zero, List.set_cons_succ]
          refine quiet_take (v := ?z3v4) hL9 (by kernel_rfl) (fun wq hwq => ?z3y4) (fun L9 hL9 => ?z3r4)
          case z3y4 => (go_simp; try with_reducible rfl)
          try simp only [Act.put, List.setIfInBounds_toArray, List.set_cons_zero, List.set_cons_succ]
          refine quiet_take (v := .int .i64 S.rows) hL9 (by kernel_rfl) (fun wq hwq => ?z3y5) (fun L9 hL9 => ?z3r5)
          case z3y5 => (obtain ⟨s0, s1, s2, s3, s4, s5, s6, s7⟩ := HSY.out wq hwq; go_simp; try with_reducible rfl)
          try simp only [Act.put, List.setIfInBounds_toArray, List.set_cons_zero, List.set_cons_succ]
          refine quiet_take (v := ?z3v6) hL9 (by kernel_rfl) (fun wq hwq => ?z3y6) (fun L9 hL9 => ?z3r6)
          case z3y6 => (go_simp; try with_reducible rfl)
          try simp only [Act.put, List.setIfInBounds_toArray, List.set_cons_zero, List.set_cons_succ]
          refine quiet_take (v := .int .i64 S.f) hL9 (by kernel_rfl) (fun wq hwq => ?z3y7) (fun L9 hL9 => ?z3r7)
          case z3y7 => (obtain ⟨s0, s1, s2, s3, s4, s5, s6, s7⟩ := HSY.out wq hwq; go_simp; try with_reducible rfl)
          try simp only [Act.put, List.setIfInBounds_toArray, List.set_cons_zero, List.set_cons_succ]
          refine quiet_take (v := .int .i64 ((twoOf S.f : Nat) : Int)) hL9 (by kernel_rfl) (fun wq hwq => ?z3y8) (fun L9 hL9 => ?z3r8)
          case z3y8 => (go_simp; go_at_call 85; exact HTW.out wq hwq)
          try simp only [Act.put, List.setIfInBounds_toArray, List.set_cons_zero, List.set_cons_succ]
          refine quiet_take (v := .int .i64 M) hL9 (by kernel_rfl) (fun wq hwq => ?z3y9) (fun L9 hL9 => ?z3r9)
          case z3y9 => (go_simp; first | with_reducible rfl | exact HMIN.out | (rw [← HMIN.out]) | skip)
          try simp only [Act.put, List.setIfInBounds_toArray, List.set_cons_zero, List.set_cons_succ]
          refine quiet_take (v := .bool true) hL9 (by kernel_rfl) (fun wq hwq => ?z3y10) (fun L9 hL9 => ?z3r10)
          case z3y10 => (go_simp; go_at_call 144; exact HW1.out wq hwq)
          try simp only [Act.put, List.setIfInBounds_toArray, List.set_cons_zero, List.set_cons_succ]
          refine quiet_take (v := .bool true) hL9 (by kernel_rfl) (fun wq hwq => ?z3y11) (fun L9 hL9 => ?z3r11)
          case z3y11 => (go_simp; try with_reducible rfl)
          try simp only [Act.put, List.setIfInBounds_toArray, List.set_cons_zero, List.set_cons_succ]
          refine quiet_take (v := .bool true) hL9 (by kernel_rfl) (fun wq hwq => ?z3y12) (fun L9 hL9 => ?z3r12)
          case z3y12 => (go_simp; try with_reducible rfl)
          try simp only [Act.put, List.setIfInBounds_toArray, List.set_cons_zero, List.set_cons_succ]
          refine quiet_take (v := ?z3v13) hL9 (by kernel_rfl) (fun wq hwq => ?z3y13) (fun L9 hL9 => ?z3r13)
          case z3y13 => (go_simp; try with_reducible rfl)
          try simp only [Act.put, List.setIfInBounds_toArray, List.set_cons_zero, List.set_cons_succ]
          refine quiet_take (v := .int .i64 S.main) hL9 (by kernel_rfl) (fun wq hwq => ?z3y14) (fun L9 hL9 => ?z3r14)
          case z3y14 => (obtain ⟨s0, s1, s2, s3, s4, s5, s6, s7⟩ := HSY.out wq hwq; go_simp; try with_reducible rfl)
          try simp only [Act.put, List.setIfInBounds_toArray, List.set_cons_zero, List.set_cons_succ]
          refine quiet_take (v := .bool true) hL9 (by kernel_rfl) (fun wq hwq => ?z3y15) (fun L9 hL9 => ?z3r15)
          case z3y15 => (go_simp; go_at_call 144; exact HW2.out wq hwq)
          try simp only [Act.put, List.setIfInBounds_toArray, List.set_cons_zero, List.set_cons_succ]
          refine quiet_take (v := .bool true) hL9 (by kernel_rfl) (fun wq hwq => ?z3y16) (fun L9 hL9 => ?z3r16)
          case z3y16 => (go_simp; try with_reducible rfl)
          try simp only [Act.put, List.setIfInBounds_toArray, List.set_cons_zero, List.set_cons_succ]
          refine quiet_take (v := .bool true) hL9 (by kernel_rfl) (fun wq hwq => ?z3y17) (fun L9 hL9 => ?z3r17)
          case z3y17 => (go_simp; try with_reducible rfl)
          try simp only [Act.put, List.setIfInBounds_toArray, List.set_cons_zero, List.set_cons_succ]
          refine quiet_take (v := ?z3v18) hL9 (by kernel_rfl) (fun wq hwq => ?z3y18) (fun L9 hL9 => ?z3r18)
          case z3y18 => (go_simp; try with_reducible rfl)
          try simp only [Act.put, List.setIfInBounds_toArray, List.set_cons_zero, List.set_cons_succ]
          refine quiet_take (v := .int .i64 S.pub) hL9 (by kernel_rfl) (fun wq hwq => ?z3y19) (fun L9 hL9 => ?z3r19)
          case z3y19 => (obtain ⟨s0, s1, s2, s3, s4, s5, s6, s7⟩ := HSY.out wq hwq; go_simp; try with_reducible rfl)
          try simp only [Act.put, List.setIfInBounds_toArray, List.set_cons_zero, List.set_cons_succ]
          refine quiet_take (v := .bool false) hL9 (by kernel_rfl) (fun wq hwq => ?z3y20) (fun L9 hL9 => ?z3r20)
          case z3y20 => (go_simp; go_at_call 144; exact HW3.out wq hwq)
          try simp only [Act.put, List.setIfInBounds_toArray, List.set_cons_zero, List.set_cons_succ]
          refine quiet_take (v := .bool false) hL9 (by kernel_rfl) (fun wq hwq => ?z3y21) (fun L9 hL9 => ?z3r21)
          case z3y21 => (go_simp; try with_reducible rfl)
          try simp only [Act.put, List.setIfInBounds_toArray, List.set_cons_zero, List.set_cons_succ]
          refine quiet_take (v := .bool false) hL9 (by kernel_rfl) (fun wq hwq => ?z3y22) (fun L9 hL9 => ?z3r22)
          case z3y22 => (go_simp; try with_reducible rfl)
          try simp only [Act.put, List.setIfInBounds_toArray, List.set_cons_zero, List.set_cons_succ]
          refine quiet_skip hL9 (by kernel_rfl) (fun L9 hL9 => ?_)
          try simp only [Act.put, List.setIfInBounds_toArray, List.set_cons_zero, List.set_cons_succ]
          refine quiet_skip hL9 (by kernel_rfl) (fun L9 hL9 => ?_)
          try simp only [Act.put, List.setIfInBounds_toArray, List.set_cons_zero, List.set_cons_succ]
          refine quiet_skip hL9 (by kernel_rfl) (fun L9 hL9 => ?_)
          try simp only [Act.put, List.setIfInBounds_toArray, List.set_cons_zero, List.set_cons_succ]
          refine quiet_skip hL9 (by kernel_rfl) (fun L9 hL9 => ?_)
          try simp only [Act.put, List.setIfInBounds_toArray, List.set_cons_zero, List.set_cons_succ]
          refine quiet_take (v := .bool false) hL9 (by kernel_rfl) (fun wq hwq => ?z3y27) (fun L9 hL9 => ?z3r27)
          case z3y27 => (go_simp; try with_reducible rfl)
          try simp only [Act.put, List.setIfInBounds_toArray, List.set_cons_zero, List.set_cons_succ]
          refine quiet_take (v := .bool false) hL9 (by kernel_rfl) (fun wq hwq => ?z3y28) (fun L9 hL9 => ?z3r28)
          case z3y28 => (go_simp; try with_reducible rfl)
          try simp only [Act.put, List.setIfInBounds_toArray, List.set_cons_zero, List.set_cons_succ]
          refine quiet_skip hL9 (by kernel_rfl) (fun L9 hL9 => ?_)
          try simp only [Act.put, List.setIfInBounds_toArray, List.set_cons_zero, List.set_cons_succ]
          refine quiet_skip hL9 (by kernel_rfl) (fun L9 hL9 => ?_)
          try simp only [Act.put, List.setIfInBounds_toArray, List.set_cons_zero, List.set_cons_succ]
          refine quiet_skip hL9 (by kernel_rfl) (fun L9 hL9 => ?_)
          try simp only [Act.put, List.setIfInBounds_toArray, List.set_cons_zero, List.set_cons_succ]
          refine quiet_skip hL9 (by kernel_rfl) (fun L9 hL9 => ?_)
          try simp only [Act.put, List.setIfInBounds_toArray, List.set_cons_zero, List.set_cons_succ]
          refine quiet_take (v := .bool false) hL9 (by kernel_rfl) (fun wq hwq => ?z3y33) (fun L9 hL9 => ?z3r33)
          case z3y33 => (go_simp; try with_reducible rfl)
          try simp only [Act.put, List.setIfInBounds_toArray, List.set_cons_zero, List.set_cons_succ]
          refine quiet_take (v := .bool false) hL9 (by kernel_rfl) (fun wq hwq => ?z3y34) (fun L9 hL9 => ?z3r34)
          case z3y34 => (go_simp; try with_reducible rfl)
          try simp only [Act.put, List.setIfInBounds_toArray, List.set_cons_zero, List.set_cons_succ]
          refine quiet_skip hL9 (by kernel_rfl) (fun L9 hL9 => ?_)
          try simp only [Act.put, List.setIfInBounds_toArray, List.set_cons_zero, List.set_cons_succ]
          refine quiet_skip hL9 (by kernel_rfl) (fun L9 hL9 => ?_)
          try simp only [Act.put, List.setIfInBounds_toArray, List.set_cons_zero, List.set_cons_succ]
          refine quiet_skip hL9 (by kernel_rfl) (fun L9 hL9 => ?_)
          try simp only [Act.put, List.setIfInBounds_toArray, List.set_cons_zero, List.set_cons_succ]
          refine quiet_skip hL9 (by kernel_rfl) (fun L9 hL9 => ?_)
          try simp only [Act.put, List.setIfInBounds_toArray, List.set_cons_zero, List.set_cons_succ]
          refine quiet_take (v := .bool false) hL9 (by kernel_rfl) (fun wq hwq => ?z3y39) (fun L9 hL9 => ?z3r39)
          case z3y39 => (go_simp; try with_reducible rfl)
          try simp only [Act.put, List.setIfInBounds_toArray, List.set_cons_zero, List.set_cons_succ]
          refine quiet_take (v := .bool false) hL9 (by kernel_rfl) (fun wq hwq => ?z3y40) (fun L9 hL9 => ?z3r40)
          case z3y40 => (go_simp; try with_reducible rfl)
          try simp only [Act.put, List.setIfInBounds_toArray, List.set_cons_zero, List.set_cons_succ]
          refine quiet_skip hL9 (by kernel_rfl) (fun L9 hL9 => ?_)
          try simp only [Act.put, List.setIfInBounds_toArray, List.set_cons_zero, List.set_cons_succ]
          refine quiet_skip hL9 (by kernel_rfl) (fun L9 hL9 => ?_)
          try simp only [Act.put, List.setIfInBounds_toArray, List.set_cons_zero, List.set_cons_succ]
          refine quiet_skip hL9 (by kernel_rfl) (fun L9 hL9 => ?_)
          try simp only [Act.put, List.setIfInBounds_toArray, List.set_cons_zero, List.set_cons_succ]
          refine quiet_skip hL9 (by kernel_rfl) (fun L9 hL9 => ?_)
          try simp only [Act.put, List.setIfInBounds_toArray, List.set_cons_zero, List.set_cons_succ]
          refine quiet_take (v := .bool false) hL9 (by kernel_rfl) (fun wq hwq => ?z3y45) (fun L9 hL9 => ?z3r45)
          case z3y45 => (go_simp; try with_reducible rfl)
          try simp only [Act.put, List.setIfInBounds_toArray, List.set_cons_zero, List.set_cons_succ]
          refine quiet_nil hL9 ?_
          clear hL9
          intro wy hOy
          have hOz := HU.out.trans hOy
          go_wp2
          go_ret
          exact ⟨by simp, hOz⟩
        | true =>
          cases b4 with
          | false =>
            go_enter Tryd.func100, Tryd.ntmps100
            go_upto_region 1 with fail
            rw [← HUE.out]
            refine region_keep_tail (fun wq => On u wq) 46 (by kernel_rfl) (by kernel_rfl) (On.refl HU.out.tab).drew ?_
            simp only [List.take_succ_cons, List.take_zero, List.drop_succ_cons, List.drop_zero]
            refine quiet_start fun L9 hL9 => ?_
            refine quiet_take (v := ?z4v0) hL9 (by kernel_rfl) (fun wq hwq => ?z4y0) (fun L9 hL9 => ?z4r0)
            case z4y0 => (go_simp; try with_reducible rfl)
            try simp only [Act.put, List.setIfInBounds_toArray, List.set_cons_zero, List.set_cons_succ]
            refine quiet_take (v := .int .i64 S.f) hL9 (by kernel_rfl) (fun wq hwq => ?z4y1) (fun L9 hL9 => ?z4r1)
            case z4y1 => (obtain ⟨s0, s1, s2, s3, s4, s5, s6, s7⟩ := HSY.out wq hwq; go_simp; try with_reducible rfl)
            try simp only [Act.put, List.setIfInBounds_toArray, List.set_cons_zero, List.set_cons_succ]
            refine quiet_take (v := .bool true) hL9 (by kernel_rfl) (fun wq hwq => ?z4y2) (fun L9 hL9 => ?z4r2)
            case z4y2 => (go_simp; go_at_call 107; exact HVF.out wq hwq)
            try simp only [Act.put, List.setIfInBounds_toArray, List.set_cons_zero, List.set_cons_succ]
            refine quiet_take (v := .bool true) hL9 (by kernel_rfl) (fun wq hwq => ?z4y3) (fun L9 hL9 => ?z4r3)
            case z4y3 => (go_simp; try with_reducible rfl)
            try simp only [Act.put, List.setIfInBounds_toArray, List.set_cons_zero, List.set_cons_succ]
            refine quiet_take (v := ?z4v4) hL9 (by kernel_rfl) (fun wq hwq => ?z4y4) (fun L9 hL9 => ?z4r4)
            case z4y4 => (go_simp; try with_reducible rfl)
            try simp only [Act.put, List.setIfInBounds_toArray, List.set_cons_zero, List.set_cons_succ]
            refine quiet_take (v := .int .i64 S.rows) hL9 (by kernel_rfl) (fun wq hwq => ?z4y5) (fun L9 hL9 => ?z4r5)
            case z4y5 => (obtain ⟨s0, s1, s2, s3, s4, s5, s6, s7⟩ := HSY.out wq hwq; go_simp; try with_reducible rfl)
            try simp only [Act.put, List.setIfInBounds_toArray, List.set_cons_zero, List.set_cons_succ]
            refine quiet_take (v := ?z4v6) hL9 (by kernel_rfl) (fun wq hwq => ?z4y6) (fun L9 hL9 => ?z4r6)
            case z4y6 => (go_simp; try with_reducible rfl)
            try simp only [Act.put, List.setIfInBounds_toArray, List.set_cons_zero, List.set_cons_succ]
            refine quiet_take (v := .int .i64 S.f) hL9 (by kernel_rfl) (fun wq hwq => ?z4y7) (fun L9 hL9 => ?z4r7)
            case z4y7 => (obtain ⟨s0, s1, s2, s3, s4, s5, s6, s7⟩ := HSY.out wq hwq; go_simp; try with_reducible rfl)
            try simp only [Act.put, List.setIfInBounds_toArray, List.set_cons_zero, List.set_cons_succ]
            refine quiet_take (v := .int .i64 ((twoOf S.f : Nat) : Int)) hL9 (by kernel_rfl) (fun wq hwq => ?z4y8) (fun L9 hL9 => ?z4r8)
            case z4y8 => (go_simp; go_at_call 85; exact HTW.out wq hwq)
            try simp only [Act.put, List.setIfInBounds_toArray, List.set_cons_zero, List.set_cons_succ]
            refine quiet_take (v := .int .i64 M) hL9 (by kernel_rfl) (fun wq hwq => ?z4y9) (fun L9 hL9 => ?z4r9)
            case z4y9 => (go_simp; first | with_reducible rfl | exact HMIN.out | (rw [← HMIN.out]) | skip)
            try simp only [Act.put, List.setIfInBounds_toArray, List.set_cons_zero, List.set_cons_succ]
            refine quiet_take (v := .bool true) hL9 (by kernel_rfl) (fun wq hwq => ?z4y10) (fun L9 hL9 => ?z4r10)
            case z4y10 => (go_simp; go_at_call 144; exact HW1.out wq hwq)
            try simp only [Act.put, List.setIfInBounds_toArray, List.set_cons_zero, List.set_cons_succ]
            refine quiet_take (v := .bool true) hL9 (by kernel_rfl) (fun wq hwq => ?z4y11) (fun L9 hL9 => ?z4r11)
            case z4y11 => (go_simp; try with_reducible rfl)
            try simp only [Act.put, List.setIfInBounds_toArray, List.set_cons_zero, List.set_cons_succ]
            refine quiet_take (v := .bool true) hL9 (by kernel_rfl) (fun wq hwq => ?z4y12) (fun L9 hL9 => ?z4r12)
            case z4y12 => (go_simp; try with_reducible rfl)
            try simp only [Act.put, List.setIfInBounds_toArray, List.set_cons_zero, List.set_cons_succ]
            refine quiet_take (v := ?z4v13) hL9 (by kernel_rfl) (fun wq hwq => ?z4y13) (fun L9 hL9 => ?z4r13)
            case z4y13 => (go_simp; try with_reducible rfl)
            try simp only [Act.put, List.setIfInBounds_toArray, List.set_cons_zero, List.set_cons_succ]
            refine quiet_take (v := .int .i64 S.main) hL9 (by kernel_rfl) (fun wq hwq => ?z4y14) (fun L9 hL9 => ?z4r14)
            case z4y14 => (obtain ⟨s0, s1, s2, s3, s4, s5, s6, s7⟩ := HSY.out wq hwq; go_simp; try with_reducible rfl)
            try simp only [Act.put, List.setIfInBounds_toArray, List.set_cons_zero, List.set_cons_succ]
            refine quiet_take (v := .bool true) hL9 (by kernel_rfl) (fun wq hwq => ?z4y15) (fun L9 hL9 => ?z4r15)
            case z4y15 => (go_simp; go_at_call 144; exact HW2.out wq hwq)
            try simp only [Act.put, List.setIfInBounds_toArray, List.set_cons_zero, List.set_cons_succ]
            refine quiet_take (v := .bool true) hL9 (by kernel_rfl) (fun wq hwq => ?z4y16) (fun L9 hL9 => ?z4r16)
            case z4y16 => (go_simp; try with_reducible rfl)
            try simp only [Act.put, List.setIfInBounds_toArray, List.set_cons_zero, List.set_cons_succ]
            refine quiet_take (v := .bool true) hL9 (by kernel_rfl) (fun wq hwq => ?z4y17) (fun L9 hL9 => ?z4r17)
            case z4y17 => (go_simp; try with_reducible rfl)
            try simp only [Act.put, List.setIfInBounds_toArray, List.set_cons_zero, List.set_cons_succ]
            refine quiet_take (v := ?z4v18) hL9 (by kernel_rfl) (fun wq hwq => ?z4y18) (fun L9 hL9 => ?z4r18)
            case z4y18 => (go_simp; try with_reducible rfl)
            try simp only [Act.put, List.setIfInBounds_toArray, List.set_cons_zero, List.set_cons_succ]
            refine quiet_take (v := .int .i64 S.pub) hL9 (by kernel_rfl) (fun wq hwq => ?z4y19) (fun L9 hL9 => ?z4r19)
            case z4y19 => (obtain ⟨s0, s1, s2, s3, s4, s5, s6, s7⟩ := HSY.out wq hwq; go_simp; try with_reducible rfl)
            try simp only [Act.put, List.setIfInBounds_toArray, List.set_cons_zero, List.set_cons_succ]
            refine quiet_take (v := .bool true) hL9 (by kernel_rfl) (fun wq hwq => ?z4y20) (fun L9 hL9 => ?z4r20)
            case z4y20 => (go_simp; go_at_call 144; exact HW3.out wq hwq)
            try simp only [Act.put, List.setIfInBounds_toArray, List.set_cons_zero, List.set_cons_succ]
            refine quiet_take (v := .bool true) hL9 (by kernel_rfl) (fun wq hwq => ?z4y21) (fun L9 hL9 => ?z4r21)
            case z4y21 => (go_simp; try with_reducible rfl)
            try simp only [Act.put, List.setIfInBounds_toArray, List.set_cons_zero, List.set_cons_succ]
            refine quiet_take (v := .bool true) hL9 (by kernel_rfl) (fun wq hwq => ?z4y22) (fun L9 hL9 => ?z4r22)
            case z4y22 => (go_simp; try with_reducible rfl)
            try simp only [Act.put, List.setIfInBounds_toArray, List.set_cons_zero, List.set_cons_succ]
            refine quiet_take (v := ?z4v23) hL9 (by kernel_rfl) (fun wq hwq => ?z4y23) (fun L9 hL9 => ?z4r23)
            case z4y23 => (go_simp; try with_reducible rfl)
            try simp only [Act.put, List.setIfInBounds_toArray, List.set_cons_zero, List.set_cons_succ]
            refine quiet_take (v := .slice H.a1 S.fixed.length H.c1) hL9 (by kernel_rfl) (fun wq hwq => ?z4y24) (fun L9 hL9 => ?z4r24)
            case z4y24 => (obtain ⟨s0, s1, s2, s3, s4, s5, s6, s7⟩ := HSY.out wq hwq; go_simp; try with_reducible rfl)
            try simp only [Act.put, List.setIfInBounds_toArray, List.set_cons_zero, List.set_cons_succ]
            refine quiet_take (v := .int .i64 ((S.fixed.length : Nat) : Int)) hL9 (by kernel_rfl) (fun wq hwq => ?z4y25) (fun L9 hL9 => ?z4r25)
            case z4y25 => (go_simp; try with_reducible rfl; try simp)
            try simp only [Act.put, List.setIfInBounds_toArray, List.set_cons_zero, List.set_cons_succ]
            refine quiet_take (v := .bool false) hL9 (by kernel_rfl) (fun wq hwq => ?z4y26) (fun L9 hL9 => ?z4r26)
            case z4y26 => (have h1 := HC4.out; go_simp; try with_reducible rfl; try simp only [h1])
            try simp only [Act.put, List.setIfInBounds_toArray, List.set_cons_zero, List.set_cons_succ]
            refine quiet_take (v := .bool false) hL9 (by kernel_rfl) (fun wq hwq => ?z4y27) (fun L9 hL9 => ?z4r27)
            case z4y27 => (go_simp; try with_reducible rfl)
            try simp only [Act.put, List.setIfInBounds_toArray, List.set_cons_zero, List.set_cons_succ]
            refine quiet_take (v := .bool false) hL9 (by kernel_rfl) (fun wq hwq => ?z4y28) (fun L9 hL9 => ?z4r28)
            case z4y28 => (go_simp; try with_reducible rfl)
            try simp only [Act.put, List.setIfInBounds_toArray, List.set_cons_zero, List.set_cons_succ]
            refine quiet_skip hL9 (by kernel_rfl) (fun L9 hL9 => ?_)
            try simp only [Act.put, List.setIfInBounds_toArray, List.set_cons_zero, List.set_cons_succ]
            refine quiet_skip hL9 (by kernel_rfl) (fun L9 hL9 => ?_)
            try simp only [Act.put, List.setIfInBounds_toArray, List.set_cons_zero, List.set_cons_succ]
            refine quiet_skip hL9 (by kernel_rfl) (fun L9 hL9 => ?_)
            try simp only [Act.put, List.setIfInBounds_toArray, List.set_cons_zero, List.set_cons_succ]
            refine quiet_skip hL9 (by kernel_rfl) (fun L9 hL9 => ?_)
            try simp only [Act.put, List.setIfInBounds_toArray, List.set_cons_zero, List.set_cons_succ]
            refine quiet_take (v := .bool false) hL9 (by kernel_rfl) (fun wq hwq => ?z4y33) (fun L9 hL9 => ?z4r33)
            case z4y33 => (go_simp; try with_reducible rfl)
            try simp only [Act.put, List.setIfInBounds_toArray, List.set_cons_zero, List.set_cons_succ]
            refine quiet_take (v := .bool false) hL9 (by kernel_rfl) (fun wq hwq => ?z4y34) (fun L9 hL9 => ?z4r34)
            case z4y34 => (go_simp; try with_reducible rfl)
            try simp only [Act.put, List.setIfInBounds_toArray, List.set_cons_zero, List.set_cons_succ]
            refine quiet_skip hL9 (by kernel_rfl) (fun L9 hL9 => ?_)
            try simp only [Act.put, List.setIfInBounds_toArray, List.set_cons_zero, List.set_cons_succ]
            refine quiet_skip hL9 (by kernel_rfl) (fun L9 hL9 => ?_)
            try simp only [Act.put, List.setIfInBounds_toArray, List.set_cons_zero, List.set_cons_succ]
            refine quiet_skip hL9 (by kernel_rfl) (fun L9 hL9 => ?_)
            try simp only [Act.put, List.setIfInBounds_toArray, List.set_cons_zero, List.set_cons_succ]
            refine quiet_skip hL9 (by kernel_rfl) (fun L9 hL9 => ?_)
            try simp only [Act.put, List.setIfInBounds_toArray, List.set_cons_zero, List.set_cons_succ]
            refine quiet_take (v := .bool false) hL9 (by kernel_rfl) (fun wq hwq => ?z4y39) (fun L9 hL9 => ?z4r39)
            case z4y39 => (go_simp; try with_reducible rfl)
            try simp only [Act.put, List.setIfInBounds_toArray, List.set_cons_zero, List.set_cons_succ]
            refine quiet_take (v := .bool false) hL9 (by kernel_rfl) (fun wq hwq => ?z4y40) (fun L9 hL9 => ?z4r40)
            case z4y40 => (go_simp; try with_reducible rfl)
            try simp only [Act.put, List.setIfInBounds_toArray, List.set_cons_zero, List.set_cons_succ]
            refine quiet_skip hL9 (by kernel_rfl) (fun L9 hL9 => ?_)
            try simp only [Act.put, List.setIfInBounds_toArray, List.set_cons_zero, List.set_cons_succ]
            refine quiet_skip hL9 (by kernel_rfl) (fun L9 hL9 => ?_)
            try simp only [Act.put, List.setIfInBounds_toArray, List.set_cons_zero, List.set_cons_succ]
            refine quiet_skip hL9 (by kernel_rfl) (fun L9 hL9 => ?_)
            try simp only [Act.put, List.setIfInBounds_toArray, List.set_cons_zero, List.set_cons_succ]
            refine quiet_skip hL9 (by kernel_rfl) (fun L9 hL9 => ?_)
            try simp only [Act.put, List.setIfInBounds_toArray, List.set_cons_zero, List.set_cons_succ]
            refine quiet_take (v := .bool false) hL9 (by kernel_rfl) (fun wq hwq => ?z4y45) (fun L9 hL9 => ?z4r45)
            case z4y45 => (go_simp; try with_reducible rfl)
            try simp only [Act.put, List.setIfInBounds_toArray, List.set_cons_zero, List.set_cons_succ]
            refine quiet_nil hL9 ?_
            clear hL9
            intro wy hOy
            have hOz := HU.out.trans hOy
            go_wp2
            go_ret
            exact ⟨by simp, hOz⟩
          | true =>
            cases b5 with
            | false =>
              go_enter Tryd.func100, Tryd.ntmps100
              go_upto_region 1 with fail
              rw [← HUE.out]
              refine region_keep_tail (fun wq => On u wq) 46 (by kernel_rfl) (by kernel_rfl) (On.refl HU.out.tab).drew ?_
              simp only [List.take_succ_cons, List.take_zero, List.drop_succ_cons, List.drop_zero]
              refine quiet_start fun L9 hL9 => ?_
              refine quiet_take (v := ?z5v0) hL9 (by kernel_rfl) (fun wq hwq => ?z5y0) (fun L9 hL9 => ?z5r0)
              case z5y0 => (go_simp; try with_reducible rfl)
              try simp only [Act.put, List.setIfInBounds_toArray, List.set_cons_zero, List.set_cons_succ]
              refine quiet_take (v := .int .i64 S.f) hL9 (by kernel_rfl) (fun wq hwq => ?z5y1) (fun L9 hL9 => ?z5r1)
              case z5y1 => (obtain ⟨s0, s1, s2, s3, s4, s5, s6, s7⟩ := HSY.out wq hwq; go_simp; try with_reducible rfl)
              try simp only [Act.put, List.setIfInBounds_toArray, List.set_cons_zero, List.set_cons_succ]
              refine quiet_take (v := .bool true) hL9 (by kernel_rfl) (fun wq hwq => ?z5y2) (fun L9 hL9 => ?z5r2)
              case z5y2 => (go_simp; go_at_call 107; exact HVF.out wq hwq)
              try simp only [Act.put, List.setIfInBounds_toArray, List.set_cons_zero, List.set_cons_succ]
              refine quiet_take (v := .bool true) hL9 (by kernel_rfl) (fun wq hwq => ?z5y3) (fun L9 hL9 => ?z5r3)
              case z5y3 => (go_simp; try with_reducible rfl)
              try simp only [Act.put, List.setIfInBounds_toArray, List.set_cons_zero, List.set_cons_succ]
              refine quiet_take (v := ?z5v4) hL9 (by kernel_rfl) (fun wq hwq => ?z5y4) (fun L9 hL9 => ?z5r4)
              case z5y4 => (go_simp; try with_reducible rfl)
              try simp only [Act.put, List.setIfInBounds_toArray, List.set_cons_zero, List.set_cons_succ]
              refine quiet_take (v := .int .i64 S.rows) hL9 (by kernel_rfl) (fun wq hwq => ?z5y5) (fun L9 hL9 => ?z5r5)
              case z5y5 => (obtain ⟨s0, s1, s2, s3, s4, s5, s6, s7⟩ := HSY.out wq hwq; go_simp; try with_reducible rfl)
              try simp only [Act.put, List.setIfInBounds_toArray, List.set_cons_zero, List.set_cons_succ]
              refine quiet_take (v := ?z5v6) hL9 (by kernel_rfl) (fun wq hwq => ?z5y6) (fun L9 hL9 => ?z5r6)
              case z5y6 => (go_simp; try with_reducible rfl)
              try simp only [Act.put, List.setIfInBounds_toArray, List.set_cons_zero, List.set_cons_succ]
              refine quiet_take (v := .int .i64 S.f) hL9 (by kernel_rfl) (fun wq hwq => ?z5y7) (fun L9 hL9 => ?z5r7)
              case z5y7 => (obtain ⟨s0, s1, s2, s3, s4, s5, s6, s7⟩ := HSY.out wq hwq; go_simp; try with_reducible rfl)
              try simp only [Act.put, List.setIfInBounds_toArray, List.set_cons_zero, List.set_cons_succ]
              refine quiet_take (v := .int .i64 ((twoOf S.f : Nat) : Int)) hL9 (by kernel_rfl) (fun wq hwq => ?z5y8) (fun L9 hL9 => ?z5r8)
              case z5y8 => (go_simp; go_at_call 85; exact HTW.out wq hwq)
              try simp only [Act.put, List.setIfInBounds_toArray, List.set_cons_zero, List.set_cons_succ]
              refine quiet_take (v := .int .i64 M) hL9 (by kernel_rfl) (fun wq hwq => ?z5y9) (fun L9 hL9 => ?z5r9)
              case z5y9 => (go_simp; first | with_reducible rfl | exact HMIN.out | (rw [← HMIN.out]) | skip)
              try simp only [Act.put, List.setIfInBounds_toArray, List.set_cons_zero, List.set_cons_succ]
              refine quiet_take (v := .bool true) hL9 (by kernel_rfl) (fun wq hwq => ?z5y10) (fun L9 hL9 => ?z5r10)
              case z5y10 => (go_simp; go_at_call 144; exact HW1.out wq hwq)
              try simp only [Act.put, List.setIfInBounds_toArray, List.set_cons_zero, List.set_cons_succ]
              refine quiet_take (v := .bool true) hL9 (by kernel_rfl) (fun wq hwq => ?z5y11) (fun L9 hL9 => ?z5r11)
              case z5y11 => (go_simp; try with_reducible rfl)
              try simp only [Act.put, List.setIfInBounds_toArray, List.set_cons_zero, List.set_cons_succ]
              refine quiet_take (v := .bool true) hL9 (by kernel_rfl) (fun wq hwq => ?z5y12) (fun L9 hL9 => ?z5r12)
              case z5y12 => (go_simp; try with_reducible rfl)
              try simp only [Act.put, List.setIfInBounds_toArray, List.set_cons_zero, List.set_cons_succ]
              refine quiet_take (v := ?z5v13) hL9 (by kernel_rfl) (fun wq hwq => ?z5y13) (fun L9 hL9 => ?z5r13)
              case z5y13 => (go_simp; try with_reducible rfl)
              try simp only [Act.put, List.setIfInBounds_toArray, List.set_cons_zero, List.set_cons_succ]
              refine quiet_take (v := .int .i64 S.main) hL9 (by kernel_rfl) (fun wq hwq => ?z5y14) (fun L9 hL9 => ?z5r14)
              case z5y14 => (obtain ⟨s0, s1, s2, s3, s4, s5, s6, s7⟩ := HSY.out wq hwq; go_simp; try with_reducible rfl)
              try simp only [Act.put, List.setIfInBounds_toArray, List.set_cons_zero, List.set_cons_succ]
              refine quiet_take (v := .bool true) hL9 (by kernel_rfl) (fun wq hwq => ?z5y15) (fun L9 hL9 => ?z5r15)
              case z5y15 => (go_simp; go_at_call 144; exact HW2.out wq hwq)
              try simp only [Act.put, List.setIfInBounds_toArray, List.set_cons_zero, List.set_cons_succ]
              refine quiet_take (v := .bool true) hL9 (by kernel_rfl) (fun wq hwq => ?z5y16) (fun L9 hL9 => ?z5r16)
              case z5y16 => (go_simp; try with_reducible rfl)
              try simp only [Act.put, List.setIfInBounds_toArray, List.set_cons_zero, List.set_cons_succ]
              refine quiet_take (v := .bool true) hL9 (by kernel_rfl) (fun wq hwq => ?z5y17) (fun L9 hL9 => ?z5r17)
              case z5y17 => (go_simp; try with_reducible rfl)
              try simp only [Act.put, List.setIfInBounds_toArray, List.set_cons_zero, List.set_cons_succ]
              refine quiet_take (v := ?z5v18) hL9 (by kernel_rfl) (fun wq hwq => ?z5y18) (fun L9 hL9 => ?z5r18)
              case z5y18 => (go_simp; try with_reducible rfl)
              try simp only [Act.put, List.setIfInBounds_toArray, List.set_cons_zero, List.set_cons_succ]
              refine quiet_take (v := .int .i64 S.pub) hL9 (by kernel_rfl) (fun wq hwq => ?z5y19) (fun L9 hL9 => ?z5r19)
              case z5y19 => (obtain ⟨s0, s1, s2, s3, s4, s5, s6, s7⟩ := HSY.out wq hwq; go_simp; try with_reducible rfl)
              try simp only [Act.put, List.setIfInBounds_toArray, List.set_cons_zero, List.set_cons_succ]
              refine quiet_take (v := .bool true) hL9 (by kernel_rfl) (fun wq hwq => ?z5y20) (fun L9 hL9 => ?z5r20)
              case z5y20 => (go_simp; go_at_call 144; exact HW3.out wq hwq)
              try simp only [Act.put, List.setIfInBounds_toArray, List.set_cons_zero, List.set_cons_succ]
              refine quiet_take (v := .bool true) hL9 (by kernel_rfl) (fun wq hwq => ?z5y21) (fun L9 hL9 => ?z5r21)
              case z5y21 => (go_simp; try with_reducible rfl)
              try simp only [Act.put, List.setIfInBounds_toArray, List.set_cons_zero, List.set_cons_succ]
              refine quiet_take (v := .bool true) hL9 (by kernel_rfl) (fun wq hwq => ?z5y22) (fun L9 hL9 => ?z5r22)
              case z5y22 => (go_simp; try with_reducible rfl)
              try simp only [Act.put, List.setIfInBounds_toArray, List.set_cons_zero, List.set_cons_succ]
              refine quiet_take (v := ?z5v23) hL9 (by kernel_rfl) (fun wq hwq => ?z5y23) (fun L9 hL9 => ?z5r23)
              case z5y23 => (go_simp; try with_reducible rfl)
              try simp only [Act.put, List.setIfInBounds_toArray, List.set_cons_zero, List.set_cons_succ]
              refine quiet_take (v := .slice H.a1 S.fixed.length H.c1) hL9 (by kernel_rfl) (fun wq hwq => ?z5y24) (fun L9 hL9 => ?z5r24)
              case z5y24 => (obtain ⟨s0, s1, s2, s3, s4, s5, s6, s7⟩ := HSY.out wq hwq; go_simp; try with_reducible rfl)
              try simp only [Act.put, List.setIfInBounds_toArray, List.set_cons_zero, List.set_cons_succ]
              refine quiet_take (v := .int .i64 ((S.fixed.length : Nat) : Int)) hL9 (by kernel_rfl) (fun wq hwq => ?z5y25) (fun L9 hL9 => ?z5r25)
              case z5y25 => (go_simp; try with_reducible rfl; try simp)
              try simp only [Act.put, List.setIfInBounds_toArray, List.set_cons_zero, List.set_cons_succ]
              refine quiet_take (v := .bool true) hL9 (by kernel_rfl) (fun wq hwq => ?z5y26) (fun L9 hL9 => ?z5r26)
              case z5y26 => (have h1 := HC4.out; go_simp; try with_reducible rfl; try simp only [h1])
              try simp only [Act.put, List.setIfInBounds_toArray, List.set_cons_zero, List.set_cons_succ]
              refine quiet_take (v := .bool true) hL9 (by kernel_rfl) (fun wq hwq => ?z5y27) (fun L9 hL9 => ?z5r27)
              case z5y27 => (go_simp; try with_reducible rfl)
              try simp only [Act.put, List.setIfInBounds_toArray, List.set_cons_zero, List.set_cons_succ]
              refine quiet_take (v := .bool true) hL9 (by kernel_rfl) (fun wq hwq => ?z5y28) (fun L9 hL9 => ?z5r28)
              case z5y28 => (go_simp; try with_reducible rfl)
              try simp only [Act.put, List.setIfInBounds_toArray, List.set_cons_zero, List.set_cons_succ]
              refine quiet_take (v := ?z5v29) hL9 (by kernel_rfl) (fun wq hwq => ?z5y29) (fun L9 hL9 => ?z5r29)
              case z5y29 => (go_simp; try with_reducible rfl)
              try simp only [Act.put, List.setIfInBounds_toArray, List.set_cons_zero, List.set_cons_succ]
              refine quiet_take (v := .slice H.a2 S.rules.length H.c2) hL9 (by kernel_rfl) (fun wq hwq => ?z5y30) (fun L9 hL9 => ?z5r30)
              case z5y30 => (obtain ⟨s0, s1, s2, s3, s4, s5, s6, s7⟩ := HSY.out wq hwq; go_simp; try with_reducible rfl)
              try simp only [Act.put, List.setIfInBounds_toArray, List.set_cons_zero, List.set_cons_succ]
              refine quiet_take (v := .int .i64 ((S.rules.length : Nat) : Int)) hL9 (by kernel_rfl) (fun wq hwq => ?z5y31) (fun L9 hL9 => ?z5r31)
              case z5y31 => (go_simp; try with_reducible rfl; try simp)
              try simp only [Act.put, List.setIfInBounds_toArray, List.set_cons_zero, List.set_cons_succ]
              refine quiet_take (v := .bool false) hL9 (by kernel_rfl) (fun wq hwq => ?z5y32) (fun L9 hL9 => ?z5r32)
              case z5y32 => (have h1 := HC5.out; go_simp; try with_reducible rfl; try simp only [h1])
              try simp only [Act.put, List.setIfInBounds_toArray, List.set_cons_zero, List.set_cons_succ]
              refine quiet_take (v := .bool false) hL9 (by kernel_rfl) (fun wq hwq => ?z5y33) (fun L9 hL9 => ?z5r33)
              case z5y33 => (go_simp; try with_reducible rfl)
              try simp only [Act.put, List.setIfInBounds_toArray, List.set_cons_zero, List.set_cons_succ]
              refine quiet_take (v := .bool false) hL9 (by kernel_rfl) (fun wq hwq => ?z5y34) (fun L9 hL9 => ?z5r34)
              case z5y34 => (go_simp; try with_reducible rfl)
              try simp only [Act.put, List.setIfInBounds_toArray, List.set_cons_zero, List.set_cons_succ]
              refine quiet_skip hL9 (by kernel_rfl) (fun L9 hL9 => ?_)
              try simp only [Act.put, List.setIfInBounds_toArray, List.set_cons_zero, List.set_cons_succ]
              refine quiet_skip hL9 (by kernel_rfl) (fun L9 hL9 => ?_)
              try simp only [Act.put, List.setIfInBounds_toArray, List.set_cons_zero, List.set_cons_succ]
              refine quiet_skip hL9 (by kernel_rfl) (fun L9 hL9 => ?_)
              try simp only [Act.put, List.setIfInBounds_toArray, List.set_cons_zero, List.set_cons_succ]
              refine quiet_skip hL9 (by kernel_rfl) (fun L9 hL9 => ?_)
              try simp only [Act.put, List.setIfInBounds_toArray, List.set_cons_zero, List.set_cons_succ]
              refine quiet_take (v := .bool false) hL9 (by kernel_rfl) (fun wq hwq => ?z5y39) (fun L9 hL9 => ?z5r39)
              case z5y39 => (go_simp; try with_reducible rfl)
              try simp only [Act.put, List.setIfInBounds_toArray, List.set_cons_zero, List.set_cons_succ]
              refine quiet_take (v := .bool false) hL9 (by kernel_rfl) (fun wq hwq => ?z5y40) (fun L9 hL9 => ?z5r40)
              case z5y40 => (go_simp; try with_reducible rfl)
              try simp only [Act.put, List.setIfInBounds_toArray, List.set_cons_zero, List.set_cons_succ]
              refine quiet_skip hL9 (by kernel_rfl) (fun L9 hL9 => ?_)
              try simp only [Act.put, List.setIfInBounds_toArray, List.set_cons_zero, List.set_cons_succ]
              refine quiet_skip hL9 (by kernel_rfl) (fun L9 hL9 => ?_)
              try simp only [Act.put, List.setIfInBounds_toArray, List.set_cons_zero, List.set_cons_succ]
              refine quiet_skip hL9 (by kernel_rfl) (fun L9 hL9 => ?_)
              try simp only [Act.put, List.setIfInBounds_toArray, List.set_cons_zero, List.set_cons_succ]
              refine quiet_skip hL9 (by kernel_rfl) (fun L9 hL9 => ?_)
              try simp only [Act.put, List.setIfInBounds_toArray, List.set_cons_zero, List.set_cons_succ]
              refine quiet_take (v := .bool false) hL9 (by kernel_rfl) (fun wq hwq => ?z5y45) (fun L9 hL9 => ?z5r45)
              case z5y45 => (go_simp; try with_reducible rfl)
              try simp only [Act.put, List.setIfInBounds_toArray, List.set_cons_zero, List.set_cons_succ]
              refine quiet_nil hL9 ?_
              clear hL9
              intro wy hOy
              have hOz := HU.out.trans hOy
              go_wp2
              go_ret
              exact ⟨by simp, hOz⟩
            | true =>
              cases b6 with
              | false =>
                go_enter Tryd.func100, Tryd.ntmps100
                go_upto_region 1 with fail
                rw [← HUE.out]
                refine region_keep_tail (fun wq => On u wq) 46 (by kernel_rfl) (by kernel_rfl) (On.refl HU.out.tab).drew ?_
                simp only [List.take_succ_cons, List.take_zero, List.drop_succ_cons, List.drop_zero]
                refine quiet_start fun L9 hL9 => ?_
                refine quiet_take (v := ?z6v0) hL9 (by kernel_rfl) (fun wq hwq => ?z6y0) (fun L9 hL9 => ?z6r0)
                case z6y0 => (go_simp; try with_reducible rfl)
                try simp only [Act.put, List.setIfInBounds_toArray, List.set_cons_zero, List.set_cons_succ]
                refine quiet_take (v := .int .i64 S.f) hL9 (by kernel_rfl) (fun wq hwq => ?z6y1) (fun L9 hL9 => ?z6r1)
                case z6y1 => (obtain ⟨s0, s1, s2, s3, s4, s5, s6, s7⟩ := HSY.out wq hwq; go_simp; try with_reducible rfl)
                try simp only [Act.put, List.setIfInBounds_toArray, List.set_cons_zero, List.set_cons_succ]
                refine quiet_take (v := .bool true) hL9 (by kernel_rfl) (fun wq hwq => ?z6y2) (fun L9 hL9 => ?z6r2)
                case z6y2 => (go_simp; go_at_call 107; exact HVF.out wq hwq)
                try simp only [Act.put, List.setIfInBounds_toArray, List.set_cons_zero, List.set_cons_succ]
                refine quiet_take (v := .bool true) hL9 (by kernel_rfl) (fun wq hwq => ?z6y3) (fun L9 hL9 => ?z6r3)
                case z6y3 => (go_simp; try with_reducible rfl)
                try simp only [Act.put, List.setIfInBounds_toArray, List.set_cons_zero, List.set_cons_succ]
                refine quiet_take (v := ?z6v4) hL9 (by kernel_rfl) (fun wq hwq => ?z6y4) (fun L9 hL9 => ?z6r4)
                case z6y4 => (go_simp; try with_reducible rfl)
                try simp only [Act.put, List.setIfInBounds_toArray, List.set_cons_zero, List.set_cons_succ]
                refine quiet_take (v := .int .i64 S.rows) hL9 (by kernel_rfl) (fun wq hwq => ?z6y5) (fun L9 hL9 => ?z6r5)
                case z6y5 => (obtain ⟨s0, s1, s2, s3, s4, s5, s6, s7⟩ := HSY.out wq hwq; go_simp; try with_reducible rfl)
                try simp only [Act.put, List.setIfInBounds_toArray, List.set_cons_zero, List.set_cons_succ]
                refine quiet_take (v := ?z6v6) hL9 (by kernel_rfl) (fun wq hwq => ?z6y6) (fun L9 hL9 => ?z6r6)
                case z6y6 => (go_simp; try with_reducible rfl)
                try simp only [Act.put, List.setIfInBounds_toArray, List.set_cons_zero, List.set_cons_succ]
                refine quiet_take (v := .int .i64 S.f) hL9 (by kernel_rfl) (fun wq hwq => ?z6y7) (fun L9 hL9 => ?z6r7)
                case z6y7 => (obtain ⟨s0, s1, s2, s3, s4, s5, s6, s7⟩ := HSY.out wq hwq; go_simp; try with_reducible rfl)
                try simp only [Act.put, List.setIfInBounds_toArray, List.set_cons_zero, List.set_cons_succ]
                refine quiet_take (v := .int .i64 ((twoOf S.f : Nat) : Int)) hL9 (by kernel_rfl) (fun wq hwq => ?z6y8) (fun L9 hL9 => ?z6r8)
                case z6y8 => (go_simp; go_at_call 85; exact HTW.out wq hwq)
                try simp only [Act.put, List.setIfInBounds_toArray, List.set_cons_zero, List.set_cons_succ]
                refine quiet_take (v := .int .i64 M) hL9 (by kernel_rfl) (fun wq hwq => ?z6y9) (fun L9 hL9 => ?z6r9)
                case z6y9 => (go_simp; first | with_reducible rfl | exact HMIN.out | (rw [← HMIN.out]) | skip)
                try simp only [Act.put, List.setIfInBounds_toArray, List.set_cons_zero, List.set_cons_succ]
                refine quiet_take (v := .bool true) hL9 (by kernel_rfl) (fun wq hwq => ?z6y10) (fun L9 hL9 => ?z6r10)
                case z6y10 => (go_simp; go_at_call 144; exact HW1.out wq hwq)
                try simp only [Act.put, List.setIfInBounds_toArray, List.set_cons_zero, List.set_cons_succ]
                refine quiet_take (v := .bool true) hL9 (by kernel_rfl) (fun wq hwq => ?z6y11) (fun L9 hL9 => ?z6r11)
                case z6y11 => (go_simp; try with_reducible rfl)
                try simp only [Act.put, List.setIfInBounds_toArray, List.set_cons_zero, List.set_cons_succ]
                refine quiet_take (v := .bool true) hL9 (by kernel_rfl) (fun wq hwq => ?z6y12) (fun L9 hL9 => ?z6r12)
                case z6y12 => (go_simp; try with_reducible rfl)
                try simp only [Act.put, List.setIfInBounds_toArray, List.set_cons_zero, List.set_cons_succ]
                refine quiet_take (v := ?z6v13) hL9 (by kernel_rfl) (fun wq hwq => ?z6y13) (fun L9 hL9 => ?z6r13)
                case z6y13 => (go_simp; try with_reducible rfl)
                try simp only [Act.put, List.setIfInBounds_toArray, List.set_cons_zero, List.set_cons_succ]
                refine quiet_take (v := .int .i64 S.main) hL9 (by kernel_rfl) (fun wq hwq => ?z6y14) (fun L9 hL9 => ?z6r14)
                case z6y14 => (obtain ⟨s0, s1, s2, s3, s4, s5, s6, s7⟩ := HSY.out wq hwq; go_simp; try with_reducible rfl)
                try simp only [Act.put, List.setIfInBounds_toArray, List.set_cons_zero, List.set_cons_succ]
                refine quiet_take (v := .bool true) hL9 (by kernel_rfl) (fun wq hwq => ?z6y15) (fun L9 hL9 => ?z6r15)
                case z6y15 => (go_simp; go_at_call 144; exact HW2.out wq hwq)
                try simp only [Act.put, List.setIfInBounds_toArray, List.set_cons_zero, List.set_cons_succ]
                refine quiet_take (v := .bool true) hL9 (by kernel_rfl) (fun wq hwq => ?z6y16) (fun L9 hL9 => ?z6r16)
                case z6y16 => (go_simp; try with_reducible rfl)
                try simp only [Act.put, List.setIfInBounds_toArray, List.set_cons_zero, List.set_cons_succ]
                refine quiet_take (v := .bool true) hL9 (by kernel_rfl) (fun wq hwq => ?z6y17) (fun L9 hL9 => ?z6r17)
                case z6y17 => (go_simp; try with_reducible rfl)
                try simp only [Act.put, List.setIfInBounds_toArray, List.set_cons_zero, List.set_cons_succ]
                refine quiet_take (v := ?z6v18) hL9 (by kernel_rfl) (fun wq hwq => ?z6y18) (fun L9 hL9 => ?z6r18)
                case z6y18 => (go_simp; try with_reducible rfl)
                try simp only [Act.put, List.setIfInBounds_toArray, List.set_cons_zero, List.set_cons_succ]
                refine quiet_take (v := .int .i64 S.pub) hL9 (by kernel_rfl) (fun wq hwq => ?z6y19) (fun L9 hL9 => ?z6r19)
                case z6y19 => (obtain ⟨s0, s1, s2, s3, s4, s5, s6, s7⟩ := HSY.out wq hwq; go_simp; try with_reducible rfl)
                try simp only [Act.put, List.setIfInBounds_toArray, List.set_cons_zero, List.set_cons_succ]
                refine quiet_take (v := .bool true) hL9 (by kernel_rfl) (fun wq hwq => ?z6y20) (fun L9 hL9 => ?z6r20)
                case z6y20 => (go_simp; go_at_call 144; exact HW3.out wq hwq)
                try simp only [Act.put, List.setIfInBounds_toArray, List.set_cons_zero, List.set_cons_succ]
                refine quiet_take (v := .bool true) hL9 (by kernel_rfl) (fun wq hwq => ?z6y21) (fun L9 hL9 => ?z6r21)
                case z6y21 => (go_simp; try with_reducible rfl)
                try simp only [Act.put, List.setIfInBounds_toArray, List.set_cons_zero, List.set_cons_succ]
                refine quiet_take (v := .bool true) hL9 (by kernel_rfl) (fun wq hwq => ?z6y22) (fun L9 hL9 => ?z6r22)
                case z6y22 => (go_simp; try with_reducible rfl)
                try simp only [Act.put, List.setIfInBounds_toArray, List.set_cons_zero, List.set_cons_succ]
                refine quiet_take (v := ?z6v23) hL9 (by kernel_rfl) (fun wq hwq => ?z6y23) (fun L9 hL9 => ?z6r23)
                case z6y23 => (go_simp; try with_reducible rfl)
                try simp only [Act.put, List.setIfInBounds_toArray, List.set_cons_zero, List.set_cons_succ]
                refine quiet_take (v := .slice H.a1 S.fixed.length H.c1) hL9 (by kernel_rfl) (fun wq hwq => ?z6y24) (fun L9 hL9 => ?z6r24)
                case z6y24 => (obtain ⟨s0, s1, s2, s3, s4, s5, s6, s7⟩ := HSY.out wq hwq; go_simp; try with_reducible rfl)
                try simp only [Act.put, List.setIfInBounds_toArray, List.set_cons_zero, List.set_cons_succ]
                refine quiet_take (v := .int .i64 ((S.fixed.length : Nat) : Int)) hL9 (by kernel_rfl) (fun wq hwq => ?z6y25) (fun L9 hL9 => ?z6r25)
                case z6y25 => (go_simp; try with_reducible rfl; try simp)
                try simp only [Act.put, List.setIfInBounds_toArray, List.set_cons_zero, List.set_cons_succ]
                refine quiet_take (v := .bool true) hL9 (by kernel_rfl) (fun wq hwq => ?z6y26) (fun L9 hL9 => ?z6r26)
                case z6y26 => (have h1 := HC4.out; go_simp; try with_reducible rfl; try simp only [h1])
                try simp only [Act.put, List.setIfInBounds_toArray, List.set_cons_zero, List.set_cons_succ]
                refine quiet_take (v := .bool true) hL9 (by kernel_rfl) (fun wq hwq => ?z6y27) (fun L9 hL9 => ?z6r27)
                case z6y27 => (go_simp; try with_reducible rfl)
                try simp only [Act.put, List.setIfInBounds_toArray, List.set_cons_zero, List.set_cons_succ]
                refine quiet_take (v := .bool true) hL9 (by kernel_rfl) (fun wq hwq => ?z6y28) (fun L9 hL9 => ?z6r28)
                case z6y28 => (go_simp; try with_reducible rfl)
                try simp only [Act.put, List.setIfInBounds_toArray, List.set_cons_zero, List.set_cons_succ]
                refine quiet_take (v := ?z6v29) hL9 (by kernel_rfl) (fun wq hwq => ?z6y29) (fun L9 hL9 => ?z6r29)
                case z6y29 => (go_simp; try with_reducible rfl)
                try simp only [Act.put, List.setIfInBounds_toArray, List.set_cons_zero, List.set_cons_succ]
                refine quiet_take (v := .slice H.a2 S.rules.length H.c2) hL9 (by kernel_rfl) (fun wq hwq => ?z6y30) (fun L9 hL9 => ?z6r30)
                case z6y30 => (obtain ⟨s0, s1, s2, s3, s4, s5, s6, s7⟩ := HSY.out wq hwq; go_simp; try with_reducible rfl)
                try simp only [Act.put, List.setIfInBounds_toArray, List.set_cons_zero, List.set_cons_succ]
                refine quiet_take (v := .int .i64 ((S.rules.length : Nat) : Int)) hL9 (by kernel_rfl) (fun wq hwq => ?z6y31) (fun L9 hL9 => ?z6r31)
                case z6y31 => (go_simp; try with_reducible rfl; try simp)
                try simp only [Act.put, List.setIfInBounds_toArray, List.set_cons_zero, List.set_cons_succ]
                refine quiet_take (v := .bool true) hL9 (by kernel_rfl) (fun wq hwq => ?z6y32) (fun L9 hL9 => ?z6r32)
                case z6y32 => (have h1 := HC5.out; go_simp; try with_reducible rfl; try simp only [h1])
                try simp only [Act.put, List.setIfInBounds_toArray, List.set_cons_zero, List.set_cons_succ]
                refine quiet_take (v := .bool true) hL9 (by kernel_rfl) (fun wq hwq => ?z6y33) (fun L9 hL9 => ?z6r33)
                case z6y33 => (go_simp; try with_reducible rfl)
                try simp only [Act.put, List.setIfInBounds_toArray, List.set_cons_zero, List.set_cons_succ]
                refine quiet_take (v := .bool true) hL9 (by kernel_rfl) (fun wq hwq => ?z6y34) (fun L9 hL9 => ?z6r34)
                case z6y34 => (go_simp; try with_reducible rfl)
                try simp only [Act.put, List.setIfInBounds_toArray, List.set_cons_zero, List.set_cons_succ]
                refine quiet_take (v := ?z6v35) hL9 (by kernel_rfl) (fun wq hwq => ?z6y35) (fun L9 hL9 => ?z6r35)
                case z6y35 => (go_simp; try with_reducible rfl)
                try simp only [Act.put, List.setIfInBounds_toArray, List.set_cons_zero, List.set_cons_succ]
                refine quiet_take (v := .slice H.a3 S.perms.length H.c3) hL9 (by kernel_rfl) (fun wq hwq => ?z6y36) (fun L9 hL9 => ?z6r36)
                case z6y36 => (obtain ⟨s0, s1, s2, s3, s4, s5, s6, s7⟩ := HSY.out wq hwq; go_simp; try with_reducible rfl)
                try simp only [Act.put, List.setIfInBounds_toArray, List.set_cons_zero, List.set_cons_succ]
                refine quiet_take (v := .int .i64 ((S.perms.length : Nat) : Int)) hL9 (by kernel_rfl) (fun wq hwq => ?z6y37) (fun L9 hL9 => ?z6r37)
                case z6y37 => (go_simp; try with_reducible rfl; try simp)
                try simp only [Act.put, List.setIfInBounds_toArray, List.set_cons_zero, List.set_cons_succ]
                refine quiet_take (v := .bool false) hL9 (by kernel_rfl) (fun wq hwq => ?z6y38) (fun L9 hL9 => ?z6r38)
                case z6y38 => (have h1 := HC6.out; go_simp; try with_reducible rfl; try simp only [h1])
                try simp only [Act.put, List.setIfInBounds_toArray, List.set_cons_zero, List.set_cons_succ]
                refine quiet_take (v := .bool false) hL9 (by kernel_rfl) (fun wq hwq => ?z6y39) (fun L9 hL9 => ?z6r39)
                case z6y39 => (go_simp; try with_reducible rfl)
                try simp only [Act.put, List.setIfInBounds_toArray, List.set_cons_zero, List.set_cons_succ]
                refine quiet_take (v := .bool false) hL9 (by kernel_rfl) (fun wq hwq => ?z6y40) (fun L9 hL9 => ?z6r40)
                case z6y40 => (go_simp; try with_reducible rfl)
                try simp only [Act.put, List.setIfInBounds_toArray, List.set_cons_zero, List.set_cons_succ]
                refine quiet_skip hL9 (by kernel_rfl) (fun L9 hL9 => ?_)
                try simp only [Act.put, List.setIfInBounds_toArray, List.set_cons_zero, List.set_cons_succ]
                refine quiet_skip hL9 (by kernel_rfl) (fun L9 hL9 => ?_)
                try simp only [Act.put, List.setIfInBounds_toArray, List.set_cons_zero, List.set_cons_succ]
                refine quiet_skip hL9 (by kernel_rfl) (fun L9 hL9 => ?_)
                try simp only [Act.put, List.setIfInBounds_toArray, List.set_cons_zero, List.set_cons_succ]
                refine quiet_skip hL9 (by kernel_rfl) (fun L9 hL9 => ?_)
                try simp only [Act.put, List.setIfInBounds_toArray, List.set_cons_zero, List.set_cons_succ]
                refine quiet_take (v := .bool false) hL9 (by kernel_rfl) (fun wq hwq => ?z6y45) (fun L9 hL9 => ?z6r45)
                case z6y45 => (go_simp; try with_reducible rfl)
                try simp only [Act.put, List.setIfInBounds_toArray, List.set_cons_zero, List.set_cons_succ]
                refine quiet_nil hL9 ?_
                clear hL9
                intro wy hOy
                have hOz := HU.out.trans hOy
                go_wp2
                go_ret
                exact ⟨by simp, hOz⟩
              | true =>
                cases b7 with
                | false =>
                  go_enter Tryd.func100, Tryd.ntmps100
                  go_upto_region 1 with fail
                  rw [← HUE.out]
                  refine region_keep_tail (fun wq => On u wq) 46 (by kernel_rfl) (by kernel_rfl) (On.refl HU.out.tab).drew ?_
                  simp only [List.take_succ_cons, List.take_zero, List.drop_succ_cons, List.drop_zero]
                  refine quiet_start fun L9 hL9 => ?_
                  refine quiet_take (v := ?z7v0) hL9 (by kernel_rfl) (fun wq hwq => ?z7y0) (fun L9 hL9 => ?z7r0)
                  case z7y0 => (go_simp; try with_reducible rfl)
                  try simp only [Act.put, List.setIfInBounds_toArray, List.set_cons_zero, List.set_cons_succ]
                  refine quiet_take (v := .int .i64 S.f) hL9 (by kernel_rfl) (fun wq hwq => ?z7y1) (fun L9 hL9 => ?z7r1)
                  case z7y1 => (obtain ⟨s0, s1, s2, s3, s4, s5, s6, s7⟩ := HSY.out wq hwq; go_simp; try with_reducible rfl)
                  try simp only [Act.put, List.setIfInBounds_toArray, List.set_cons_zero, List.set_cons_succ]
                  refine quiet_take (v := .bool true) hL9 (by kernel_rfl) (fun wq hwq => ?z7y2) (fun L9 hL9 => ?z7r2)
                  case z7y2 => (go_simp; go_at_call 107; exact HVF.out wq hwq)
                  try simp only [Act.put, List.setIfInBounds_toArray, List.set_cons_zero, List.set_cons_succ]
                  refine quiet_take (v := .bool true) hL9 (by kernel_rfl) (fun wq hwq => ?z7y3) (fun L9 hL9 => ?z7r3)
                  case z7y3 => (go_simp; try with_reducible rfl)
                  try simp only [Act.put, List.setIfInBounds_toArray, List.set_cons_zero, List.set_cons_succ]
                  refine quiet_take (v := ?z7v4) hL9 (by kernel_rfl) (fun wq hwq => ?z7y4) (fun L9 hL9 => ?z7r4)
                  case z7y4 => (go_simp; try with_reducible rfl)
                  try simp only [Act.put, List.setIfInBounds_toArray, List.set_cons_zero, List.set_cons_succ]
                  refine quiet_take (v := .int .i64 S.rows) hL9 (by kernel_rfl) (fun wq hwq => ?z7y5) (fun L9 hL9 => ?z7r5)
                  case z7y5 => (obtain ⟨s0, s1, s2, s3, s4, s5, s6, s7⟩ := HSY.out wq hwq; go_simp; try with_reducible rfl)
                  try simp only [Act.put, List.setIfInBounds_toArray, List.set_cons_zero, List.set_cons_succ]
                  refine quiet_take (v := ?z7v6) hL9 (by kernel_rfl) (fun wq hwq => ?z7y6) (fun L9 hL9 => ?z7r6)
                  case z7y6 => (go_simp; try with_reducible rfl)
                  try simp only [Act.put, List.setIfInBounds_toArray, List.set_cons_zero, List.set_cons_succ]
                  refine quiet_take (v := .int .i64 S.f) hL9 (by kernel_rfl) (fun wq hwq => ?z7y7) (fun L9 hL9 => ?z7r7)
                  case z7y7 => (obtain ⟨s0, s1, s2, s3, s4, s5, s6, s7⟩ := HSY.out wq hwq; go_simp; try with_reducible rfl)
                  try simp only [Act.put, List.setIfInBounds_toArray, List.set_cons_zero, List.set_cons_succ]
                  refine quiet_take (v := .int .i64 ((twoOf S.f : Nat) : Int)) hL9 (by kernel_rfl) (fun wq hwq => ?z7y8) (fun L9 hL9 => ?z7r8)
                  case z7y8 => (go_simp; go_at_call 85; exact HTW.out wq hwq)
                  try simp only [Act.put, List.setIfInBounds_toArray, List.set_cons_zero, List.set_cons_succ]
                  refine quiet_take (v := .int .i64 M) hL9 (by kernel_rfl) (fun wq hwq => ?z7y9) (fun L9 hL9 => ?z7r9)
                  case z7y9 => (go_simp; first | with_reducible rfl | exact HMIN.out | (rw [← HMIN.out]) | skip)
                  try simp only [Act.put, List.setIfInBounds_toArray, List.set_cons_zero, List.set_cons_succ]
                  refine quiet_take (v := .bool true) hL9 (by kernel_rfl) (fun wq hwq => ?z7y10) (fun L9 hL9 => ?z7r10)
                  case z7y10 => (go_simp; go_at_call 144; exact HW1.out wq hwq)
                  try simp only [Act.put, List.setIfInBounds_toArray, List.set_cons_zero, List.set_cons_succ]
                  refine quiet_take (v := .bool true) hL9 (by kernel_rfl) (fun wq hwq => ?z7y11) (fun L9 hL9 => ?z7r11)
                  case z7y11 => (go_simp; try with_reducible rfl)
                  try simp only [Act.put, List.setIfInBounds_toArray, List.set_cons_zero, List.set_cons_succ]
                  refine quiet_take (v := .bool true) hL9 (by kernel_rfl) (fun wq hwq => ?z7y12) (fun L9 hL9 => ?z7r12)
                  case z7y12 => (go_simp; try with_reducible rfl)
                  try simp only [Act.put, List.setIfInBounds_toArray, List.set_cons_zero, List.set_cons_succ]
                  refine quiet_take (v := ?z7v13) hL9 (by kernel_rfl) (fun wq hwq => ?z7y13) (fun L9 hL9 => ?z7r13)
                  case z7y13 => (go_simp; try with_reducible rfl)
                  try simp only [Act.put, List.setIfInBounds_toArray, List.set_cons_zero, List.set_cons_succ]
                  refine quiet_take (v := .int .i64 S.main) hL9 (by kernel_rfl) (fun wq hwq => ?z7y14) (fun L9 hL9 => ?z7r14)
                  case z7y14 => (obtain ⟨s0, s1, s2, s3, s4, s5, s6, s7⟩ := HSY.out wq hwq; go_simp; try with_reducible rfl)
                  try simp only [Act.put, List.setIfInBounds_toArray, List.set_cons_zero, List.set_cons_succ]
                  refine quiet_take (v := .bool true) hL9 (by kernel_rfl) (fun wq hwq => ?z7y15) (fun L9 hL9 => ?z7r15)
                  case z7y15 => (go_simp; go_at_call 144; exact HW2.out wq hwq)
                  try simp only [Act.put, List.setIfInBounds_toArray, List.set_cons_zero, List.set_cons_succ]
                  refine quiet_take (v := .bool true) hL9 (by kernel_rfl) (fun wq hwq => ?z7y16) (fun L9 hL9 => ?z7r16)
                  case z7y16 => (go_simp; try with_reducible rfl)
                  try simp only [Act.put, List.setIfInBounds_toArray, List.set_cons_zero, List.set_cons_succ]
                  refine quiet_take (v := .bool true) hL9 (by kernel_rfl) (fun wq hwq => ?z7y17) (fun L9 hL9 => ?z7r17)
                  case z7y17 => (go_simp; try with_reducible rfl)
                  try simp only [Act.put, List.setIfInBounds_toArray, List.set_cons_zero, List.set_cons_succ]
                  refine quiet_take (v := ?z7v18) hL9 (by kernel_rfl) (fun wq hwq => ?z7y18) (fun L9 hL9 => ?z7r18)
                  case z7y18 => (go_simp; try with_reducible rfl)
                  try simp only [Act.put, List.setIfInBounds_toArray, List.set_cons_zero, List.set_cons_succ]
                  refine quiet_take (v := .int .i64 S.pub) hL9 (by kernel_rfl) (fun wq hwq => ?z7y19) (fun L9 hL9 => ?z7r19)
                  case z7y19 => (obtain ⟨s0, s1, s2, s3, s4, s5, s6, s7⟩ := HSY.out wq hwq; go_simp; try with_reducible rfl)
                  try simp only [Act.put, List.setIfInBounds_toArray, List.set_cons_zero, List.set_cons_succ]
                  refine quiet_take (v := .bool true) hL9 (by kernel_rfl) (fun wq hwq => ?z7y20) (fun L9 hL9 => ?z7r20)
                  case z7y20 => (go_simp; go_at_call 144; exact HW3.out wq hwq)
                  try simp only [Act.put, List.setIfInBounds_toArray, List.set_cons_zero, List.set_cons_succ]
                  refine quiet_take (v := .bool true) hL9 (by kernel_rfl) (fun wq hwq => ?z7y21) (fun L9 hL9 => ?z7r21)
                  case z7y21 => (go_simp; try with_reducible rfl)
                  try simp only [Act.put, List.setIfInBounds_toArray, List.set_cons_zero, List.set_cons_succ]
                  refine quiet_take (v := .bool true) hL9 (by kernel_rfl) (fun wq hwq => ?z7y22) (fun L9 hL9 => ?z7r22)
                  case z7y22 => (go_simp; try with_reducible rfl)
                  try simp only [Act.put, List.setIfInBounds_toArray, List.set_cons_zero, List.set_cons_succ]
                  refine quiet_take (v := ?z7v23) hL9 (by kernel_rfl) (fun wq hwq => ?z7y23) (fun L9 hL9 => ?z7r23)
                  case z7y23 => (go_simp; try with_reducible rfl)
                  try simp only [Act.put, List.setIfInBounds_toArray, List.set_cons_zero, List.set_cons_succ]
                  refine quiet_take (v := .slice H.a1 S.fixed.length H.c1) hL9 (by kernel_rfl) (fun wq hwq => ?z7y24) (fun L9 hL9 => ?z7r24)
                  case z7y24 => (obtain ⟨s0, s1, s2, s3, s4, s5, s6, s7⟩ := HSY.out wq hwq; go_simp; try with_reducible rfl)
                  try simp only [Act.put, List.setIfInBounds_toArray, List.set_cons_zero, List.set_cons_succ]
                  refine quiet_take (v := .int .i64 ((S.fixed.length : Nat) : Int)) hL9 (by kernel_rfl) (fun wq hwq => ?z7y25) (fun L9 hL9 => ?z7r25)
                  case z7y25 => (go_simp; try with_reducible rfl; try simp)
                  try simp only [Act.put, List.setIfInBounds_toArray, List.set_cons_zero, List.set_cons_succ]
                  refine quiet_take (v := .bool true) hL9 (by kernel_rfl) (fun wq hwq => ?z7y26) (fun L9 hL9 => ?z7r26)
                  case z7y26 => (have h1 := HC4.out; go_simp; try with_reducible rfl; try simp only [h1])
                  try simp only [Act.put, List.setIfInBounds_toArray, List.set_cons_zero, List.set_cons_succ]
                  refine quiet_take (v := .bool true) hL9 (by kernel_rfl) (fun wq hwq => ?z7y27) (fun L9 hL9 => ?z7r27)
                  case z7y27 => (go_simp; try with_reducible rfl)
                  try simp only [Act.put, List.setIfInBounds_toArray, List.set_cons_zero, List.set_cons_succ]
                  refine quiet_take (v := .bool true) hL9 (by kernel_rfl) (fun wq hwq => ?z7y28) (fun L9 hL9 => ?z7r28)
                  case z7y28 => (go_simp; try with_reducible rfl)
                  try simp only [Act.put, List.setIfInBounds_toArray, List.set_cons_zero, List.set_cons_succ]
                  refine quiet_take (v := ?z7v29) hL9 (by kernel_rfl) (fun wq hwq => ?z7y29) (fun L9 hL9 => ?z7r29)
                  case z7y29 => (go_simp; try with_reducible rfl)
                  try simp only [Act.put, List.setIfInBounds_toArray, List.set_cons_zero, List.set_cons_succ]
                  refine quiet_take (v := .slice H.a2 S.rules.length H.c2) hL9 (by kernel_rfl) (fun wq hwq => ?z7y30) (fun L9 hL9 => ?z7r30)
                  case z7y30 => (obtain ⟨s0, s1, s2, s3, s4, s5, s6, s7⟩ := HSY.out wq hwq; go_simp; try with_reducible rfl)
                  try simp only [Act.put, List.setIfInBounds_toArray, List.set_cons_zero, List.set_cons_succ]
                  refine quiet_take (v := .int .i64 ((S.rules.length : Nat) : Int)) hL9 (by kernel_rfl) (fun wq hwq => ?z7y31) (fun L9 hL9 => ?z7r31)
                  case z7y31 => (go_simp; try with_reducible rfl; try simp)
                  try simp only [Act.put, List.setIfInBounds_toArray, List.set_cons_zero, List.set_cons_succ]
                  refine quiet_take (v := .bool true) hL9 (by kernel_rfl) (fun wq hwq => ?z7y32) (fun L9 hL9 => ?z7r32)
                  case z7y32 => (have h1 := HC5.out; go_simp; try with_reducible rfl; try simp only [h1])
                  try simp only [Act.put, List.setIfInBounds_toArray, List.set_cons_zero, List.set_cons_succ]
                  refine quiet_take (v := .bool true) hL9 (by kernel_rfl) (fun wq hwq => ?z7y33) (fun L9 hL9 => ?z7r33)
                  case z7y33 => (go_simp; try with_reducible rfl)
                  try simp only [Act.put, List.setIfInBounds_toArray, List.set_cons_zero, List.set_cons_succ]
                  refine quiet_take (v := .bool true) hL9 (by kernel_rfl) (fun wq hwq => ?z7y34) (fun L9 hL9 => ?z7r34)
                  case z7y34 => (go_simp; try with_reducible rfl)
                  try simp only [Act.put, List.setIfInBounds_toArray, List.set_cons_zero, List.set_cons_succ]
                  refine quiet_take (v := ?z7v35) hL9 (by kernel_rfl) (fun wq hwq => ?z7y35) (fun L9 hL9 => ?z7r35)
                  case z7y35 => (go_simp; try with_reducible rfl)
                  try simp only [Act.put, List.setIfInBounds_toArray, List.set_cons_zero, List.set_cons_succ]
                  refine quiet_take (v := .slice H.a3 S.perms.length H.c3) hL9 (by kernel_rfl) (fun wq hwq => ?z7y36) (fun L9 hL9 => ?z7r36)
                  case z7y36 => (obtain ⟨s0, s1, s2, s3, s4, s5, s6, s7⟩ := HSY.out wq hwq; go_simp; try with_reducible rfl)
                  try simp only [Act.put, List.setIfInBounds_toArray, List.set_cons_zero, List.set_cons_succ]
                  refine quiet_take (v := .int .i64 ((S.perms.length : Nat) : Int)) hL9 (by kernel_rfl) (fun wq hwq => ?z7y37) (fun L9 hL9 => ?z7r37)
                  case z7y37 => (go_simp; try with_reducible rfl; try simp)
                  try simp only [Act.put, List.setIfInBounds_toArray, List.set_cons_zero, List.set_cons_succ]
                  refine quiet_take (v := .bool true) hL9 (by kernel_rfl) (fun wq hwq => ?z7y38) (fun L9 hL9 => ?z7r38)
                  case z7y38 => (have h1 := HC6.out; go_simp; try with_reducible rfl; try simp only [h1])
                  try simp only [Act.put, List.setIfInBounds_toArray, List.set_cons_zero, List.set_cons_succ]
                  refine quiet_take (v := .bool true) hL9 (by kernel_rfl) (fun wq hwq => ?z7y39) (fun L9 hL9 => ?z7r39)
                  case z7y39 => (go_simp; try with_reducible rfl)
                  try simp only [Act.put, List.setIfInBounds_toArray, List.set_cons_zero, List.set_cons_succ]
                  refine quiet_take (v := .bool true) hL9 (by kernel_rfl) (fun wq hwq => ?z7y40) (fun L9 hL9 => ?z7r40)
                  case z7y40 => (go_simp; try with_reducible rfl)
                  try simp only [Act.put, List.setIfInBounds_toArray, List.set_cons_zero, List.set_cons_succ]
                  refine quiet_take (v := ?z7v41) hL9 (by kernel_rfl) (fun wq hwq => ?z7y41) (fun L9 hL9 => ?z7r41)
                  case z7y41 => (go_simp; try with_reducible rfl)
                  try simp only [Act.put, List.setIfInBounds_toArray, List.set_cons_zero, List.set_cons_succ]
                  refine quiet_take (v := .slice H.a4 S.looks.length H.c4) hL9 (by kernel_rfl) (fun wq hwq => ?z7y42) (fun L9 hL9 => ?z7r42)
                  case z7y42 => (obtain ⟨s0, s1, s2, s3, s4, s5, s6, s7⟩ := HSY.out wq hwq; go_simp; try with_reducible rfl)
                  try simp only [Act.put, List.setIfInBounds_toArray, List.set_cons_zero, List.set_cons_succ]
                  refine quiet_take (v := .int .i64 ((S.looks.length : Nat) : Int)) hL9 (by kernel_rfl) (fun wq hwq => ?z7y43) (fun L9 hL9 => ?z7r43)
                  case z7y43 => (go_simp; try with_reducible rfl; try simp)
                  try simp only [Act.put, List.setIfInBounds_toArray, List.set_cons_zero, List.set_cons_succ]
                  refine quiet_take (v := .bool false) hL9 (by kernel_rfl) (fun wq hwq => ?z7y44) (fun L9 hL9 => ?z7r44)
                  case z7y44 => (have h1 := HC7.out; go_simp; try with_reducible rfl; try simp only [h1])
                  try simp only [Act.put, List.setIfInBounds_toArray, List.set_cons_zero, List.set_cons_succ]
                  refine quiet_take (v := .bool false) hL9 (by kernel_rfl) (fun wq hwq => ?z7y45) (fun L9 hL9 => ?z7r45)
                  case z7y45 => (go_simp; try with_reducible rfl)
                  try simp only [Act.put, List.setIfInBounds_toArray, List.set_cons_zero, List.set_cons_succ]
                  refine quiet_nil hL9 ?_
                  clear hL9
                  intro wy hOy
                  have hOz := HU.out.trans hOy
                  go_wp2
                  go_ret
                  exact ⟨by simp, hOz⟩
                | true =>
                  go_enter Tryd.func100, Tryd.ntmps100
                  go_upto_region 1 with fail
                  rw [← HUE.out]
                  refine region_keep_tail (fun wq => On u wq) 46 (by kernel_rfl) (by kernel_rfl) (On.refl HU.out.tab).drew ?_
                  simp only [List.take_succ_cons, List.take_zero, List.drop_succ_cons, List.drop_zero]
                  refine quiet_start fun L9 hL9 => ?_
                  refine quiet_take (v := ?z8v0) hL9 (by kernel_rfl) (fun wq hwq => ?z8y0) (fun L9 hL9 => ?z8r0)
                  case z8y0 => (go_simp; try with_reducible rfl)
                  try simp only [Act.put, List.setIfInBounds_toArray, List.set_cons_zero, List.set_cons_succ]
                  refine quiet_take (v := .int .i64 S.f) hL9 (by kernel_rfl) (fun wq hwq => ?z8y1) (fun L9 hL9 => ?z8r1)
                  case z8y1 => (obtain ⟨s0, s1, s2, s3, s4, s5, s6, s7⟩ := HSY.out wq hwq; go_simp; try with_reducible rfl)
                  try simp only [Act.put, List.setIfInBounds_toArray, List.set_cons_zero, List.set_cons_succ]
                  refine quiet_take (v := .bool true) hL9 (by kernel_rfl) (fun wq hwq => ?z8y2) (fun L9 hL9 => ?z8r2)
                  case z8y2 => (go_simp; go_at_call 107; exact HVF.out wq hwq)
                  try simp only [Act.put, List.setIfInBounds_toArray, List.set_cons_zero, List.set_cons_succ]
                  refine quiet_take (v := .bool true) hL9 (by kernel_rfl) (fun wq hwq => ?z8y3) (fun L9 hL9 => ?z8r3)
                  case z8y3 => (go_simp; try with_reducible rfl)
                  try simp only [Act.put, List.setIfInBounds_toArray, List.set_cons_zero, List.set_cons_succ]
                  refine quiet_take (v := ?z8v4) hL9 (by kernel_rfl) (fun wq hwq => ?z8y4) (fun L9 hL9 => ?z8r4)
                  case z8y4 => (go_simp; try with_reducible rfl)
                  try simp only [Act.put, List.setIfInBounds_toArray, List.set_cons_zero, List.set_cons_succ]
                  refine quiet_take (v := .int .i64 S.rows) hL9 (by kernel_rfl) (fun wq hwq => ?z8y5) (fun L9 hL9 => ?z8r5)
                  case z8y5 => (obtain ⟨s0, s1, s2, s3, s4, s5, s6, s7⟩ := HSY.out wq hwq; go_simp; try with_reducible rfl)
                  try simp only [Act.put, List.setIfInBounds_toArray, List.set_cons_zero, List.set_cons_succ]
                  refine quiet_take (v := ?z8v6) hL9 (by kernel_rfl) (fun wq hwq => ?z8y6) (fun L9 hL9 => ?z8r6)
                  case z8y6 => (go_simp; try with_reducible rfl)
                  try simp only [Act.put, List.setIfInBounds_toArray, List.set_cons_zero, List.set_cons_succ]
                  refine quiet_take (v := .int .i64 S.f) hL9 (by kernel_rfl) (fun wq hwq => ?z8y7) (fun L9 hL9 => ?z8r7)
                  case z8y7 => (obtain ⟨s0, s1, s2, s3, s4, s5, s6, s7⟩ := HSY.out wq hwq; go_simp; try with_reducible rfl)
                  try simp only [Act.put, List.setIfInBounds_toArray, List.set_cons_zero, List.set_cons_succ]
                  refine quiet_take (v := .int .i64 ((twoOf S.f : Nat) : Int)) hL9 (by kernel_rfl) (fun wq hwq => ?z8y8) (fun L9 hL9 => ?z8r8)
                  case z8y8 => (go_simp; go_at_call 85; exact HTW.out wq hwq)
                  try simp only [Act.put, List.setIfInBounds_toArray, List.set_cons_zero, List.set_cons_succ]
                  refine quiet_take (v := .int .i64 M) hL9 (by kernel_rfl) (fun wq hwq => ?z8y9) (fun L9 hL9 => ?z8r9)
                  case z8y9 => (go_simp; first | with_reducible rfl | exact HMIN.out | (rw [← HMIN.out]) | skip)
                  try simp only [Act.put, List.setIfInBounds_toArray, List.set_cons_zero, List.set_cons_succ]
                  refine quiet_take (v := .bool true) hL9 (by kernel_rfl) (fun wq hwq => ?z8y10) (fun L9 hL9 => ?z8r10)
                  case z8y10 => (go_simp; go_at_call 144; exact HW1.out wq hwq)
                  try simp only [Act.put, List.setIfInBounds_toArray, List.set_cons_zero, List.set_cons_succ]
                  refine quiet_take (v := .bool true) hL9 (by kernel_rfl) (fun wq hwq => ?z8y11) (fun L9 hL9 => ?z8r11)
                  case z8y11 => (go_simp; try with_reducible rfl)
                  try simp only [Act.put, List.setIfInBounds_toArray, List.set_cons_zero, List.set_cons_succ]
                  refine quiet_take (v := .bool true) hL9 (by kernel_rfl) (fun wq hwq => ?z8y12) (fun L9 hL9 => ?z8r12)
                  case z8y12 => (go_simp; try with_reducible rfl)
                  try simp only [Act.put, List.setIfInBounds_toArray, List.set_cons_zero, List.set_cons_succ]
                  refine quiet_take (v := ?z8v13) hL9 (by kernel_rfl) (fun wq hwq => ?z8y13) (fun L9 hL9 => ?z8r13)
                  case z8y13 => (go_simp; try with_reducible rfl)
                  try simp only [Act.put, List.setIfInBounds_toArray, List.set_cons_zero, List.set_cons_succ]
                  refine quiet_take (v := .int .i64 S.main) hL9 (by kernel_rfl) (fun wq hwq => ?z8y14) (fun L9 hL9 => ?z8r14)
                  case z8y14 => (obtain ⟨s0, s1, s2, s3, s4, s5, s6, s7⟩ := HSY.out wq hwq; go_simp; try with_reducible rfl)
                  try simp only [Act.put, List.setIfInBounds_toArray, List.set_cons_zero, List.set_cons_succ]
                  refine quiet_take (v := .bool true) hL9 (by kernel_rfl) (fun wq hwq => ?z8y15) (fun L9 hL9 => ?z8r15)
                  case z8y15 => (go_simp; go_at_call 144; exact HW2.out wq hwq)
                  try simp only [Act.put, List.setIfInBounds_toArray, List.set_cons_zero, List.set_cons_succ]
                  refine quiet_take (v := .bool true) hL9 (by kernel_rfl) (fun wq hwq => ?z8y16) (fun L9 hL9 => ?z8r16)
                  case z8y16 => (go_simp; try with_reducible rfl)
                  try simp only [Act.put, List.setIfInBounds_toArray, List.set_cons_zero, List.set_cons_succ]
                  refine quiet_take (v := .bool true) hL9 (by kernel_rfl) (fun wq hwq => ?z8y17) (fun L9 hL9 => ?z8r17)
                  case z8y17 => (go_simp; try with_reducible rfl)
                  try simp only [Act.put, List.setIfInBounds_toArray, List.set_cons_zero, List.set_cons_succ]
                  refine quiet_take (v := ?z8v18) hL9 (by kernel_rfl) (fun wq hwq => ?z8y18) (fun L9 hL9 => ?z8r18)
                  case z8y18 => (go_simp; try with_reducible rfl)
                  try simp only [Act.put, List.setIfInBounds_toArray, List.set_cons_zero, List.set_cons_succ]
                  refine quiet_take (v := .int .i64 S.pub) hL9 (by kernel_rfl) (fun wq hwq => ?z8y19) (fun L9 hL9 => ?z8r19)
                  case z8y19 => (obtain ⟨s0, s1, s2, s3, s4, s5, s6, s7⟩ := HSY.out wq hwq; go_simp; try with_reducible rfl)
                  try simp only [Act.put, List.setIfInBounds_toArray, List.set_cons_zero, List.set_cons_succ]
                  refine quiet_take (v := .bool true) hL9 (by kernel_rfl) (fun wq hwq => ?z8y20) (fun L9 hL9 => ?z8r20)
                  case z8y20 => (go_simp; go_at_call 144; exact HW3.out wq hwq)
                  try simp only [Act.put, List.setIfInBounds_toArray, List.set_cons_zero, List.set_cons_succ]
                  refine quiet_take (v := .bool true) hL9 (by kernel_rfl) (fun wq hwq => ?z8y21) (fun L9 hL9 => ?z8r21)
                  case z8y21 => (go_simp; try with_reducible rfl)
                  try simp only [Act.put, List.setIfInBounds_toArray, List.set_cons_zero, List.set_cons_succ]
                  refine quiet_take (v := .bool true) hL9 (by kernel_rfl) (fun wq hwq => ?z8y22) (fun L9 hL9 => ?z8r22)
                  case z8y22 => (go_simp; try with_reducible rfl)
                  try simp only [Act.put, List.setIfInBounds_toArray, List.set_cons_zero, List.set_cons_succ]
                  refine quiet_take (v := ?z8v23) hL9 (by kernel_rfl) (fun wq hwq => ?z8y23) (fun L9 hL9 => ?z8r23)
                  case z8y23 => (go_simp; try with_reducible rfl)
                  try simp only [Act.put, List.setIfInBounds_toArray, List.set_cons_zero, List.set_cons_succ]
                  refine quiet_take (v := .slice H.a1 S.fixed.length H.c1) hL9 (by kernel_rfl) (fun wq hwq => ?z8y24) (fun L9 hL9 => ?z8r24)
                  case z8y24 => (obtain ⟨s0, s1, s2, s3, s4, s5, s6, s7⟩ := HSY.out wq hwq; go_simp; try with_reducible rfl)
                  try simp only [Act.put, List.setIfInBounds_toArray, List.set_cons_zero, List.set_cons_succ]
                  refine quiet_take (v := .int .i64 ((S.fixed.length : Nat) : Int)) hL9 (by kernel_rfl) (fun wq hwq => ?z8y25) (fun L9 hL9 => ?z8r25)
                  case z8y25 => (go_simp; try with_reducible rfl; try simp)
                  try simp only [Act.put, List.setIfInBounds_toArray, List.set_cons_zero, List.set_cons_succ]
                  refine quiet_take (v := .bool true) hL9 (by kernel_rfl) (fun wq hwq => ?z8y26) (fun L9 hL9 => ?z8r26)
                  case z8y26 => (have h1 := HC4.out; go_simp; try with_reducible rfl; try simp only [h1])
                  try simp only [Act.put, List.setIfInBounds_toArray, List.set_cons_zero, List.set_cons_succ]
                  refine quiet_take (v := .bool true) hL9 (by kernel_rfl) (fun wq hwq => ?z8y27) (fun L9 hL9 => ?z8r27)
                  case z8y27 => (go_simp; try with_reducible rfl)
                  try simp only [Act.put, List.setIfInBounds_toArray, List.set_cons_zero, List.set_cons_succ]
                  refine quiet_take (v := .bool true) hL9 (by kernel_rfl) (fun wq hwq => ?z8y28) (fun L9 hL9 => ?z8r28)
                  case z8y28 => (go_simp; try with_reducible rfl)
                  try simp only [Act.put, List.setIfInBounds_toArray, List.set_cons_zero, List.set_cons_succ]
                  refine quiet_take (v := ?z8v29) hL9 (by kernel_rfl) (fun wq hwq => ?z8y29) (fun L9 hL9 => ?z8r29)
                  case z8y29 => (go_simp; try with_reducible rfl)
                  try simp only [Act.put, List.setIfInBounds_toArray, List.set_cons_zero, List.set_cons_succ]
                  refine quiet_take (v := .slice H.a2 S.rules.length H.c2) hL9 (by kernel_rfl) (fun wq hwq => ?z8y30) (fun L9 hL9 => ?z8r30)
                  case z8y30 => (obtain ⟨s0, s1, s2, s3, s4, s5, s6, s7⟩ := HSY.out wq hwq; go_simp; try with_reducible rfl)
                  try simp only [Act.put, List.setIfInBounds_toArray, List.set_cons_zero, List.set_cons_succ]
                  refine quiet_take (v := .int .i64 ((S.rules.length : Nat) : Int)) hL9 (by kernel_rfl) (fun wq hwq => ?z8y31) (fun L9 hL9 => ?z8r31)
                  case z8y31 => (go_simp; try with_reducible rfl; try simp)
                  try simp only [Act.put, List.setIfInBounds_toArray, List.set_cons_zero, List.set_cons_succ]
                  refine quiet_take (v := .bool true) hL9 (by kernel_rfl) (fun wq hwq => ?z8y32) (fun L9 hL9 => ?z8r32)
                  case z8y32 => (have h1 := HC5.out; go_simp; try with_reducible rfl; try simp only [h1])
                  try simp only [Act.put, List.setIfInBounds_toArray, List.set_cons_zero, List.set_cons_succ]
                  refine quiet_take (v := .bool true) hL9 (by kernel_rfl) (fun wq hwq => ?z8y33) (fun L9 hL9 => ?z8r33)
                  case z8y33 => (go_simp; try with_reducible rfl)
                  try simp only [Act.put, List.setIfInBounds_toArray, List.set_cons_zero, List.set_cons_succ]
                  refine quiet_take (v := .bool true) hL9 (by kernel_rfl) (fun wq hwq => ?z8y34) (fun L9 hL9 => ?z8r34)
                  case z8y34 => (go_simp; try with_reducible rfl)
                  try simp only [Act.put, List.setIfInBounds_toArray, List.set_cons_zero, List.set_cons_succ]
                  refine quiet_take (v := ?z8v35) hL9 (by kernel_rfl) (fun wq hwq => ?z8y35) (fun L9 hL9 => ?z8r35)
                  case z8y35 => (go_simp; try with_reducible rfl)
                  try simp only [Act.put, List.setIfInBounds_toArray, List.set_cons_zero, List.set_cons_succ]
                  refine quiet_take (v := .slice H.a3 S.perms.length H.c3) hL9 (by kernel_rfl) (fun wq hwq => ?z8y36) (fun L9 hL9 => ?z8r36)
                  case z8y36 => (obtain ⟨s0, s1, s2, s3, s4, s5, s6, s7⟩ := HSY.out wq hwq; go_simp; try with_reducible rfl)
                  try simp only [Act.put, List.setIfInBounds_toArray, List.set_cons_zero, List.set_cons_succ]
                  refine quiet_take (v := .int .i64 ((S.perms.length : Nat) : Int)) hL9 (by kernel_rfl) (fun wq hwq => ?z8y37) (fun L9 hL9 => ?z8r37)
                  case z8y37 => (go_simp; try with_reducible rfl; try simp)
                  try simp only [Act.put, List.setIfInBounds_toArray, List.set_cons_zero, List.set_cons_succ]
                  refine quiet_take (v := .bool true) hL9 (by kernel_rfl) (fun wq hwq => ?z8y38) (fun L9 hL9 => ?z8r38)
                  case z8y38 => (have h1 := HC6.out; go_simp; try with_reducible rfl; try simp only [h1])
                  try simp only [Act.put, List.setIfInBounds_toArray, List.set_cons_zero, List.set_cons_succ]
                  refine quiet_take (v := .bool true) hL9 (by kernel_rfl) (fun wq hwq => ?z8y39) (fun L9 hL9 => ?z8r39)
                  case z8y39 => (go_simp; try with_reducible rfl)
                  try simp only [Act.put, List.setIfInBounds_toArray, List.set_cons_zero, List.set_cons_succ]
                  refine quiet_take (v := .bool true) hL9 (by kernel_rfl) (fun wq hwq => ?z8y40) (fun L9 hL9 => ?z8r40)
                  case z8y40 => (go_simp; try with_reducible rfl)
                  try simp only [Act.put, List.setIfInBounds_toArray, List.set_cons_zero, List.set_cons_succ]
                  refine quiet_take (v := ?z8v41) hL9 (by kernel_rfl) (fun wq hwq => ?z8y41) (fun L9 hL9 => ?z8r41)
                  case z8y41 => (go_simp; try with_reducible rfl)
                  try simp only [Act.put, List.setIfInBounds_toArray, List.set_cons_zero, List.set_cons_succ]
                  refine quiet_take (v := .slice H.a4 S.looks.length H.c4) hL9 (by kernel_rfl) (fun wq hwq => ?z8y42) (fun L9 hL9 => ?z8r42)
                  case z8y42 => (obtain ⟨s0, s1, s2, s3, s4, s5, s6, s7⟩ := HSY.out wq hwq; go_simp; try with_reducible rfl)
                  try simp only [Act.put, List.setIfInBounds_toArray, List.set_cons_zero, List.set_cons_succ]
                  refine quiet_take (v := .int .i64 ((S.looks.length : Nat) : Int)) hL9 (by kernel_rfl) (fun wq hwq => ?z8y43) (fun L9 hL9 => ?z8r43)
                  case z8y43 => (go_simp; try with_reducible rfl; try simp)
                  try simp only [Act.put, List.setIfInBounds_toArray, List.set_cons_zero, List.set_cons_succ]
                  refine quiet_take (v := .bool true) hL9 (by kernel_rfl) (fun wq hwq => ?z8y44) (fun L9 hL9 => ?z8r44)
                  case z8y44 => (have h1 := HC7.out; go_simp; try with_reducible rfl; try simp only [h1])
                  try simp only [Act.put, List.setIfInBounds_toArray, List.set_cons_zero, List.set_cons_succ]
                  refine quiet_take (v := .bool true) hL9 (by kernel_rfl) (fun wq hwq => ?z8y45) (fun L9 hL9 => ?z8r45)
                  case z8y45 => (go_simp; try with_reducible rfl)
                  try simp only [Act.put, List.setIfInBounds_toArray, List.set_cons_zero, List.set_cons_succ]
                  refine quiet_nil hL9 ?_
                  clear hL9
                  intro wy hOy
                  have hOz := HU.out.trans hOy
                  go_wp2
                  go_ret
                  exact ⟨by simp, hOz⟩
set_option maxHeartbeats 4000000 in
set_option maxRecDepth 100000 in
theorem valid13_any (S : Sy) (H : Sh) (w : World) (hT : Tab w) (hR : SyR w H S) :
    Calls Tryd.prog 52 #[syA S H] w fun e w' => e = .returned (.bool (valSy S)) ∧ On w w' := by
  obtain ⟨W0, hW0⟩ : ∃ W0, W0 = w.alloc (syO S H) := ⟨_, rfl⟩
  have hO0 : On w W0 := by rw [hW0]; exact (On.refl hT).alloc _
  have HB0 : Hid (VB w.heap.size W0 (syL S H)) := by rw [hW0]; exact Lib.hid (vb_newS S H w)
  have HSY : Hid (∀ wq, On W0 wq → _) := fun wq h => sy_cells (HB0.out.on h)
  have HR := Lib.hid (hR.on hO0)
  have HV := Lib.hid (vsizes_any S H W0 hO0.tab)
  have HOK : Hid (On W0 W0) := On.refl hO0.tab
  have HW0 := Lib.hid hW0; have HO0 := Lib.hid hO0
  clear hT hR hW0 hO0 HB0
  cases hs : szS S with
  | false =>
    have e : valSy S = false := by unfold valSy; rw [hs]; rfl
    rw [e]
    rw [hs] at HV
    clear e hs
    go_enter Tryd.func52, Tryd.ntmps52
    go_upto_region 1 with fail
    rw [← HW0.out]
    obtain ⟨s0, s1, s2, s3, s4, s5, s6, s7⟩ := HSY.out _ HOK.out
    go_wp2_with (go_at_call 100; (with_reducible refine HV.out.mono ?_); rintro e w1 ⟨rfl, hO1⟩)
    go_ret
    exact ⟨rfl, HO0.out.trans hO1⟩
  | true =>
    have e : valSy S = (S.fixed.all (colB S) && (S.rules.all (ruB S) && (S.perms.all (pmB S) && S.looks.all (lkB S)))) := by unfold valSy; rw [hs]; rfl
    rw [e]
    rw [hs] at HV
    have HC1 : Hid (∀ wq, On W0 wq → Calls Tryd.prog 54 #[syA S H, .slice H.a1 S.fixed.length H.c1] wq fun e w' => e = .returned (.bool (S.fixed.all (colB S))) ∧ On W0 w') := fun wq h => (arecols_any S H S.fixed _ wq h.tab hs ((HR.out.on h).2.1)).mono fun e w' ⟨he, ho⟩ => ⟨he, h.trans ho⟩
    have HC2 : Hid (∀ wq, On W0 wq → Calls Tryd.prog 101 #[syA S H, .slice H.a2 S.rules.length H.c2, .func (.func 102) #[] #[]] wq fun e w' => e = .returned (.bool (S.rules.all (ruB S))) ∧ On W0 w') := fun wq h => (all_rule S H S.rules _ wq h.tab hs ((HR.out.on h).2.2.1)).mono fun e w' ⟨he, ho⟩ => ⟨he, h.trans ho⟩
    have HC3 : Hid (∀ wq, On W0 wq → Calls Tryd.prog 103 #[syA S H, .slice H.a3 S.perms.length H.c3, .func (.func 104) #[] #[]] wq fun e w' => e = .returned (.bool (S.perms.all (pmB S))) ∧ On W0 w') := fun wq h => (all_perm S H S.perms _ wq h.tab hs ((HR.out.on h).2.2.2.1)).mono fun e w' ⟨he, ho⟩ => ⟨he, h.trans ho⟩
    have HC4 : Hid (∀ wq, On W0 wq → Calls Tryd.prog 105 #[syA S H, .slice H.a4 S.looks.length H.c4, .func (.func 106) #[] #[]] wq fun e w' => e = .returned (.bool (S.looks.all (lkB S))) ∧ On W0 w') := fun wq h => (all_look S H S.looks _ wq h.tab hs ((HR.out.on h).2.2.2.2)).mono fun e w' ⟨he, ho⟩ => ⟨he, h.trans ho⟩
    clear e hs HR
    generalize S.fixed.all (colB S) = A1 at *
    generalize S.rules.all (ruB S) = A2 at *
    generalize S.perms.all (pmB S) = A3 at *
    generalize S.looks.all (lkB S) = A4 at *
    cases A1 <;> cases A2 <;> cases A3 <;> cases A4
    all_goals (go_enter Tryd.func52, Tryd.ntmps52
               go_upto_region 1 with fail
               rw [← HW0.out]
               obtain ⟨s0, s1, s2, s3, s4, s5, s6, s7⟩ := HSY.out _ HOK.out
               go_wp2_with (first
                 | (go_at_call 100; (with_reducible refine HV.out.mono ?_); rintro e w1 ⟨rfl, hO1⟩; obtain ⟨s0, s1, s2, s3, s4, s5, s6, s7⟩ := HSY.out w1 hO1)
                 | (go_at_call 54; (with_reducible refine (HC1.out _ hO1).mono ?_); rintro e w2 ⟨rfl, hO2⟩; obtain ⟨s0, s1, s2, s3, s4, s5, s6, s7⟩ := HSY.out w2 hO2)
                 | (go_at_call 101; (with_reducible refine (HC2.out _ hO2).mono ?_); rintro e w3 ⟨rfl, hO3⟩; obtain ⟨s0, s1, s2, s3, s4, s5, s6, s7⟩ := HSY.out w3 hO3)
                 | (go_at_call 103; (with_reducible refine (HC3.out _ hO3).mono ?_); rintro e w4 ⟨rfl, hO4⟩; obtain ⟨s0, s1, s2, s3, s4, s5, s6, s7⟩ := HSY.out w4 hO4)
                 | (go_at_call 105; (with_reducible refine (HC4.out _ hO4).mono ?_); rintro e w5 ⟨rfl, hO5⟩)
                 | fail)
               go_ret
               first | exact ⟨rfl, HO0.out.trans hO5⟩ | exact ⟨rfl, HO0.out.trans hO4⟩ | exact ⟨rfl, HO0.out.trans hO3⟩ | exact ⟨rfl, HO0.out.trans hO2⟩ | fail)
end Go.Proofs.YtnanjacllmdenaaDoor

/- The document's systems: Size, elements, within, tuple: what the calls return. -/
namespace Go.Proofs.YtnanjacllmdenaaDoor
open Go.RowKit
set_option linter.unusedVariables false

end Go.Proofs.YtnanjacllmdenaaDoor

/- The document's systems: rule: what the call returns. -/
namespace Go.Proofs.YtnanjacllmdenaaDoor
open Go.RowKit
set_option linter.unusedVariables false

/-- What a rule's variable, its monomial has to be. -/
def vaD (S : Sy) (ed : Bool) (v : Vr) : Bool := hasV S v && !(ed && v.1 == 2)
def moD (S : Sy) (ed : Bool) (m : Mo) : Bool := decide (m.1 < pOf S.f) && (decide (m.2.length ≤ 8) && m.2.all (vaD S ed))
theorem hasV_kind {S : Sy} {v : Vr} (h : hasV S v = true) : v.1 = 1 ∨ v.1 = 2 ∨ v.1 = 3 ∨ v.1 = 4 := by
  unfold hasV numK at h
  simp only [decide_eq_true_eq] at h
  rcases kinds4 v.1 with e | e | e | e | ⟨h1, h2, h3, h4⟩
  · exact .inl e
  · exact .inr (.inl e)
  · exact .inr (.inr (.inl e))
  · exact .inr (.inr (.inr e))
  · simp only [h1, h2, h3, h4, if_false] at h; omega
theorem vaD_true (S : Sy) : vaD S true = hasK S [1, 3, 4] := by
  funext v; unfold vaD hasK
  cases h : hasV S v
  · rfl
  · rcases hasV_kind h with e | e | e | e <;> simp [e]
theorem vaD_false (S : Sy) : vaD S false = hasK S [1, 3, 4, 2] := by
  funext v; unfold vaD hasK
  cases h : hasV S v
  · rfl
  · rcases hasV_kind h with e | e | e | e <;> simp [e]
theorem moD_true (S : Sy) : moD S true = moB S [1, 3, 4] := by funext m; unfold moD moB; rw [vaD_true, Bool.and_assoc]
theorem moD_false (S : Sy) : moD S false = moB S [1, 3, 4, 2] := by funext m; unfold moD moB; rw [vaD_false, Bool.and_assoc]
theorem ruB_edge (S : Sy) (r : Ru) : ruB S r = (decide (1 ≤ r.1 ∧ r.1 ≤ 4) && (decide (r.2.length ≤ 64) && (r.2.all (moD S (decide (r.1 = 3 ∨ r.1 = 4))) && (!(decide (r.1 = 3 ∨ r.1 = 4)) || decide (degS r.2 ≤ 1))))) := by
  unfold ruB
  by_cases h1 : r.1 = 1 ∨ r.1 = 2
  · have e1 : decide (r.1 = 3 ∨ r.1 = 4) = false := decide_eq_false (by omega)
    have e2 : decide (1 ≤ r.1 ∧ r.1 ≤ 4) = true := decide_eq_true (by omega)
    rw [if_pos h1, e1, e2, moD_false]; simp
  · rw [if_neg h1]
    by_cases h2 : r.1 = 3 ∨ r.1 = 4
    · have e1 : decide (r.1 = 3 ∨ r.1 = 4) = true := decide_eq_true h2
      have e2 : decide (1 ≤ r.1 ∧ r.1 ≤ 4) = true := decide_eq_true (by omega)
      rw [if_pos h2, e1, e2, moD_true]
      cases decide (degS r.2 ≤ 1) <;> simp
    · have e2 : decide (1 ≤ r.1 ∧ r.1 ≤ 4) = false := decide_eq_false (by omega)
      rw [if_neg h2, e2]; rfl
end Go.Proofs.YtnanjacllmdenaaDoor

/- The document's systems: perm, lookup: what the calls return. -/
namespace Go.Proofs.YtnanjacllmdenaaDoor
open Go.RowKit
set_option linter.unusedVariables false

end Go.Proofs.YtnanjacllmdenaaDoor

/- The document's systems: Valid: what the call returns. -/
namespace Go.Proofs.YtnanjacllmdenaaDoor
open Go.RowKit
set_option linter.unusedVariables false

end Go.Proofs.YtnanjacllmdenaaDoor

/- The document's systems: Valid: what the call returns. -/
namespace Go.Proofs.YtnanjacllmdenaaDoor
open Go.RowKit
set_option linter.unusedVariables false

end Go.Proofs.YtnanjacllmdenaaDoor

/- Package system: across, Clone: what the calls return. -/
namespace Go.Proofs.YtnanjacllmdenaaDoor
open Go.RowKit Go.Lib
set_option linter.unusedVariables false

theorem info_u64z : (Tryd.prog.info? 42).map (fun i => (i.zero, i.size, i.bytes)) = some (some (.int .u64 0), 1, 8) := by kernel_rfl
abbrev u64s (l : List Nat) : List Value := l.map fun x => .int .u64 ((x : Nat) : Int)
/-- The block of a slice holds numbers. -/
def KU (w : World) (v : Value) : Prop := ∀ b o n c, v = .slice (some ⟨b, o, none⟩) n c → 0 < n → ∃ cur fz, w.heap[b]? = some (.cells cur 42 fz)
theorem KU.on {w w' : World} {v : Value} (h : KU w v) (k : On w w') : KU w' v := fun b o n c e hn => by
  obtain ⟨cur, fz, hb⟩ := h b o n c e hn
  have hlt : b < w.heap.size := by
    rcases Nat.lt_or_ge b w.heap.size with h | h
    · exact h
    · rw [Array.getElem?_eq_none h] at hb; cases hb
  exact ⟨cur, fz, (k.2.block b hlt).trans hb⟩
theorem KU.nil (w : World) (a : Option Addr) (c : Nat) : KU w (.slice a 0 c) := fun b o n c' e hn => by
  simp only [Value.slice.injEq] at e; omega
/-- A slice of numbers that stands while another row grows. -/
def NR (w : World) (v : Value) (l : List Nat) : Prop := Reads w v l ∧ KU w v
theorem NR.on {w w' : World} {v : Value} {l : List Nat} (h : NR w v l) (k : On w w') : NR w' v l := ⟨h.1.on k, h.2.on k⟩
theorem NR.gb {w w' : World} {v : Value} {l : List Nat} {row : Option Nat} (h : NR w v l) (hg : w.grownBy w' row) (hr : ∀ r, row = some r → ∀ cur fz, w.heap[r]? ≠ some (.cells cur 42 fz)) : NR w' v l := by
  have key : ∀ b o n c, v = .slice (some ⟨b, o, none⟩) n c → 0 < n → w'.heap[b]? = w.heap[b]? := fun b o n c e hn => by
    obtain ⟨cur, fz, hb⟩ := h.2 b o n c e hn
    have hlt : b < w.heap.size := by
      rcases Nat.lt_or_ge b w.heap.size with h | h
      · exact h
      · rw [Array.getElem?_eq_none h] at hb; cases hb
    exact hg.block b hlt (fun e2 => hr b e2.symm cur fz hb)
  refine ⟨?_, fun b o n c e hn => ?_⟩
  · obtain ⟨hU, hL, h1 | ⟨b, off, cap, rfl, hc⟩⟩ := h.1
    · exact ⟨hU, hL, .inl h1⟩
    · exact ⟨hU, hL, .inr ⟨b, off, cap, rfl, fun i hi => (World.cell?_of_block (a := ⟨b, off + i, none⟩) (key b off _ cap rfl (by omega))).trans (hc i hi)⟩⟩
  · obtain ⟨cur, fz, hb⟩ := h.2 b o n c e hn
    exact ⟨cur, fz, (key b o n c e hn).trans hb⟩
theorem NR.nil (w : World) : NR w (.slice none 0 0) [] := ⟨⟨by simp, by simp, .inl ⟨rfl, none, 0, rfl⟩⟩, KU.nil w _ _⟩
theorem own_nr {w : World} {B n : Nat} {v : Value} {l : List Nat} (h : w.ownsRow B 42 1 v n (u64s l)) (hU : ∀ x ∈ l, x ≤ 18446744073709551615) (hn : n ≤ 9223372036854775807) : NR w v l := by
  have hl : l.length = n := by have := h.1; simp at this; omega
  have hr : SLd 0 1 (fun w b o (x : Nat) => w.cell? ⟨b, o, none⟩ = some (.int .u64 ((x : Nat) : Int))) w v l := own_sld (0 : Nat) _ h hl hn fun g i u hi hu hc => by
    have hi' : i < l.length := by omega
    rw [List.getElem?_map, List.getElem?_eq_getElem hi'] at hu
    simp only [Option.map_some, Option.some.injEq] at hu
    rw [hc, ← hu, List.getD_eq_getElem?_getD, List.getElem?_eq_getElem hi']; rfl
  refine ⟨⟨hU, by omega, ?_⟩, fun b o m c e hm => ?_⟩
  · obtain ⟨_, h1 | ⟨b, off, cap, rfl, hc⟩⟩ := hr
    · exact .inl h1
    · exact .inr ⟨b, off, cap, rfl, fun i hi => by have := hc i hi; simpa using this⟩
  · rcases h.2 with ⟨e1, h0⟩ | ⟨g, cap, cur, e1, hb, hg, _⟩
    · rw [e1] at e; simp at e
    · rw [e1] at e
      simp only [Value.slice.injEq, Option.some.injEq, Addr.mk.injEq, and_true] at e
      obtain ⟨⟨rfl, _⟩, _⟩ := e
      exact ⟨cur, _, hg⟩
/-- The slice lies in memory from n0 on. -/
def FrB (n0 : Nat) (v : Value) : Prop := ∀ b o n c, v = .slice (some ⟨b, o, none⟩) n c → n0 ≤ b
theorem FrB.nil (n0 : Nat) : FrB n0 (.slice none 0 0) := fun b o n c e => by simp at e
theorem FrB.off {n0 X : Nat} {v : Value} (h : FrB n0 v) (hX : X < n0) : Off X v := fun b o n c e _ => by have := h b o n c e; omega
theorem own_frb {w : World} {B k n : Nat} {e : TypeId} {v : Value} {xs : List Value} (h : w.ownsRow B e k v n xs) : FrB B v := fun b o m c e1 => by
  subst e1
  exact ownsRow_below h b rfl
/-- One more number. -/
theorem app_u64 {B : Nat} {w : World} {v : Value} {n : Nat} {xs : List Value} (hown : w.ownsRow B 42 1 v n xs) (hB : B ≤ w.heap.size) (x : Int) (hl : n ≤ 1000000) :
    ∃ v' w', (∀ ty, (Builtin.append_ #[28, 28] ty #[v, .slice (some ⟨w.heap.size, 0, none⟩) 1 1]).run Tryd.prog (w.alloc (.cells #[.int .u64 x] 42)) = .ok v' w') ∧ w'.ownsRow B 42 1 v' (n + 1) (xs ++ [.int .u64 x]) ∧
      ∀ W, On W w → W.heap.size ≤ B → On W w' := by
  obtain ⟨i0, hi, hz0, hz1, hz2⟩ := info_parts info_u64z
  have hb2 := vb_new w #[.int .u64 x] 42
  obtain ⟨v', w', hrun, hown', hg, hloc⟩ := append_cells (P := Tryd.prog) (w.alloc (.cells #[.int .u64 x] 42)) B 28 42 i0 (.int .u64 0) 1 8 Tryd.underlying28 hi hz0 hz1 hz2 rfl (by omega) v n xs (hown.alloc _) (some ⟨w.heap.size, 0, none⟩) 1 1 [.int .u64 x] rfl
    (fun _ => ⟨_, rfl, fun j u hj => by
      obtain rfl : j = 0 := by
        have := (List.getElem?_eq_some_iff.1 hj).1; simp at this; omega
      simp only [List.getElem?_cons_zero, Option.some.injEq] at hj
      subst hj
      exact hb2.2.1 0 _ rfl⟩) (by intro u hu; simp at hu; subst hu; rfl) (by unfold maxLen; omega) (by omega) (by simp; omega)
  exact ⟨v', w', hrun, hown', fun W hW hWB => (hW.alloc _).gbv hg (fun r hr => Nat.le_trans hWB (ownsRow_below hown r hr))⟩
end Go.Proofs.YtnanjacllmdenaaDoor
