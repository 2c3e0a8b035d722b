/- The document's Valid and Cap of a good tree and of the zero tree. -/
import Derived.Test.YthepmahjpejmdaaDoorKu20
import Derived.Test.YthepmahjpejmdaaDoorKu22
import Derived.Test.YthepmahjpejmdaaDoorKu27
import Derived.Test.YthepmahjpejmdaaDoorKu11
import Derived.Test.YthepmahjpejmdaaDoorKu21
set_option linter.unusedSimpArgs false
set_option linter.unusedVariables false
/- The document's Valid and Cap of a good tree and of the zero tree. -/
namespace Go.Proofs.YthepmahjpejmdaaDoor
open Go.RowKit
set_option linter.unusedVariables false

set_option maxHeartbeats 2000000 in
set_option maxRecDepth 100000 in
theorem rvalidt_yes (f : Int) (H c m : Nat) (F : Nat → List Dg) (v : Value) (w : World) (hT : Tab w) (hG : Good f H c m F) (hR : TR w v m F) :
    Calls Tryd.prog 11 #[trV f H c v] w fun e w' => e = .returned (.bool true) ∧ On w w' := by
  obtain ⟨a, cap, rfl, hm0, hRow⟩ := hR
  obtain ⟨u, hu⟩ : ∃ u, u = w.alloc (.cells #[.int .i64 f, .int .i64 (H : Int), .int .i64 (c : Int), .slice a m cap] 26) := ⟨_, rfl⟩
  obtain ⟨Q, hQ⟩ : ∃ Q, Q = w.heap.size := ⟨_, rfl⟩
  have HU := Lib.hid hu
  have HQ := Lib.hid hQ
  have HO : Hid (On w u) := by refine Lib.hid ?_; rw [hu]; exact (On.refl hT).alloc _
  have HB : Hid (TBox Q u f H c (.slice a m cap)) := by refine Lib.hid ?_; rw [hu, hQ]; exact TBox.new w _ _ _ _
  have HG := Lib.hid hG
  have HV := Lib.hid hG.hv
  have HROW := Lib.hid hRow
  have hH18 := hG.hH
  have hcH := hG.hc
  have hmH := hG.hm
  obtain ⟨t0, t1, t2, t3⟩ := HB.out.cells
  have l0 : ¬ (H : Int) < 0 := by omega
  have l1 : ¬ (18 : Int) < (H : Int) := by omega
  have l2 : ¬ (c : Int) < 0 := by omega
  have l3 : ¬ (H : Int) < (c : Int) := by omega
  have e1 : (H : Int) - (c : Int) + 1 = (m : Int) := by omega
  have e0 : decide ((H : Int) < 0) = false := decide_eq_false l0
  have e2 : decide ((c : Int) < 0) = false := decide_eq_false l2
  have e3 : decide ((18 : Int) < (H : Int)) = false := decide_eq_false l1
  have e5 : decide (H < c) = false := decide_eq_false (by omega)
  have HMH := Lib.hid hmH
  clear hT hG hRow hu hmH hQ
  go_enter Tryd.func11, Tryd.ntmps11
  go_upto_region 1 with fail
  rw [← HQ.out, ← HU.out]
  go_wp2_with (go_at_call 28; refine (rvalid_any _ _).mono ?_; rintro e w' ⟨rfl, rfl⟩; rw [HV.out])
  go_loopw [3] (fun vi wr => ∃ k : Nat, k ≤ m ∧ vi = .int .i64 (k : Int) ∧ Hid (On u wr)) (fun vi _ => m - (intOf vi).toNat)
  case atStart => exact ⟨0, Nat.zero_le _, rfl, On.refl HO.out.tab⟩
  case round =>
    rename World => wr
    obtain ⟨k, hk, rfl, HOr⟩ := hrel
    clear t0 t1 t2 t3
    obtain ⟨s0, s1, s2, s3⟩ := (HB.out.on HOr.out).cells
    by_cases hlt : k < m
    · have hlt' : (k : Int) < (m : Int) := by omega
      obtain ⟨b, o, x, rfl, hx, hd⟩ := HROW.out k hlt
      have HD := Lib.hid (hd.on (HO.out.trans HOr.out))
      obtain ⟨xa, xc, rfl⟩ := hd.shape
      have hxr := ((HO.out.trans HOr.out).cell (p := ⟨b, o + k, none⟩) (cell_size hx)).trans hx
      have hHk : (H : Int) - (k : Int) = ((H - k : Nat) : Int) := by have := HMH.out; omega
      have hlq := HG.out.len k hlt
      have HAL : Hid (∀ wx, On wr wx → Calls Tryd.prog 29 #[.int .i64 f, .slice xa (F k).length xc] wx fun e w' => e = .returned (.bool true) ∧ On wr w') := fun wx h => by
        have h2 := rall_any f (F k) _ wx h.tab (HD.out.on h)
        rw [HG.out.ok k hlt] at h2
        exact h2.mono fun e w' ⟨he, ho⟩ => ⟨he, h.trans ho⟩
      clear HD
      generalize (F k).length = q at *
      have hsh := shl_nat (H - k) q (by omega) hlq
      have hq18 : q ≤ 262144 := by rw [hlq]; exact pow18 (by omega)
      have hsh2 : IntKind.i64.wrap ((2 : Int) ^ (H - k)) = (q : Int) := by
        have h2 : ((2 : Int) ^ (H - k)) = (q : Int) := by rw [hlq]; simp
        rw [h2]; exact IntWalk.i64_in _ (by omega)
      have hwd : IntKind.i64.wrap ((H - k : Nat) : Int) = ((H - k : Nat) : Int) := IntWalk.i64_in _ (by omega)
      have hdd1 : (0 : Int) ≤ ((H - k : Nat) : Int) := by omega
      have hdd2 : ((H - k : Nat) : Int) < 64 := by omega
      have hdd3 : ¬ ((H - k : Nat) : Int) < 0 := by omega
      have hdd4 : H - k < 64 := by omega
      generalize H - k = dd at *
      have hqq : (((q : Nat) : Int) != (q : Int)) = false := by simp
      clear hlq hx hd
      go_wp2
      refine region_keep_tail (fun wx => On wr wx) 22 (by kernel_rfl) (by kernel_rfl) (On.refl HOr.out.tab).drew ?_
      simp only [List.take_succ_cons, List.take_zero, List.drop_succ_cons, List.drop_zero]
      refine quiet_start fun L9 hL9 => ?_
      refine quiet_take (v := ?kvv0) hL9 (by kernel_rfl) (fun wq hwq => ?kvy0) (fun L9 hL9 => ?kvr0)
      case kvy0 => (go_simp; try with_reducible rfl)
      try simp only [Act.put, List.setIfInBounds_toArray, List.set_cons_zero, List.set_cons_succ]
      refine quiet_take (v := ?kvv1) hL9 (by kernel_rfl) (fun wq hwq => ?kvy1) (fun L9 hL9 => ?kvr1)
      case kvy1 => (have k0 := (hwq.cell (p := ⟨Q, 0, none⟩) (cell_size s0)).trans s0; have k1 := (hwq.cell (p := ⟨Q, 1, none⟩) (cell_size s1)).trans s1; have k3 := (hwq.cell (p := ⟨Q, 3, none⟩) (cell_size s3)).trans s3; have k4 := (hwq.cell (p := ⟨b, o + k, none⟩) (cell_size hxr)).trans hxr; go_simp; try with_reducible rfl)
      try simp only [Act.put, List.setIfInBounds_toArray, List.set_cons_zero, List.set_cons_succ]
      refine quiet_take (v := ?kvv2) hL9 (by kernel_rfl) (fun wq hwq => ?kvy2) (fun L9 hL9 => ?kvr2)
      case kvy2 => (go_simp; try with_reducible rfl)
      try simp only [Act.put, List.setIfInBounds_toArray, List.set_cons_zero, List.set_cons_succ]
      refine quiet_take (v := ?kvv3) hL9 (by kernel_rfl) (fun wq hwq => ?kvy3) (fun L9 hL9 => ?kvr3)
      case kvy3 => (go_simp; try with_reducible rfl)
      try simp only [Act.put, List.setIfInBounds_toArray, List.set_cons_zero, List.set_cons_succ]
      refine quiet_take (v := ?kvv4) hL9 (by kernel_rfl) (fun wq hwq => ?kvy4) (fun L9 hL9 => ?kvr4)
      case kvy4 => (have k0 := (hwq.cell (p := ⟨Q, 0, none⟩) (cell_size s0)).trans s0; have k1 := (hwq.cell (p := ⟨Q, 1, none⟩) (cell_size s1)).trans s1; have k3 := (hwq.cell (p := ⟨Q, 3, none⟩) (cell_size s3)).trans s3; have k4 := (hwq.cell (p := ⟨b, o + k, none⟩) (cell_size hxr)).trans hxr; go_simp; try with_reducible rfl)
      try simp only [Act.put, List.setIfInBounds_toArray, List.set_cons_zero, List.set_cons_succ]
      refine quiet_take (v := ?kvv5) hL9 (by kernel_rfl) (fun wq hwq => ?kvy5) (fun L9 hL9 => ?kvr5)
      case kvy5 => (go_simp; try with_reducible rfl)
      try simp only [Act.put, List.setIfInBounds_toArray, List.set_cons_zero, List.set_cons_succ]
      refine quiet_take (v := ?kvv6) hL9 (by kernel_rfl) (fun wq hwq => ?kvy6) (fun L9 hL9 => ?kvr6)
      case kvy6 => (go_simp; try with_reducible rfl)
      try simp only [Act.put, List.setIfInBounds_toArray, List.set_cons_zero, List.set_cons_succ]
      refine quiet_take (v := ?kvv7) hL9 (by kernel_rfl) (fun wq hwq => ?kvy7) (fun L9 hL9 => ?kvr7)
      case kvy7 => (have k0 := (hwq.cell (p := ⟨Q, 0, none⟩) (cell_size s0)).trans s0; have k1 := (hwq.cell (p := ⟨Q, 1, none⟩) (cell_size s1)).trans s1; have k3 := (hwq.cell (p := ⟨Q, 3, none⟩) (cell_size s3)).trans s3; have k4 := (hwq.cell (p := ⟨b, o + k, none⟩) (cell_size hxr)).trans hxr; go_simp; try with_reducible rfl)
      try simp only [Act.put, List.setIfInBounds_toArray, List.set_cons_zero, List.set_cons_succ]
      refine quiet_take (v := ?kvv8) hL9 (by kernel_rfl) (fun wq hwq => ?kvy8) (fun L9 hL9 => ?kvr8)
      case kvy8 => (go_simp; try with_reducible rfl)
      try simp only [Act.put, List.setIfInBounds_toArray, List.set_cons_zero, List.set_cons_succ]
      refine quiet_take (v := .int .i64 (dd : Int)) hL9 (by kernel_rfl) (fun wq hwq => ?kvy9) (fun L9 hL9 => ?kvr9)
      case kvy9 => (have k0 := (hwq.cell (p := ⟨Q, 0, none⟩) (cell_size s0)).trans s0; have k1 := (hwq.cell (p := ⟨Q, 1, none⟩) (cell_size s1)).trans s1; have k3 := (hwq.cell (p := ⟨Q, 3, none⟩) (cell_size s3)).trans s3; have k4 := (hwq.cell (p := ⟨b, o + k, none⟩) (cell_size hxr)).trans hxr; go_simp; try with_reducible rfl)
      try simp only [Act.put, List.setIfInBounds_toArray, List.set_cons_zero, List.set_cons_succ]
      refine quiet_take (v := .int .i64 (q : Int)) hL9 (by kernel_rfl) (fun wq hwq => ?kvy10) (fun L9 hL9 => ?kvr10)
      case kvy10 => (have k0 := (hwq.cell (p := ⟨Q, 0, none⟩) (cell_size s0)).trans s0; have k1 := (hwq.cell (p := ⟨Q, 1, none⟩) (cell_size s1)).trans s1; have k3 := (hwq.cell (p := ⟨Q, 3, none⟩) (cell_size s3)).trans s3; have k4 := (hwq.cell (p := ⟨b, o + k, none⟩) (cell_size hxr)).trans hxr; go_simp; try (first | with_reducible rfl | exact hsh2))
      try simp only [Act.put, List.setIfInBounds_toArray, List.set_cons_zero, List.set_cons_succ]
      refine quiet_take (v := .bool false) hL9 (by kernel_rfl) (fun wq hwq => ?kvy11) (fun L9 hL9 => ?kvr11)
      case kvy11 => (have k0 := (hwq.cell (p := ⟨Q, 0, none⟩) (cell_size s0)).trans s0; have k1 := (hwq.cell (p := ⟨Q, 1, none⟩) (cell_size s1)).trans s1; have k3 := (hwq.cell (p := ⟨Q, 3, none⟩) (cell_size s3)).trans s3; have k4 := (hwq.cell (p := ⟨b, o + k, none⟩) (cell_size hxr)).trans hxr; go_simp; try with_reducible rfl)
      try simp only [Act.put, List.setIfInBounds_toArray, List.set_cons_zero, List.set_cons_succ]
      refine quiet_take (v := ?kvv12) hL9 (by kernel_rfl) (fun wq hwq => ?kvy12) (fun L9 hL9 => ?kvr12)
      case kvy12 => (go_simp; try with_reducible rfl)
      try simp only [Act.put, List.setIfInBounds_toArray, List.set_cons_zero, List.set_cons_succ]
      refine quiet_take (v := ?kvv13) hL9 (by kernel_rfl) (fun wq hwq => ?kvy13) (fun L9 hL9 => ?kvr13)
      case kvy13 => (go_simp; try with_reducible rfl)
      try simp only [Act.put, List.setIfInBounds_toArray, List.set_cons_zero, List.set_cons_succ]
      refine quiet_take (v := ?kvv14) hL9 (by kernel_rfl) (fun wq hwq => ?kvy14) (fun L9 hL9 => ?kvr14)
      case kvy14 => (have k0 := (hwq.cell (p := ⟨Q, 0, none⟩) (cell_size s0)).trans s0; have k1 := (hwq.cell (p := ⟨Q, 1, none⟩) (cell_size s1)).trans s1; have k3 := (hwq.cell (p := ⟨Q, 3, none⟩) (cell_size s3)).trans s3; have k4 := (hwq.cell (p := ⟨b, o + k, none⟩) (cell_size hxr)).trans hxr; go_simp; try with_reducible rfl)
      try simp only [Act.put, List.setIfInBounds_toArray, List.set_cons_zero, List.set_cons_succ]
      refine quiet_take (v := ?kvv15) hL9 (by kernel_rfl) (fun wq hwq => ?kvy15) (fun L9 hL9 => ?kvr15)
      case kvy15 => (go_simp; try with_reducible rfl)
      try simp only [Act.put, List.setIfInBounds_toArray, List.set_cons_zero, List.set_cons_succ]
      refine quiet_take (v := ?kvv16) hL9 (by kernel_rfl) (fun wq hwq => ?kvy16) (fun L9 hL9 => ?kvr16)
      case kvy16 => (have k0 := (hwq.cell (p := ⟨Q, 0, none⟩) (cell_size s0)).trans s0; have k1 := (hwq.cell (p := ⟨Q, 1, none⟩) (cell_size s1)).trans s1; have k3 := (hwq.cell (p := ⟨Q, 3, none⟩) (cell_size s3)).trans s3; have k4 := (hwq.cell (p := ⟨b, o + k, none⟩) (cell_size hxr)).trans hxr; go_simp; try with_reducible rfl)
      try simp only [Act.put, List.setIfInBounds_toArray, List.set_cons_zero, List.set_cons_succ]
      refine quiet_take (v := ?kvv17) hL9 (by kernel_rfl) (fun wq hwq => ?kvy17) (fun L9 hL9 => ?kvr17)
      case kvy17 => (go_simp; try with_reducible rfl)
      try simp only [Act.put, List.setIfInBounds_toArray, List.set_cons_zero, List.set_cons_succ]
      refine quiet_take (v := ?kvv18) hL9 (by kernel_rfl) (fun wq hwq => ?kvy18) (fun L9 hL9 => ?kvr18)
      case kvy18 => (go_simp; try with_reducible rfl)
      try simp only [Act.put, List.setIfInBounds_toArray, List.set_cons_zero, List.set_cons_succ]
      refine quiet_take (v := ?kvv19) hL9 (by kernel_rfl) (fun wq hwq => ?kvy19) (fun L9 hL9 => ?kvr19)
      case kvy19 => (have k0 := (hwq.cell (p := ⟨Q, 0, none⟩) (cell_size s0)).trans s0; have k1 := (hwq.cell (p := ⟨Q, 1, none⟩) (cell_size s1)).trans s1; have k3 := (hwq.cell (p := ⟨Q, 3, none⟩) (cell_size s3)).trans s3; have k4 := (hwq.cell (p := ⟨b, o + k, none⟩) (cell_size hxr)).trans hxr; go_simp; try with_reducible rfl)
      try simp only [Act.put, List.setIfInBounds_toArray, List.set_cons_zero, List.set_cons_succ]
      refine quiet_take (v := .bool true) hL9 (by kernel_rfl) (fun wq hwq => ?kvy20) (fun L9 hL9 => ?kvr20)
      case kvy20 => (go_simp; go_at_call 29; exact HAL.out _ hwq)
      try simp only [Act.put, List.setIfInBounds_toArray, List.set_cons_zero, List.set_cons_succ]
      refine quiet_take (v := ?kvv21) hL9 (by kernel_rfl) (fun wq hwq => ?kvy21) (fun L9 hL9 => ?kvr21)
      case kvy21 => (go_simp; try with_reducible rfl)
      try simp only [Act.put, List.setIfInBounds_toArray, List.set_cons_zero, List.set_cons_succ]
      refine quiet_nil hL9 ?_
      clear hL9
      intro w6 hX6
      go_wp2
      go_roundw
      case rel => exact ⟨k + 1, by omega, by simp, Lib.hid (HOr.out.trans hX6)⟩
      case measure => simp [intOf]; omega
    · obtain rfl : k = m := by omega
      go_wp2
      go_ret
      exact ⟨rfl, HO.out.trans HOr.out⟩
theorem rvalidt_zero (w : World) (hT : Tab w) : Calls Tryd.prog 11 #[.agg #[.int .i64 0, .int .i64 0, .int .i64 0, .slice none 0 0]] w fun e w' => e = .returned (.bool false) ∧ On w w' := by
  have H0 := Lib.hid (On.refl hT)
  have HV : Hid (validB 0 = true) := by unfold Hid; decide
  clear hT
  go_enter Tryd.func11, Tryd.ntmps11
  go_wp2_with (go_at_call 28; refine (rvalid_any _ _).mono ?_; rintro e w' ⟨rfl, rfl⟩; rw [HV.out])
  go_ret
  exact ⟨rfl, H0.out.alloc _⟩
theorem rcapt_zero (w : World) (hT : Tab w) : Calls Tryd.prog 14 #[.agg #[.int .i64 0, .int .i64 0, .int .i64 0, .slice none 0 0]] w fun e w' => e = .returned (.slice none 0 0) ∧ On w w' := by
  have H0 := Lib.hid (On.refl hT)
  have HV := Lib.hid (fun o => rvalidt_zero (w.alloc o) (H0.out.alloc o).tab)
  clear hT
  go_enter Tryd.func14, Tryd.ntmps14
  go_wp2_with (go_at_call 11; refine (HV.out _).mono ?_; rintro e w' ⟨rfl, hO⟩)
  go_ret
  exact ⟨rfl, (H0.out.alloc _).trans hO⟩
theorem capt_zero (w : World) (hT : Tab w) : Calls Tryd.prog 13 #[.agg #[.int .i64 0, .int .i64 0, .int .i64 0, .slice none 0 0]] w fun e w' => e = .returned (.slice none 0 0) ∧ On w w' := by
  have H0 := Lib.hid (On.refl hT)
  have HV := Lib.hid (fun o => valid_zero (w.alloc o) (H0.out.alloc o).tab)
  clear hT
  go_enter Tryd.func13, Tryd.ntmps13
  go_wp2_with (go_at_call 10; refine (HV.out _).mono ?_; rintro e w' ⟨rfl, hO⟩)
  go_ret
  exact ⟨rfl, (H0.out.alloc _).trans hO⟩
set_option maxHeartbeats 1000000 in
set_option maxRecDepth 100000 in
theorem rcapt_yes (f : Int) (H c m : Nat) (F : Nat → List Dg) (v : Value) (w : World) (hT : Tab w) (hG : Good f H c m F) (hR : TR w v m F) :
    Calls Tryd.prog 14 #[trV f H c v] w fun e w' => (∃ u, e = .returned u ∧ DR w' u (F (H - c))) ∧ On w w' := by
  have hR0 := hR
  obtain ⟨a, cap, rfl, hm0, hRow⟩ := hR
  obtain ⟨u, hu⟩ : ∃ u, u = w.alloc (.cells #[.int .i64 f, .int .i64 (H : Int), .int .i64 (c : Int), .slice a m cap] 26) := ⟨_, rfl⟩
  obtain ⟨Q, hQ⟩ : ∃ Q, Q = w.heap.size := ⟨_, rfl⟩
  have HU := Lib.hid hu
  have HQ := Lib.hid hQ
  have HO : Hid (On w u) := by refine Lib.hid ?_; rw [hu]; exact (On.refl hT).alloc _
  have HB : Hid (TBox Q u f H c (.slice a m cap)) := by refine Lib.hid ?_; rw [hu, hQ]; exact TBox.new w _ _ _ _
  have hm := hG.hm
  have hH := hG.hH
  have hcH := hG.hc
  have HG := Lib.hid hG
  have HVA := Lib.hid (rvalidt_yes f H c m F _ u HO.out.tab hG (hR0.on HO.out))
  obtain ⟨t0, t1, t2, t3⟩ := HB.out.cells
  obtain ⟨b, o, x, rfl, hx, hd⟩ := hRow (m - 1) (by omega)
  have HX := Lib.hid hx
  have HD := Lib.hid hd
  have hm1 : (m : Int) - 1 = ((m - 1 : Nat) : Int) := by omega
  have hm2 : ((m - 1 : Nat) : Int) < (m : Int) := by omega
  have HMC : Hid (m - 1 = H - c) := by unfold Hid; omega
  have hm3 : m ≤ 19 := by omega
  have HM := Lib.hid hm
  have HH := Lib.hid hH
  clear hT hG hR0 hRow hu hQ hx hd hm hH hcH
  go_enter Tryd.func14, Tryd.ntmps14
  go_upto_region 1 with fail
  rw [← HQ.out, ← HU.out]
  go_wp2_with (go_at_call 11; refine HVA.out.mono ?_; rintro e w3 ⟨rfl, hO3⟩; refine Hid.out ?_)
  refine Lib.hid ?_
  clear t0 t1 t2 t3
  obtain ⟨s0, s1, s2, s3⟩ := (HB.out.on hO3).cells
  have HOW := Lib.hid (HO.out.trans hO3)
  have hxr := (HOW.out.cell (p := ⟨b, o + (m - 1), none⟩) (cell_size HX.out)).trans HX.out
  have hDR := HD.out.on HOW.out
  have hlen := HG.out.len (m - 1) (by omega)
  have hp18 : (F (m - 1)).length ≤ 262144 := by rw [hlen]; exact pow18 (by have := HH.out; omega)
  obtain ⟨v', w4, hrun, hD, hg⟩ := append_dgs hDR (OD.nil w3.heap.size w3) (Nat.le_refl _) (by simp only [List.length_nil]; omega)
  rw [List.nil_append] at hD
  have HO4 : Hid (On w w4) := HOW.out.trans (OD.grown (On.refl HOW.out.tab) (Nat.le_refl _) (OD.nil w3.heap.size w3) hg)
  have HRES : Hid (DR w4 v' (F (H - c))) := by
    have h := OD.dr hD (fun i _ => HD.out.sm i) (by omega)
    rw [HMC.out] at h
    exact h
  have HRUN := Lib.hid hrun
  obtain ⟨xa, xc, rfl⟩ := hDR.shape
  generalize (F (m - 1)).length = q at *
  generalize m - 1 = mm at *
  clear hrun hD hg hDR hlen hO3 HVA HD HX HMC
  go_wp2_with (at_builtin; refine wp_append2 rfl (.tmp 7) (.tmp 15) _ _ rfl _ _ _ rfl rfl HRUN.out ?_)
  go_ret
  exact ⟨⟨_, rfl, HRES.out⟩, HO4.out⟩
end Go.Proofs.YthepmahjpejmdaaDoor

/- The document's Build: its errors. -/
namespace Go.Proofs.YthepmahjpejmdaaDoor
open Go.RowKit
set_option linter.unusedVariables false

abbrev zTree : Value := .agg #[.int .i64 0, .int .i64 0, .int .i64 0, .slice none 0 0]
/-- The result's box, written over by a zero tree. -/
theorem rb_box (w : World) (hT : Tab w) (U : World) (hU : U = w.alloc (.cells #[.int .i64 0, .int .i64 0, .int .i64 0, .slice none 0 0] 26)) : On w U ∧ VB w.heap.size U [.int .i64 0, .int .i64 0, .int .i64 0, .slice none 0 0] ∧
    ∀ X, On U X → On w ((((X.setCell ⟨w.heap.size, 0, none⟩ (.int .i64 0)).setCell ⟨w.heap.size, 1, none⟩ (.int .i64 0)).setCell ⟨w.heap.size, 2, none⟩ (.int .i64 0)).setCell ⟨w.heap.size, 3, none⟩ (.slice none 0 0)) ∧
      VB w.heap.size ((((X.setCell ⟨w.heap.size, 0, none⟩ (.int .i64 0)).setCell ⟨w.heap.size, 1, none⟩ (.int .i64 0)).setCell ⟨w.heap.size, 2, none⟩ (.int .i64 0)).setCell ⟨w.heap.size, 3, none⟩ (.slice none 0 0)) [.int .i64 0, .int .i64 0, .int .i64 0, .slice none 0 0] := by
  have h1 : On w U := by rw [hU]; exact (On.refl hT).alloc _
  have h2 : VB w.heap.size U [.int .i64 0, .int .i64 0, .int .i64 0, .slice none 0 0] := by rw [hU]; exact vb_new _ _ _
  refine ⟨h1, h2, fun X hX => ⟨?_, ?_⟩⟩
  · exact (((((h1.trans hX).setCell (by simp) _).setCell (by simp) _).setCell (by simp) _).setCell (by simp) _)
  · exact (((((h2.on hX).set 0 _ (by simp)).set 1 _ (by simp)).set 2 _ (by simp)).set 3 _ (by simp))
set_option maxRecDepth 100000 in
set_option maxHeartbeats 2000000 in
theorem rbuild_arg (f : Int) (l : List Dg) (v : Value) (c : Int) (w : World) (hT : Tab w) (hR : DR w v l) (hno : validB f = false ∨ logI l.length < 0 ∨ c < 0 ∨ logI l.length < c) :
    Calls Tryd.prog 8 #[.int .i64 f, v, .int .i64 c] w fun e w' => e = .returned (.tuple #[zTree, .int .i64 1]) ∧ On w w' := by
  obtain ⟨a, cap, rfl⟩ := hR.shape
  have hl63 := hR.2.1
  obtain ⟨U, hU⟩ : ∃ U, U = w.alloc (.cells #[.int .i64 0, .int .i64 0, .int .i64 0, .slice none 0 0] 26) := ⟨_, rfl⟩
  obtain ⟨hO, hB, hX⟩ := rb_box w hT U hU
  have HO := Lib.hid hO; have HB := Lib.hid hB; have HX := Lib.hid hX
  have HU := Lib.hid hU
  have HDR := Lib.hid (hR.on hO)
  have HLG := Lib.hid (rlog_any l.length U (by omega))
  obtain ⟨Q, hQ⟩ : ∃ Q, Q = w.heap.size := ⟨_, rfl⟩
  have HQ := Lib.hid hQ
  rw [← hQ] at HB HX
  generalize l.length = n at *
  generalize logI n = lg at *
  clear hT hR hU hO hB hX hQ
  cases hv : validB f
  · have HV := Lib.hid hv
    clear hno hv
    obtain ⟨X, hX2⟩ : ∃ X, X = ((((U.setCell ⟨Q, 0, none⟩ (.int .i64 0)).setCell ⟨Q, 1, none⟩ (.int .i64 0)).setCell ⟨Q, 2, none⟩ (.int .i64 0)).setCell ⟨Q, 3, none⟩ (.slice none 0 0)) := ⟨_, rfl⟩
    have hxx := HX.out U (On.refl HO.out.tab)
    rw [← hX2] at hxx
    have HXX := Lib.hid hxx
    have HXE := Lib.hid hX2
    have r0 := (HB.out.on (On.refl HO.out.tab)).2.1 0 _ rfl
    have r1 := (HB.out.on (On.refl HO.out.tab)).2.1 1 _ rfl
    have r2 := (HB.out.on (On.refl HO.out.tab)).2.1 2 _ rfl
    have r3 := (HB.out.on (On.refl HO.out.tab)).2.1 3 _ rfl
    have g0 := (HB.out.on (On.refl HO.out.tab)).2.2 0
    have g1 := (HB.out.on (On.refl HO.out.tab)).2.2 1
    have g2 := (HB.out.on (On.refl HO.out.tab)).2.2 2
    have g3 := (HB.out.on (On.refl HO.out.tab)).2.2 3
    go_enter Tryd.func8, Tryd.ntmps8
    go_upto_region 1 with fail
    rw [← HQ.out, ← HU.out]
    go_wp2_with (first | (go_at_call 27; refine HLG.out.mono ?_; rintro e w2 ⟨rfl, he⟩; rw [← he]; clear he w2) | (go_at_call 28; refine (rvalid_any _ _).mono ?_; rintro e w2 ⟨rfl, he⟩; rw [← he, HV.out]; clear he w2) | fail)
    rw [← HXE.out]
    obtain ⟨p0, p1, p2, p3⟩ : (X.cell? ⟨Q, 0, none⟩ = some (.int .i64 0)) ∧ (X.cell? ⟨Q, 1, none⟩ = some (.int .i64 0)) ∧ (X.cell? ⟨Q, 2, none⟩ = some (.int .i64 0)) ∧ (X.cell? ⟨Q, 3, none⟩ = some (.slice none 0 0)) := ⟨HXX.out.2.2.1 0 _ rfl, HXX.out.2.2.1 1 _ rfl, HXX.out.2.2.1 2 _ rfl, HXX.out.2.2.1 3 _ rfl⟩
    refine bodyPost_ret (v := .tuple #[zTree, .int .i64 1]) (by simp [results, Tryd.results8, go_sem, p0, p1, p2, p3]; try rfl) rfl ?_
    exact ⟨rfl, HXX.out.1⟩
  have HV := Lib.hid hv
  rw [hv] at hno
  clear hv
  by_cases h1 : lg < 0
  · clear hno
    obtain ⟨X, hX2⟩ : ∃ X, X = ((((U.setCell ⟨Q, 0, none⟩ (.int .i64 0)).setCell ⟨Q, 1, none⟩ (.int .i64 0)).setCell ⟨Q, 2, none⟩ (.int .i64 0)).setCell ⟨Q, 3, none⟩ (.slice none 0 0)) := ⟨_, rfl⟩
    have hxx := HX.out U (On.refl HO.out.tab)
    rw [← hX2] at hxx
    have HXX := Lib.hid hxx
    have HXE := Lib.hid hX2
    have r0 := (HB.out.on (On.refl HO.out.tab)).2.1 0 _ rfl
    have r1 := (HB.out.on (On.refl HO.out.tab)).2.1 1 _ rfl
    have r2 := (HB.out.on (On.refl HO.out.tab)).2.1 2 _ rfl
    have r3 := (HB.out.on (On.refl HO.out.tab)).2.1 3 _ rfl
    have g0 := (HB.out.on (On.refl HO.out.tab)).2.2 0
    have g1 := (HB.out.on (On.refl HO.out.tab)).2.2 1
    have g2 := (HB.out.on (On.refl HO.out.tab)).2.2 2
    have g3 := (HB.out.on (On.refl HO.out.tab)).2.2 3
    go_enter Tryd.func8, Tryd.ntmps8
    go_upto_region 1 with fail
    rw [← HQ.out, ← HU.out]
    go_wp2_with (first | (go_at_call 27; refine HLG.out.mono ?_; rintro e w2 ⟨rfl, he⟩; rw [← he]; clear he w2) | (go_at_call 28; refine (rvalid_any _ _).mono ?_; rintro e w2 ⟨rfl, he⟩; rw [← he, HV.out]; clear he w2) | fail)
    rw [← HXE.out]
    obtain ⟨p0, p1, p2, p3⟩ : (X.cell? ⟨Q, 0, none⟩ = some (.int .i64 0)) ∧ (X.cell? ⟨Q, 1, none⟩ = some (.int .i64 0)) ∧ (X.cell? ⟨Q, 2, none⟩ = some (.int .i64 0)) ∧ (X.cell? ⟨Q, 3, none⟩ = some (.slice none 0 0)) := ⟨HXX.out.2.2.1 0 _ rfl, HXX.out.2.2.1 1 _ rfl, HXX.out.2.2.1 2 _ rfl, HXX.out.2.2.1 3 _ rfl⟩
    refine bodyPost_ret (v := .tuple #[zTree, .int .i64 1]) (by simp [results, Tryd.results8, go_sem, p0, p1, p2, p3]; try rfl) rfl ?_
    exact ⟨rfl, HXX.out.1⟩
  by_cases h2 : c < 0
  · clear hno
    obtain ⟨X, hX2⟩ : ∃ X, X = ((((U.setCell ⟨Q, 0, none⟩ (.int .i64 0)).setCell ⟨Q, 1, none⟩ (.int .i64 0)).setCell ⟨Q, 2, none⟩ (.int .i64 0)).setCell ⟨Q, 3, none⟩ (.slice none 0 0)) := ⟨_, rfl⟩
    have hxx := HX.out U (On.refl HO.out.tab)
    rw [← hX2] at hxx
    have HXX := Lib.hid hxx
    have HXE := Lib.hid hX2
    have r0 := (HB.out.on (On.refl HO.out.tab)).2.1 0 _ rfl
    have r1 := (HB.out.on (On.refl HO.out.tab)).2.1 1 _ rfl
    have r2 := (HB.out.on (On.refl HO.out.tab)).2.1 2 _ rfl
    have r3 := (HB.out.on (On.refl HO.out.tab)).2.1 3 _ rfl
    have g0 := (HB.out.on (On.refl HO.out.tab)).2.2 0
    have g1 := (HB.out.on (On.refl HO.out.tab)).2.2 1
    have g2 := (HB.out.on (On.refl HO.out.tab)).2.2 2
    have g3 := (HB.out.on (On.refl HO.out.tab)).2.2 3
    go_enter Tryd.func8, Tryd.ntmps8
    go_upto_region 1 with fail
    rw [← HQ.out, ← HU.out]
    go_wp2_with (first | (go_at_call 27; refine HLG.out.mono ?_; rintro e w2 ⟨rfl, he⟩; rw [← he]; clear he w2) | (go_at_call 28; refine (rvalid_any _ _).mono ?_; rintro e w2 ⟨rfl, he⟩; rw [← he, HV.out]; clear he w2) | fail)
    rw [← HXE.out]
    obtain ⟨p0, p1, p2, p3⟩ : (X.cell? ⟨Q, 0, none⟩ = some (.int .i64 0)) ∧ (X.cell? ⟨Q, 1, none⟩ = some (.int .i64 0)) ∧ (X.cell? ⟨Q, 2, none⟩ = some (.int .i64 0)) ∧ (X.cell? ⟨Q, 3, none⟩ = some (.slice none 0 0)) := ⟨HXX.out.2.2.1 0 _ rfl, HXX.out.2.2.1 1 _ rfl, HXX.out.2.2.1 2 _ rfl, HXX.out.2.2.1 3 _ rfl⟩
    refine bodyPost_ret (v := .tuple #[zTree, .int .i64 1]) (by simp [results, Tryd.results8, go_sem, p0, p1, p2, p3]; try rfl) rfl ?_
    exact ⟨rfl, HXX.out.1⟩
  have h3 : lg < c := by
    rcases hno with h | h | h | h
    · cases h
    · exact absurd h h1
    · exact absurd h h2
    · exact h
  · clear hno
    obtain ⟨X, hX2⟩ : ∃ X, X = ((((U.setCell ⟨Q, 0, none⟩ (.int .i64 0)).setCell ⟨Q, 1, none⟩ (.int .i64 0)).setCell ⟨Q, 2, none⟩ (.int .i64 0)).setCell ⟨Q, 3, none⟩ (.slice none 0 0)) := ⟨_, rfl⟩
    have hxx := HX.out U (On.refl HO.out.tab)
    rw [← hX2] at hxx
    have HXX := Lib.hid hxx
    have HXE := Lib.hid hX2
    have r0 := (HB.out.on (On.refl HO.out.tab)).2.1 0 _ rfl
    have r1 := (HB.out.on (On.refl HO.out.tab)).2.1 1 _ rfl
    have r2 := (HB.out.on (On.refl HO.out.tab)).2.1 2 _ rfl
    have r3 := (HB.out.on (On.refl HO.out.tab)).2.1 3 _ rfl
    have g0 := (HB.out.on (On.refl HO.out.tab)).2.2 0
    have g1 := (HB.out.on (On.refl HO.out.tab)).2.2 1
    have g2 := (HB.out.on (On.refl HO.out.tab)).2.2 2
    have g3 := (HB.out.on (On.refl HO.out.tab)).2.2 3
    go_enter Tryd.func8, Tryd.ntmps8
    go_upto_region 1 with fail
    rw [← HQ.out, ← HU.out]
    go_wp2_with (first | (go_at_call 27; refine HLG.out.mono ?_; rintro e w2 ⟨rfl, he⟩; rw [← he]; clear he w2) | (go_at_call 28; refine (rvalid_any _ _).mono ?_; rintro e w2 ⟨rfl, he⟩; rw [← he, HV.out]; clear he w2) | fail)
    rw [← HXE.out]
    obtain ⟨p0, p1, p2, p3⟩ : (X.cell? ⟨Q, 0, none⟩ = some (.int .i64 0)) ∧ (X.cell? ⟨Q, 1, none⟩ = some (.int .i64 0)) ∧ (X.cell? ⟨Q, 2, none⟩ = some (.int .i64 0)) ∧ (X.cell? ⟨Q, 3, none⟩ = some (.slice none 0 0)) := ⟨HXX.out.2.2.1 0 _ rfl, HXX.out.2.2.1 1 _ rfl, HXX.out.2.2.1 2 _ rfl, HXX.out.2.2.1 3 _ rfl⟩
    refine bodyPost_ret (v := .tuple #[zTree, .int .i64 1]) (by simp [results, Tryd.results8, go_sem, p0, p1, p2, p3]; try rfl) rfl ?_
    exact ⟨rfl, HXX.out.1⟩
set_option maxRecDepth 100000 in
set_option maxHeartbeats 2000000 in
theorem rbuild_range (f : Int) (l : List Dg) (v : Value) (c : Int) (w : World) (hT : Tab w) (hR : DR w v l) (hv : validB f = true) (hl0 : ¬ logI l.length < 0) (hc0 : ¬ c < 0) (hlc : ¬ logI l.length < c) (hno : okA f l = false) :
    Calls Tryd.prog 8 #[.int .i64 f, v, .int .i64 c] w fun e w' => e = .returned (.tuple #[zTree, .int .i64 2]) ∧ On w w' := by
  obtain ⟨a, cap, rfl⟩ := hR.shape
  have hl63 := hR.2.1
  obtain ⟨U, hU⟩ : ∃ U, U = w.alloc (.cells #[.int .i64 0, .int .i64 0, .int .i64 0, .slice none 0 0] 26) := ⟨_, rfl⟩
  obtain ⟨hO, hB, hX⟩ := rb_box w hT U hU
  have HO := Lib.hid hO; have HB := Lib.hid hB; have HX := Lib.hid hX
  have HU := Lib.hid hU
  have HDR := Lib.hid (hR.on hO)
  have HLG := Lib.hid (rlog_any l.length U (by omega))
  obtain ⟨Q, hQ⟩ : ∃ Q, Q = w.heap.size := ⟨_, rfl⟩
  have HQ := Lib.hid hQ
  rw [← hQ] at HB HX
  have HAL : Hid (Calls Tryd.prog 29 #[.int .i64 f, .slice a l.length cap] U fun e w' => e = .returned (.bool false) ∧ On U w') := by
    have h := rall_any f l _ U HO.out.tab HDR.out
    rw [hno] at h; exact h
  have HV := Lib.hid hv
  generalize l.length = n at *
  generalize logI n = lg at *
  clear hT hR hU hO hB hX hQ hno hv
  go_enter Tryd.func8, Tryd.ntmps8
  go_upto_region 1 with fail
  rw [← HQ.out, ← HU.out]
  go_wp2_with (first | (go_at_call 27; refine HLG.out.mono ?_; rintro e w2 ⟨rfl, he⟩; rw [← he]; clear he w2) | (go_at_call 28; refine (rvalid_any _ _).mono ?_; rintro e w2 ⟨rfl, he⟩; rw [← he, HV.out]; clear he w2) | (go_at_call 29; refine HAL.out.mono ?_; rintro e W9 ⟨rfl, hO9⟩; refine Hid.out ?_) | fail)
  refine Lib.hid ?_
  obtain ⟨X, hX2⟩ : ∃ X, X = ((((W9.setCell ⟨Q, 0, none⟩ (.int .i64 0)).setCell ⟨Q, 1, none⟩ (.int .i64 0)).setCell ⟨Q, 2, none⟩ (.int .i64 0)).setCell ⟨Q, 3, none⟩ (.slice none 0 0)) := ⟨_, rfl⟩
  have hxx := HX.out W9 hO9
  rw [← hX2] at hxx
  have HXX := Lib.hid hxx
  have HXE := Lib.hid hX2
  have r0 := (HB.out.on hO9).2.1 0 _ rfl
  have r1 := (HB.out.on hO9).2.1 1 _ rfl
  have r2 := (HB.out.on hO9).2.1 2 _ rfl
  have r3 := (HB.out.on hO9).2.1 3 _ rfl
  have g0 := (HB.out.on hO9).2.2 0
  have g1 := (HB.out.on hO9).2.2 1
  have g2 := (HB.out.on hO9).2.2 2
  have g3 := (HB.out.on hO9).2.2 3
  clear hO9
  go_wp2
  rw [← HXE.out]
  obtain ⟨p0, p1, p2, p3⟩ : (X.cell? ⟨Q, 0, none⟩ = some (.int .i64 0)) ∧ (X.cell? ⟨Q, 1, none⟩ = some (.int .i64 0)) ∧ (X.cell? ⟨Q, 2, none⟩ = some (.int .i64 0)) ∧ (X.cell? ⟨Q, 3, none⟩ = some (.slice none 0 0)) := ⟨HXX.out.2.2.1 0 _ rfl, HXX.out.2.2.1 1 _ rfl, HXX.out.2.2.1 2 _ rfl, HXX.out.2.2.1 3 _ rfl⟩
  refine bodyPost_ret (v := .tuple #[zTree, .int .i64 2]) (by simp [results, Tryd.results8, go_sem, p0, p1, p2, p3]; try rfl) rfl ?_
  exact ⟨rfl, HXX.out.1⟩
end Go.Proofs.YthepmahjpejmdaaDoor

/- Levels that grow beside their list: kept by the tags of their blocks. -/
namespace Go.Proofs.YthepmahjpejmdaaDoor
open Go.RowKit
set_option linter.unusedVariables false

theorem On.gbz {W w : World} (h : On W w) : W.grownBy w none := ⟨h.2.os, h.2.tape, h.2.output, h.2.size, fun i hi _ => h.2.block i hi⟩
/-- A level in a block of digests. -/
def DL (W : World) (B : Nat) (l : List Dg) : Prop := DB B W l ∧ ∃ cur fz, W.heap[B]? = some (.cells cur 36 fz)
theorem DL.kept {W w : World} {B : Nat} {l : List Dg} (h : DL W B l) (hs : W.heap.size ≤ w.heap.size) (hb : w.heap[B]? = W.heap[B]?) : DL w B l := ⟨h.1.kept hs hb, by rw [hb]; exact h.2⟩
theorem DL.on {W w : World} {B : Nat} {l : List Dg} (h : DL W B l) (k : On W w) : DL w B l := h.kept k.size (k.2.block B h.1.1)
theorem DL.gb {W w : World} {B : Nat} {l : List Dg} {row : Option Nat} (h : DL W B l) (k : W.grownBy w row) (hr : ∀ r, row = some r → ∀ cur fz, W.heap[r]? ≠ some (.cells cur 36 fz)) : DL w B l := by
  obtain ⟨cur, fz, hc⟩ := h.2
  exact h.kept k.size (k.block B h.1.1 (fun e => hr B e.symm cur fz hc))
theorem OD.dl {B : Nat} {w : World} {v : Value} {l : List Dg} (h : OD B w v l) (hl : 0 < l.length) : ∃ g c, v = .slice (some ⟨g, 0, none⟩) l.length c ∧ B ≤ g ∧ DL w g l := by
  obtain ⟨g, c, he, hb, hd⟩ := h.db hl
  refine ⟨g, c, he, hb, hd, ?_⟩
  have h2 := h
  unfold OD at h2
  rcases h2.2 with ⟨hv, h0⟩ | ⟨g', cap', cur, hv, hb', hg, _⟩
  · omega
  · rw [he] at hv
    simp only [Value.slice.injEq, Option.some.injEq, Addr.mk.injEq, and_true, true_and] at hv
    obtain ⟨rfl, _⟩ := hv
    exact ⟨_, _, hg⟩
/-- A grown list of levels. -/
def GR (n0 : Nat) (W : World) (v : Value) (m : Nat) (F : Nat → List Dg) : Prop :=
  ∃ Vs : List Value, W.ownsRow n0 22 1 v m Vs ∧ Vs.length = m ∧ ∀ j, j < m → ∃ B c, Vs[j]? = some (.slice (some ⟨B, 0, none⟩) (F j).length c) ∧ DL W B (F j)
theorem GR.nil (n0 : Nat) (W : World) (F : Nat → List Dg) : GR n0 W (.slice none 0 0) 0 F := ⟨[], World.ownsRow_nil _ _ _ _, rfl, fun j hj => absurd hj (Nat.not_lt_zero _)⟩
theorem GR.gb {n0 : Nat} {W w : World} {v : Value} {m : Nat} {F : Nat → List Dg} {row : Option Nat} (h : GR n0 W v m F) (k : W.grownBy w row) (hr : ∀ r, row = some r → ∃ o, W.heap[r]? = some o ∧ (∀ cur fz, o ≠ .cells cur 36 fz) ∧ ∀ cur fz, o ≠ .cells cur 22 fz) : GR n0 w v m F := by
  obtain ⟨Vs, h1, h2, h3⟩ := h
  refine ⟨Vs, h1.kept k ?_, h2, fun j hj => ?_⟩
  · rcases h1.2 with ⟨hv, _⟩ | ⟨g, cap, cur, hv, hb, hg, _⟩
    · left; rw [hv]; rfl
    · right; intro e
      rw [hv] at e
      obtain ⟨o, ho, _, ho2⟩ := hr g e.symm
      rw [hg] at ho
      exact ho2 _ _ (Option.some.inj ho).symm
  · obtain ⟨B, c, e1, e2⟩ := h3 j hj
    exact ⟨B, c, e1, e2.gb k (fun r hrr cur fz e => by
      obtain ⟨o, ho, ho1, _⟩ := hr r hrr
      rw [e] at ho
      exact ho1 _ _ (Option.some.inj ho).symm)⟩
theorem GR.on {n0 : Nat} {W w : World} {v : Value} {m : Nat} {F : Nat → List Dg} (h : GR n0 W v m F) (k : On W w) : GR n0 w v m F := h.gb k.gbz (fun r e => by cases e)
theorem GR.shape {n0 : Nat} {W : World} {v : Value} {m : Nat} {F : Nat → List Dg} (h : GR n0 W v m F) : ∃ a cap, v = .slice a m cap := by
  obtain ⟨Vs, h1, h2, _⟩ := h
  rcases h1.2 with ⟨hv, h0⟩ | ⟨g, cap, cur, hv, _⟩
  · exact ⟨none, 0, by rw [hv, h0]⟩
  · exact ⟨_, _, hv⟩
theorem GR.step {w W : World} {v : Value} {m : Nat} {F : Nat → List Dg} (hO : On w W) (h : GR w.heap.size W v m F) (hm : m ≤ 1000) (B c : Nat) (hD : DL W B (F m)) :
    ∃ v' w', (∀ ty, (Builtin.append_ #[24, 24] ty #[v, .slice (some ⟨W.heap.size, 0, none⟩) 1 1]).run Tryd.prog (W.alloc (.cells #[.slice (some ⟨B, 0, none⟩) (F m).length c] 22)) = .ok v' w') ∧ GR w.heap.size w' v' (m + 1) F ∧ On w w' ∧ W.heap.size ≤ w'.heap.size ∧
      ∀ (k : Nat) (o : Obj), W.heap[k]? = some o → (∀ cur fz, o ≠ .cells cur 22 fz) → w'.heap[k]? = some o := by
  obtain ⟨Vs, h1, h2, h3⟩ := h
  obtain ⟨v', w', hrun, ho, hg⟩ := append_hdr h1 h2 hO.size hm (some ⟨B, 0, none⟩) (F m).length c W.heap.size rfl
  have htag : ∀ r, v.ownBlock = some r → ∃ cur fz, W.heap[r]? = some (.cells cur 22 fz) := fun r e => by
    rcases h1.2 with ⟨hv, _⟩ | ⟨g, cap, cur, hv, hb, hgg, _⟩
    · rw [hv] at e; simp [Value.ownBlock] at e
    · rw [hv] at e; simp only [Value.ownBlock, Option.some.injEq] at e; subst e; exact ⟨_, _, hgg⟩
  have hr : ∀ r, v.ownBlock = some r → ∀ cur fz, W.heap[r]? ≠ some (.cells cur 36 fz) := fun r e cur fz e2 => by
    obtain ⟨cur', fz', e3⟩ := htag r e
    rw [e2] at e3
    simp at e3
  refine ⟨v', w', hrun, ⟨_, ho, by simp [h2], fun j hj => ?_⟩, ⟨hO.1, hO.2.grown hg hO.size (fun r e => ?_)⟩, hg.size, fun k o hk hne => ?_⟩
  · by_cases e : j = m
    · subst e
      exact ⟨B, c, by rw [List.getElem?_append_right (by omega), h2, Nat.sub_self]; rfl, hD.gb hg hr⟩
    · obtain ⟨B', c', e1, e2⟩ := h3 j (by omega)
      exact ⟨B', c', by rw [List.getElem?_append_left (by omega)]; exact e1, e2.gb hg hr⟩
  · exact (h1.lt r e).1
  · rw [hg.block k (Array.getElem?_eq_some_iff.1 hk).1 (fun e => ?_)]
    · exact hk
    · obtain ⟨cur', fz', e3⟩ := htag k e.symm
      rw [hk] at e3
      exact hne _ _ (Option.some.inj e3)
theorem GR.tr {n0 : Nat} {W : World} {v : Value} {m : Nat} {F : Nat → List Dg} (h : GR n0 W v m F) (hm : m ≤ 1000000) (hU : ∀ j, j < m → (∀ t, SmD ((F j).getD t zD)) ∧ (F j).length ≤ 1000000) : TR W v m F := by
  obtain ⟨Vs, h1, h2, h3⟩ := h
  rcases h1.2 with ⟨hv, h0⟩ | ⟨g, cap, cur, hv, _⟩
  · subst h0
    exact ⟨none, 0, hv, by omega, fun j hj => absurd hj (Nat.not_lt_zero _)⟩
  · refine ⟨_, cap, hv, by omega, fun j hj => ?_⟩
    obtain ⟨B, c, e1, e2⟩ := h3 j hj
    have hc := h1.cells (g := g) (by rw [hv]; rfl) _ _ e1
    rw [add_plain] at hc
    exact ⟨g, 0, _, rfl, hc, e2.1.reads (fun t _ => (hU j hj).1 t) (by have := (hU j hj).2; omega) c⟩
end Go.Proofs.YthepmahjpejmdaaDoor

/- The document's Build: the good case. -/
namespace Go.Proofs.YthepmahjpejmdaaDoor
open Go.RowKit
set_option linter.unusedVariables false

/-- What lies in memory between two levels. -/
structure BS (w1 : World) (T : Nat) (f K c : Int) (F : Nat → List Dg) (m : Nat) (W : World) (B : Nat) (l : List Dg) : Prop where
  on : On w1 W
  lt : w1.heap.size ≤ T
  row : ∃ a cap, TBox T W f K c (.slice a m cap) ∧ GR w1.heap.size W (.slice a m cap) m F
  lev : DL W B l
theorem BS.step {w1 W : World} {T : Nat} {f K c : Int} {F : Nat → List Dg} {m B cc : Nat} (h : BS w1 T f K c F m W B (F m)) (hm : m ≤ 100) :
    ∃ a cap a' cap' w', W.cell? ⟨T, 3, none⟩ = some (.slice a m cap) ∧ (∀ ty, (Builtin.append_ #[24, 24] ty #[.slice a m cap, .slice (some ⟨W.heap.size, 0, none⟩) 1 1]).run Tryd.prog (W.alloc (.cells #[.slice (some ⟨B, 0, none⟩) (F m).length cc] 22)) = .ok (.slice a' (m + 1) cap') w') ∧
      w'.cell? ⟨T, 3, none⟩ = some (.slice a m cap) ∧ w'.frozen? ⟨T, 3, none⟩ = false ∧ BS w1 T f K c F (m + 1) (w'.setCell ⟨T, 3, none⟩ (.slice a' (m + 1) cap')) B (F m) := by
  obtain ⟨h1, h2, ⟨a, cap, h3, h4⟩, h5⟩ := h
  obtain ⟨v', w', hrun, hg, hO, hs, hk⟩ := GR.step h1 h4 (by omega) B cc h5
  obtain ⟨a', cap', rfl⟩ := hg.shape
  have hT : TBox T w' f K c (.slice a m cap) := hk T _ h3 (fun cur fz e => by simp at e)
  have hl : DL w' B (F m) := by
    obtain ⟨cur, fz, e⟩ := h5.2
    exact h5.kept hs ((hk B _ e (fun cur fz e => by simp at e)).trans e.symm)
  have hgb : w'.grownBy (w'.setCell ⟨T, 3, none⟩ (.slice a' (m + 1) cap')) (some T) := ⟨rfl, rfl, rfl, by simp [World.setCell], fun k _ hk2 => Below.heap_setCell _ _ _ _ (fun e => hk2 (by rw [e]))⟩
  refine ⟨a, cap, a', cap', w', h3.cells.2.2.2, hrun, hT.cells.2.2.2, hT.free 3, hO.setCell (by simpa using h2) _, h2, ⟨a', cap', hT.set _, hg.gb hgb (fun r e => ?_)⟩, hl.gb hgb (fun r e cur fz e2 => ?_)⟩
  · cases e
    exact ⟨_, hT, fun cur fz e => by simp at e, fun cur fz e => by simp at e⟩
  · cases e
    rw [show w'.heap[T]? = _ from hT] at e2
    simp at e2
def slLen : Value → Nat
  | .slice _ n _ => n
  | _ => 0
theorem okA_sm2 {f : Int} {l : List Dg} (h : okA f l = true) (t : Nat) : SmD (l.getD t zD) := by
  rcases Nat.lt_or_ge t l.length with ht | ht
  · exact okD_sm (okA_get h t ht)
  · rw [List.getD_eq_getElem?_getD, List.getElem?_eq_none ht]; exact ⟨Nat.zero_le _, Nat.zero_le _⟩
theorem upD_snoc (f : Int) (l : List Dg) (t : Nat) (h : t < l.length / 2) : (upD f l).take (t + 1) = (upD f l).take t ++ [nodeF f (l.getD (2 * t) zD) (l.getD (2 * t + 1) zD)] := by
  have hl : t < (upD f l).length := by rw [upD_len]; exact h
  rw [List.take_succ_eq_append_getElem hl]
  have h2 := upD_get f l t h
  rw [List.getD_eq_getElem?_getD, List.getElem?_eq_getElem hl] at h2
  rw [← h2]; rfl
set_option maxRecDepth 100000 in
set_option maxHeartbeats 4000000 in
theorem rbuild_yes (f : Int) (l : List Dg) (v : Value) (K c : Nat) (w : World) (hT : Tab w) (hv : validB f = true) (hK : K ≤ 18) (hlen : l.length = 2 ^ K) (hc : c ≤ K) (hok : okA f l = true) (hR : DR w v l) :
    Calls Tryd.prog 8 #[.int .i64 f, v, .int .i64 (c : Int)] w fun e w' => (∃ v', e = .returned (.tuple #[trV f K c v', .int .i64 0]) ∧ TR w' v' (K - c + 1) (lvl f l)) ∧ On w w' := by
  obtain ⟨a, cap, rfl⟩ := hR.shape
  obtain ⟨U, hU⟩ : ∃ U, U = w.alloc (.cells #[.int .i64 0, .int .i64 0, .int .i64 0, .slice none 0 0] 26) := ⟨_, rfl⟩
  obtain ⟨hO, hB, -⟩ := rb_box w hT U hU
  have HO := Lib.hid hO; have HB := Lib.hid hB
  have HU := Lib.hid hU
  have HDR := Lib.hid (hR.on hO)
  have HLG : Hid (Calls Tryd.prog 27 #[.int .i64 (l.length : Int)] U fun e w' => e = .returned (.int .i64 (K : Int)) ∧ U = w') := by
    have h := rlog_any l.length U (by rw [hlen]; have := pow18 hK; omega)
    rw [show logI l.length = (K : Int) by rw [hlen]; exact logI_pow K hK] at h
    exact h
  have HAL : Hid (Calls Tryd.prog 29 #[.int .i64 f, .slice a l.length cap] U fun e w' => e = .returned (.bool true) ∧ On U w') := by
    have h := rall_any f l _ U HO.out.tab HDR.out
    rw [hok] at h; exact h
  have HV := Lib.hid hv
  obtain ⟨Q, hQ⟩ : ∃ Q, Q = w.heap.size := ⟨_, rfl⟩
  have HQ := Lib.hid hQ
  rw [← hQ] at HB
  have HLEN := Lib.hid hlen
  have HOK := Lib.hid hok
  have HSM : Hid (∀ j t, SmD ((lvl f l j).getD t zD)) := fun j t => okA_sm2 (lvl_ok hv hok j) t
  have e0 : decide ((K : Int) < 0) = false := decide_eq_false (by omega)
  have e2 : decide ((c : Int) < 0) = false := decide_eq_false (by omega)
  have l0 : ¬ (K : Int) < 0 := by omega
  have l2 : ¬ (c : Int) < 0 := by omega
  have l3 : ¬ (K : Int) < (c : Int) := by omega
  have hn18 : l.length ≤ 262144 := by rw [hlen]; exact pow18 hK
  have hn0 : 0 < l.length := by rw [hlen]; exact Nat.pow_pos (by omega)
  clear hT hR hU hO hB hQ hv hok hlen
  go_enter Tryd.func8, Tryd.ntmps8
  go_upto_region 1 with fail
  rw [← HQ.out, ← HU.out]
  go_wp2_with (first | (go_at_call 27; refine HLG.out.mono ?_; rintro e w2 ⟨rfl, he⟩; rw [← he]; clear he w2) | (go_at_call 28; refine (rvalid_any _ _).mono ?_; rintro e w2 ⟨rfl, he⟩; rw [← he, HV.out]; clear he w2) | (go_at_call 29; refine HAL.out.mono ?_; rintro e w1 ⟨rfl, hO1⟩; refine Hid.out ?_) | fail)
  refine Lib.hid ?_
  clear HLG HAL
  obtain ⟨W2, hW2⟩ : ∃ W2, W2 = w1.alloc (.cells #[.int .i64 f, .int .i64 (K : Int), .int .i64 (c : Int), .slice none 0 0] 26) := ⟨_, rfl⟩
  obtain ⟨T, hT⟩ : ∃ T, T = w1.heap.size := ⟨_, rfl⟩
  have hO12 : On w1 W2 := by rw [hW2]; exact (On.refl hO1.tab).alloc _
  have hTB : TBox T W2 f K c (.slice none 0 0) := by rw [hT, hW2]; exact TBox.new w1 f K c (.slice none 0 0)
  obtain ⟨v0, W3, hr0, ho0, hg0⟩ := append_dgs ((HDR.out.on hO1).on hO12) (OD.nil W2.heap.size W2) (Nat.le_refl _) (by simp only [List.length_nil]; omega)
  rw [List.nil_append] at ho0
  have hO23 : On W2 W3 := OD.grown (On.refl hO12.tab) (Nat.le_refl _) (OD.nil W2.heap.size W2) hg0
  obtain ⟨B0, c0, rfl, -, hD0⟩ := ho0.dl hn0
  have hBS : BS w1 T f K c (lvl f l) 0 W3 B0 (lvl f l 0) := ⟨hO12.trans hO23, by rw [hT]; exact Nat.le_refl _, ⟨none, 0, hTB.on hO23, GR.nil _ _ _⟩, hD0⟩
  obtain ⟨ax, capx, a1, cap1, W4, hc3, hr4, hc4, hf4, hBS4⟩ := hBS.step (cc := c0) (by omega)
  have HR0 := Lib.hid hr0; have HR4 := Lib.hid hr4
  have HBS4 := Lib.hid hBS4
  have HW2 := Lib.hid hW2; have HT := Lib.hid hT
  have HO1 := Lib.hid hO1
  clear hr0 ho0 hg0 hO12 hTB hO23 hD0 hBS hr4 hBS4 hW2 hT hO1
  go_upto_region 7 with fail
  rw [← HT.out, ← HW2.out]
  obtain ⟨W5, hW5⟩ : ∃ W5, W5 = W4.setCell ⟨T, 3, none⟩ (.slice a1 (0 + 1) cap1) := ⟨_, rfl⟩
  have HBS5 : Hid (BS w1 T f K c (lvl f l) (0 + 1) W5 B0 (lvl f l 0)) := by rw [hW5]; exact HBS4.out
  have HW5 := Lib.hid hW5
  clear hW5 HBS4
  go_wp2_with (at_builtin; first | refine wp_append2 rfl (.tmp 42) (.tmp 43) _ _ rfl _ _ _ rfl rfl HR0.out ?_ | refine wp_append2 rfl (.tmp 46) (.tmp 48) _ _ rfl _ _ _ rfl rfl HR4.out ?_)
  rw [← HW5.out]
  clear hc3 hc4 hf4 HR0 HR4
  obtain ⟨pc, hpc⟩ : ∃ pc, pc = 2 ^ c := ⟨_, rfl⟩
  have hpc18 : pc ≤ 262144 := by rw [hpc]; exact pow18 (by omega)
  have hsh := shl_nat c pc (by omega) hpc
  have hsh2 : IntKind.i64.wrap ((2 : Int) ^ c) = (pc : Int) := by
    have h2 : ((2 : Int) ^ c) = (pc : Int) := by rw [hpc]; simp
    rw [h2]; exact IntWalk.i64_in _ (by omega)
  have HPC := Lib.hid hpc
  clear hpc
  go_loopw [10] (fun vs wr => ∃ j : Nat, j ≤ K - c ∧ ∃ B cc q, vs = .slice (some ⟨B, 0, none⟩) q cc ∧ Hid (q = (lvl f l j).length) ∧ Hid (BS w1 T f K c (lvl f l) (j + 1) wr B (lvl f l j))) (fun vs _ => slLen vs)
  case atStart => exact ⟨0, Nat.zero_le _, B0, c0, l.length, rfl, Lib.hid rfl, HBS5⟩
  case round =>
    rename World => wr
    obtain ⟨j, hj, B, cc, q, rfl, HQL, HBS⟩ := hrel
    have hq : q = 2 ^ (K - j) := by rw [HQL.out]; exact lvl_len f l K HLEN.out j (by omega)
    have hq18 : q ≤ 262144 := by rw [hq]; exact pow18 (by omega)
    by_cases hlt : j < K - c
    · have hqe : q = 2 * 2 ^ (K - j - 1) := by rw [hq, show K - j = (K - j - 1) + 1 by omega, Nat.pow_succ]; simp; omega
      have hgt : (pc : Int) < (q : Int) := by
        rw [HPC.out, hq]
        have := Nat.pow_lt_pow_right (show 1 < 2 by omega) (show c < K - j by omega)
        omega
      obtain ⟨h, hh⟩ : ∃ h, h = 2 ^ (K - j - 1) := ⟨_, rfl⟩
      rw [← hh] at hqe
      have hh0 : 0 < h := by rw [hh]; exact Nat.pow_pos (by omega)
      have HCL := Lib.hid HBS.out.lev.1.2.1
      have hql := HQL.out
      have HUS := Lib.hid (fun t (ht : t < h) => upD_snoc f (lvl f l j) t (by rw [← hql]; omega))
      have HTW := HBS.out.on.tab
      have HND := Lib.hid (fun (x y : Dg) (hx : SmD x) (hy : SmD y) (wx : World) (hT : Tab wx) => rnode_dg f x y wx hT hx hy)
      have HUL : Hid ((upD f (lvl f l j)).length = h) := by unfold Hid; rw [upD_len, ← hql]; omega
      have HTAB := Lib.hid HTW
      have HQE := Lib.hid hqe
      clear hq hh hql HTW hqe
      go_upto_region 12 with fail
      go_wp2_with fail
      go_loopw [11, 12] (fun vu vi wq => ∃ t i : Nat, t ≤ h ∧ vi = .int .i64 (i : Int) ∧ Hid (i = 2 * t) ∧ Hid (OD wr.heap.size wq vu ((upD f (lvl f l j)).take t)) ∧ Hid (On wr wq)) (fun _ vi _ => q - (intOf vi).toNat)
      case atStart => exact ⟨0, 0, Nat.zero_le _, rfl, Lib.hid rfl, Lib.hid (by rw [List.take_zero]; exact OD.nil _ _), Lib.hid (On.refl HTAB.out)⟩
      case round =>
        rename World => wq
        obtain ⟨t, i, ht, rfl, HIT, HOD, HQ2⟩ := hrel
        by_cases htt : t < h
        · have hit := HIT.out
          have hqq := HQE.out
          obtain ⟨i2, hi2e⟩ : ∃ i2, i2 = i + 1 := ⟨_, rfl⟩
          have hi1 : (i : Int) < (q : Int) := by omega
          have hi2 : (i2 : Int) < (q : Int) := by omega
          have hi3 : (i : Int) + 1 = (i2 : Int) := by omega
          obtain ⟨x0, x1⟩ := HCL.out (2 * t) (by rw [← HQL.out]; omega)
          obtain ⟨y0, y1⟩ := HCL.out (2 * t + 1) (by rw [← HQL.out]; omega)
          rw [← hit] at x0 x1 y0 y1
          rw [← hi2e] at y0 y1
          have HI2 := Lib.hid hi2e
          have hi12 : i ≤ 300000 ∧ i2 ≤ 300000 := by omega
          have hwi2 : IntKind.i64.wrap (i2 : Int) = (i2 : Int) := IntWalk.i64_in _ (by omega)
          have hsx := HSM.out j (2 * t)
          have hsy := HSM.out j (2 * t + 1)
          have HSN := Lib.hid (HUS.out t htt)
          have HTL : Hid (((upD f (lvl f l j)).take t).length ≤ 300000) := by unfold Hid; rw [List.length_take]; omega
          rw [← hit] at hsx hsy HSN
          rw [← hi2e] at hsy HSN
          obtain ⟨x, hx⟩ : ∃ x, x = (lvl f l j).getD i zD := ⟨_, rfl⟩
          obtain ⟨y, hy⟩ : ∃ y, y = (lvl f l j).getD i2 zD := ⟨_, rfl⟩
          rw [← hx] at x0 x1 hsx HSN
          rw [← hy] at y0 y1 hsy HSN
          clear hx hy hit hqq hi2e
          have HND := Lib.hid (fun (wx : World) (hT : Tab wx) => HND.out x y hsx hsy wx hT)
          have HQ := HQ2
          go_wp2
          refine region_head_tail (S := fun wx => On wr wx) 14 (by kernel_rfl) (by kernel_rfl) ?_
          obtain ⟨V0, hV0⟩ : ∃ V0, V0 = wq.drew := ⟨_, rfl⟩
          have hSd : On wr V0 := by rw [hV0]; exact HQ.out.drew
          have hCd : On wq V0 := by rw [hV0]; exact (On.refl HQ.out.tab).drew
          rw [← hV0]
          clear hV0
          refine HeadG.take (i := 0) (v := ?hev1z0) rfl (by kernel_rfl) (by kernel_rfl) (by kernel_rfl) (by kernel_rfl) (by kernel_rfl) (by kernel_rfl) (by kernel_rfl) (fun _ _ _ h => h) (Or.inl ⟨by kernel_rfl, ?hey1z0⟩) hSd ?her1z0
          case hey1z0 => (intro w' hSw; skip; go_simp; try with_reducible rfl)
          try simp only [Act.put, List.setIfInBounds_toArray, List.set_cons_zero, List.set_cons_succ, List.getElem_toArray, List.getElem_cons_zero, List.getElem_cons_succ]
          refine HeadG.take (i := 1) (v := ?hev2z1) rfl (by kernel_rfl) (by kernel_rfl) (by kernel_rfl) (by kernel_rfl) (by kernel_rfl) (by kernel_rfl) (by kernel_rfl) (fun _ _ _ h => h) (Or.inl ⟨by kernel_rfl, ?hey2z1⟩) hSd ?her2z1
          case hey2z1 => (intro w' hSw; skip; go_simp; try with_reducible rfl)
          try simp only [Act.put, List.setIfInBounds_toArray, List.set_cons_zero, List.set_cons_succ, List.getElem_toArray, List.getElem_cons_zero, List.getElem_cons_succ]
          refine HeadG.take (i := 2) (v := ?hev3z2) rfl (by kernel_rfl) (by kernel_rfl) (by kernel_rfl) (by kernel_rfl) (by kernel_rfl) (by kernel_rfl) (by kernel_rfl) (fun _ _ _ h => h) (Or.inl ⟨by kernel_rfl, ?hey3z2⟩) hSd ?her3z2
          case hey3z2 => (intro w' hSw; skip; go_simp; try with_reducible rfl)
          try simp only [Act.put, List.setIfInBounds_toArray, List.set_cons_zero, List.set_cons_succ, List.getElem_toArray, List.getElem_cons_zero, List.getElem_cons_succ]
          refine HeadG.take (i := 3) (v := ?hev4z3) rfl (by kernel_rfl) (by kernel_rfl) (by kernel_rfl) (by kernel_rfl) (by kernel_rfl) (by kernel_rfl) (by kernel_rfl) (fun _ _ _ h => h) (Or.inl ⟨by kernel_rfl, ?hey4z3⟩) hSd ?her4z3
          case hey4z3 => (intro w' hSw; skip; go_simp; try with_reducible rfl)
          try simp only [Act.put, List.setIfInBounds_toArray, List.set_cons_zero, List.set_cons_succ, List.getElem_toArray, List.getElem_cons_zero, List.getElem_cons_succ]
          refine HeadG.take (i := 4) (v := ?hev5z4) rfl (by kernel_rfl) (by kernel_rfl) (by kernel_rfl) (by kernel_rfl) (by kernel_rfl) (by kernel_rfl) (by kernel_rfl) (fun _ _ _ h => h) (Or.inl ⟨by kernel_rfl, ?hey5z4⟩) hSd ?her5z4
          case hey5z4 => (intro w' hSw; skip; go_simp; try with_reducible rfl)
          try simp only [Act.put, List.setIfInBounds_toArray, List.set_cons_zero, List.set_cons_succ, List.getElem_toArray, List.getElem_cons_zero, List.getElem_cons_succ]
          refine HeadG.take (i := 5) (v := ?hev6z5) rfl (by kernel_rfl) (by kernel_rfl) (by kernel_rfl) (by kernel_rfl) (by kernel_rfl) (by kernel_rfl) (by kernel_rfl) (fun _ _ _ h => h) (Or.inl ⟨by kernel_rfl, ?hey6z5⟩) hSd ?her6z5
          case hey6z5 => (intro w' hSw; have k0 := (hSw.cell (p := ⟨B, i * 2, none⟩) (cell_size x0)).trans x0; have k1 := (hSw.cell (p := ⟨B, i * 2 + 1, none⟩) (cell_size x1)).trans x1; have k2 := (hSw.cell (p := ⟨B, i2 * 2, none⟩) (cell_size y0)).trans y0; have k3 := (hSw.cell (p := ⟨B, i2 * 2 + 1, none⟩) (cell_size y1)).trans y1; go_simp; try with_reducible rfl)
          try simp only [Act.put, List.setIfInBounds_toArray, List.set_cons_zero, List.set_cons_succ, List.getElem_toArray, List.getElem_cons_zero, List.getElem_cons_succ]
          refine HeadG.take (i := 6) (v := ?hev7z6) rfl (by kernel_rfl) (by kernel_rfl) (by kernel_rfl) (by kernel_rfl) (by kernel_rfl) (by kernel_rfl) (by kernel_rfl) (fun _ _ _ h => h) (Or.inl ⟨by kernel_rfl, ?hey7z6⟩) hSd ?her7z6
          case hey7z6 => (intro w' hSw; skip; go_simp; try with_reducible rfl)
          try simp only [Act.put, List.setIfInBounds_toArray, List.set_cons_zero, List.set_cons_succ, List.getElem_toArray, List.getElem_cons_zero, List.getElem_cons_succ]
          refine HeadG.take (i := 7) (v := ?hev8z7) rfl (by kernel_rfl) (by kernel_rfl) (by kernel_rfl) (by kernel_rfl) (by kernel_rfl) (by kernel_rfl) (by kernel_rfl) (fun _ _ _ h => h) (Or.inl ⟨by kernel_rfl, ?hey8z7⟩) hSd ?her8z7
          case hey8z7 => (intro w' hSw; skip; go_simp; try with_reducible rfl)
          try simp only [Act.put, List.setIfInBounds_toArray, List.set_cons_zero, List.set_cons_succ, List.getElem_toArray, List.getElem_cons_zero, List.getElem_cons_succ]
          refine HeadG.take (i := 8) (v := ?hev9z8) rfl (by kernel_rfl) (by kernel_rfl) (by kernel_rfl) (by kernel_rfl) (by kernel_rfl) (by kernel_rfl) (by kernel_rfl) (fun _ _ _ h => h) (Or.inl ⟨by kernel_rfl, ?hey9z8⟩) hSd ?her9z8
          case hey9z8 => (intro w' hSw; have k0 := (hSw.cell (p := ⟨B, i * 2, none⟩) (cell_size x0)).trans x0; have k1 := (hSw.cell (p := ⟨B, i * 2 + 1, none⟩) (cell_size x1)).trans x1; have k2 := (hSw.cell (p := ⟨B, i2 * 2, none⟩) (cell_size y0)).trans y0; have k3 := (hSw.cell (p := ⟨B, i2 * 2 + 1, none⟩) (cell_size y1)).trans y1; go_simp; try with_reducible rfl)
          try simp only [Act.put, List.setIfInBounds_toArray, List.set_cons_zero, List.set_cons_succ, List.getElem_toArray, List.getElem_cons_zero, List.getElem_cons_succ]
          refine HeadG.take (i := 9) (v := ?hev10z9) rfl (by kernel_rfl) (by kernel_rfl) (by kernel_rfl) (by kernel_rfl) (by kernel_rfl) (by kernel_rfl) (by kernel_rfl) (fun _ _ _ h => h) (Or.inl ⟨by kernel_rfl, ?hey10z9⟩) hSd ?her10z9
          case hey10z9 => (intro w' hSw; have k0 := (hSw.cell (p := ⟨B, i * 2, none⟩) (cell_size x0)).trans x0; have k1 := (hSw.cell (p := ⟨B, i * 2 + 1, none⟩) (cell_size x1)).trans x1; have k2 := (hSw.cell (p := ⟨B, i2 * 2, none⟩) (cell_size y0)).trans y0; have k3 := (hSw.cell (p := ⟨B, i2 * 2 + 1, none⟩) (cell_size y1)).trans y1; go_simp; try with_reducible rfl)
          try simp only [Act.put, List.setIfInBounds_toArray, List.set_cons_zero, List.set_cons_succ, List.getElem_toArray, List.getElem_cons_zero, List.getElem_cons_succ]
          refine HeadG.take (i := 10) (v := ?hev11z10) rfl (by kernel_rfl) (by kernel_rfl) (by kernel_rfl) (by kernel_rfl) (by kernel_rfl) (by kernel_rfl) (by kernel_rfl) (fun _ _ _ h => h) (Or.inl ⟨by kernel_rfl, ?hey11z10⟩) hSd ?her11z10
          case hey11z10 => (intro w' hSw; have k0 := (hSw.cell (p := ⟨B, i * 2, none⟩) (cell_size x0)).trans x0; have k1 := (hSw.cell (p := ⟨B, i * 2 + 1, none⟩) (cell_size x1)).trans x1; have k2 := (hSw.cell (p := ⟨B, i2 * 2, none⟩) (cell_size y0)).trans y0; have k3 := (hSw.cell (p := ⟨B, i2 * 2 + 1, none⟩) (cell_size y1)).trans y1; go_simp; try with_reducible rfl)
          try simp only [Act.put, List.setIfInBounds_toArray, List.set_cons_zero, List.set_cons_succ, List.getElem_toArray, List.getElem_cons_zero, List.getElem_cons_succ]
          refine HeadG.one (i := 11) rfl (by kernel_rfl) (by kernel_rfl) (fun K9 hK9 => ?_)
          go_simp
          go_at_call 30
          with_reducible refine (HND.out V0 hSd.tab).mono ?_
          rintro e wm ⟨rfl, hm⟩
          have hSm := hSd.trans hm
          have hCm := hCd.trans hm
          clear hm
          refine hK9.out _ _ hSm ?_
          clear hK9 K9
          try simp only [Act.put, List.setIfInBounds_toArray, List.set_cons_zero, List.set_cons_succ, List.getElem_toArray, List.getElem_cons_zero, List.getElem_cons_succ]
          have hodm := HOD.out.gb hCm
          obtain ⟨v5, w5, hr5, ho5, hg5⟩ := append_dg (wa := wm.alloc (Obj.cells #[.int .u64 (((nodeF f x y).1 : Nat) : Int), .int .u64 (((nodeF f x y).2 : Nat) : Int)] 36)) (nodeF f x y) wm.heap.size (World.cell?_alloc_at _ _ wm.heap.size 0 rfl) (World.cell?_alloc_at _ _ wm.heap.size 1 rfl) (hodm.gb ((On.refl hSm.tab).alloc _)) (by simp; have := hSm.size; omega) (by have := HTL.out; omega)
          have hS5 : On wr w5 := OD.grown (hSm.alloc _) (Nat.le_refl _) (hodm.gb ((On.refl hSm.tab).alloc _)) hg5
          rw [← HSN.out] at ho5
          have R5 := Lib.hid hr5
          have HO5 := Lib.hid ho5
          clear hodm hr5 ho5 hg5
          refine HeadG.one (i := 12) rfl (by kernel_rfl) (by kernel_rfl) (fun K9 hK9 => ?_)
          go_simp
          refine hK9.out _ _ (hSm.alloc _) ?_
          clear hK9 K9
          try simp only [Act.put, List.setIfInBounds_toArray, List.set_cons_zero, List.set_cons_succ, List.getElem_toArray, List.getElem_cons_zero, List.getElem_cons_succ]
          refine HeadG.one (i := 13) rfl (by kernel_rfl) (by kernel_rfl) (fun K9 hK9 => ?_)
          refine step_append_z rfl (.tmp 62) (.tmp 74) _ _ rfl _ _ _ rfl rfl R5.out ?_
          refine hK9.out _ _ hS5 ?_
          clear hK9 K9
          try simp only [Act.put, List.setIfInBounds_toArray, List.set_cons_zero, List.set_cons_succ, List.getElem_toArray, List.getElem_cons_zero, List.getElem_cons_succ]
          refine HeadG.last (i := 14) rfl (by kernel_rfl) (by kernel_rfl) (by kernel_rfl) (fun K9 hK9 => ?_)
          go_simp
          refine hK9.out _ _ ?_
          clear hK9 K9
          try simp only [Act.put, List.setIfInBounds_toArray, List.set_cons_zero, List.set_cons_succ, List.getElem_toArray, List.getElem_cons_zero, List.getElem_cons_succ]
          have HS5 := Lib.hid hS5
          clear hSd hCd hSm hCm hS5
          go_wp2
          go_roundw
          case rel => exact ⟨t + 1, i + 2, by omega, by simp, Lib.hid (by rw [HIT.out]; omega), HO5, HS5⟩
          case measure => simp [intOf]; omega
        · obtain rfl : t = h := by omega
          have hod := HOD.out
          rw [List.take_of_length_le (Nat.le_of_eq HUL.out)] at hod
          obtain ⟨g, c1, he1, -, hdl⟩ := hod.dl (by rw [HUL.out]; exact hh0)
          rw [HUL.out] at he1
          subst he1
          have hb := HBS.out
          obtain ⟨ar, capr, hrow, hgr⟩ := hb.row
          have hbs : BS w1 T f K c (lvl f l) (j + 1) wq g (lvl f l (j + 1)) := ⟨hb.on.trans HQ2.out, hb.lt, ⟨ar, capr, hrow.on HQ2.out, hgr.on HQ2.out⟩, hdl⟩
          obtain ⟨ax2, capx2, a2, cap2, W7, hc3, hr4, hc4, hf4, hBS4⟩ := hbs.step (cc := c1) (by omega)
          have hln : (lvl f l (j + 1)).length = t := HUL.out
          rw [hln] at hr4
          have HR4 := Lib.hid hr4
          have HBS4 := Lib.hid hBS4
          have HLN := Lib.hid hln
          have hng : ¬ (i : Int) < (q : Int) := by have := HIT.out; have := HQE.out; omega
          clear hod hdl hb hrow hgr hbs hr4 hBS4 hln
          go_upto_region 16 with fail
          go_wp2_with (at_builtin; refine wp_append2 rfl (.tmp 78) (.tmp 80) _ _ rfl _ _ _ rfl rfl HR4.out ?_)
          go_roundw
          case rel => exact ⟨j + 1, by omega, g, c1, t, rfl, Lib.hid HLN.out.symm, HBS4⟩
          case measure => have := HQE.out; simp [slLen]; omega
    · have hqp : q = pc := by rw [HPC.out, hq, show K - j = c by omega]
      have hng : ¬ (pc : Int) < (q : Int) := by omega
      clear hq hqp
      obtain rfl : j = K - c := by omega
      have hb := HBS.out
      obtain ⟨ar, capr, hrow, hgr⟩ := hb.row
      have hQU : TBox Q U 0 0 0 (.slice none 0 0) := by rw [HU.out, HQ.out]; exact TBox.new w 0 0 0 (.slice none 0 0)
      have hOr : On U wr := HO1.out.trans hb.on
      have hQr := hQU.on hOr
      have hQs := hQr.store f K c (.slice ar (K - c + 1) capr)
      obtain ⟨X, hX⟩ : ∃ X, X = ((((wr.setCell ⟨Q, 0, none⟩ (.int .i64 f)).setCell ⟨Q, 1, none⟩ (.int .i64 (K : Int))).setCell ⟨Q, 2, none⟩ (.int .i64 (c : Int))).setCell ⟨Q, 3, none⟩ (.slice ar (K - c + 1) capr)) := ⟨_, rfl⟩
      rw [← hX] at hQs
      have hQw : w.heap.size ≤ Q := Nat.le_of_eq HQ.out.symm
      have hOX : On w X := by rw [hX]; exact (((((HO.out.trans hOr).setCell hQw _).setCell hQw _).setCell hQw _).setCell hQw _)
      have hgb : wr.grownBy X (some Q) := by
        rw [hX]
        exact ⟨rfl, rfl, rfl, by simp [World.setCell], fun k _ hk2 => (((Below.heap_setCell _ _ _ _ (fun e => hk2 (by rw [e]))).trans (Below.heap_setCell _ _ _ _ (fun e => hk2 (by rw [e])))).trans (Below.heap_setCell _ _ _ _ (fun e => hk2 (by rw [e])))).trans (Below.heap_setCell _ _ _ _ (fun e => hk2 (by rw [e])))⟩
      have hgX := hgr.gb hgb (fun r e => by cases e; exact ⟨_, hQr, fun _ _ e => by simp at e, fun _ _ e => by simp at e⟩)
      have hTR : TR X (.slice ar (K - c + 1) capr) (K - c + 1) (lvl f l) := hgX.tr (by omega) (fun i hi => ⟨HSM.out i, by rw [lvl_len f l K HLEN.out i (by omega)]; exact Nat.le_trans (pow18 (by omega)) (by omega)⟩)
      have HXE := Lib.hid hX
      have HTR := Lib.hid hTR
      have HOX := Lib.hid hOX
      have HQS := Lib.hid hQs
      obtain ⟨q0, q1, q2, q3⟩ := hQr.cells
      have g0 := hQr.free 0
      have g1 := hQr.free 1
      have g2 := hQr.free 2
      have g3 := hQr.free 3
      obtain ⟨t0, t1, t2, t3⟩ := hrow.cells
      clear hb hrow hgr hQU hOr hQr hQs hX hQw hOX hgb hgX hTR
      go_upto_region 18 with fail
      go_wp2
      rw [← HXE.out]
      obtain ⟨p0, p1, p2, p3⟩ := HQS.out.cells
      refine bodyPost_ret (v := .tuple #[trV f K c (.slice ar (K - c + 1) capr), .int .i64 0]) (by simp [results, Tryd.results8, go_sem, p0, p1, p2, p3]; try rfl) rfl ?_
      exact ⟨⟨_, rfl, HTR.out⟩, HOX.out⟩
end Go.Proofs.YthepmahjpejmdaaDoor

/- The program's Build where the cap is below zero. -/
namespace Go.Proofs.YthepmahjpejmdaaDoor
open Go.RowKit
set_option linter.unusedVariables false
set_option maxRecDepth 100000 in
set_option maxHeartbeats 2000000 in
theorem build_neg (f : Int) (l : List Dg) (v : Value) (c : Int) (w : World) (hT : TZ w) (hR : DR w v l) (K : Nat) (hK : K ≤ 18) (hlen : l.length = 2 ^ K) (hyes : validB f = true) (hc0 : c < 0) :
    Calls Tryd.prog 7 #[.int .i64 f, v, .int .i64 c] w fun e w' => e = .returned (.tuple #[.agg #[.int .i64 0, .int .i64 0, .int .i64 0, .slice none 0 0], .int .i64 1]) ∧ On w w' := by
  obtain ⟨a, cap, rfl⟩ := hR.shape
  have hl63 := hR.2.1
  obtain ⟨n, hn⟩ : ∃ n, n = l.length := ⟨_, rfl⟩
  obtain ⟨U1, hU1⟩ : ∃ U, U = w.alloc (.cells #[.int .i64 c] 3) := ⟨_, rfl⟩
  have hO1 : On w U1 := by rw [hU1]; exact (On.refl hT.1).alloc _
  have hs1 : U1.heap.size = w.heap.size + 1 := by rw [hU1]; simp
  have hb1 : VB w.heap.size U1 [.int .i64 c] := by rw [hU1]; exact vb_new _ _ _
  obtain ⟨U2, hU2⟩ : ∃ U, U = U1.alloc (.cells #[.int .i64 0, .int .i64 0, .int .i64 0, .slice none 0 0] 26) := ⟨_, rfl⟩
  have hx2 : On U1 U2 := by rw [hU2]; exact (On.refl hO1.tab).alloc _
  have hr2 : VB (w.heap.size + 1) U2 [.int .i64 0, .int .i64 0, .int .i64 0, .slice none 0 0] := by have h := vb_new U1 #[.int .i64 0, .int .i64 0, .int .i64 0, .slice none 0 0] 26; rw [← hU2, hs1] at h; exact h
  have HO := Lib.hid (hO1.trans hx2)
  have HC := Lib.hid (hb1.on hx2); have HR := Lib.hid hr2
  have HU1 := Lib.hid hU1; have HU2 := Lib.hid hU2
  have HTZ := Lib.hid (hT.on HO.out); have HDR := Lib.hid (hR.on HO.out)
  have c0 := HC.out.2.1 0 _ rfl
  have HEX : Hid (Calls Tryd.prog 23 #[.int .i64 (n : Int)] U2 fun e w' => e = .returned (.tuple #[.int .i64 (K : Int), .bool true]) ∧ U2 = w') := exponent_some K n U2 HTZ.out hK (by rw [hn]; exact hlen)
  have HV := Lib.hid hyes
  clear hyes hlen
  have r0 := (HR.out).2.1 0 _ rfl
  have r1 := (HR.out).2.1 1 _ rfl
  have r2 := (HR.out).2.1 2 _ rfl
  have r3 := (HR.out).2.1 3 _ rfl
  have g0 := (HR.out).2.2 0
  have g1 := (HR.out).2.2 1
  have g2 := (HR.out).2.2 2
  have g3 := (HR.out).2.2 3
  obtain ⟨X, hX⟩ : ∃ X, X = ((((U2.setCell ⟨w.heap.size + 1, 0, none⟩ (.int .i64 0)).setCell ⟨w.heap.size + 1, 1, none⟩ (.int .i64 0)).setCell ⟨w.heap.size + 1, 2, none⟩ (.int .i64 0)).setCell ⟨w.heap.size + 1, 3, none⟩ (.slice none 0 0)) := ⟨_, rfl⟩
  have HX : Hid (VB (w.heap.size + 1) X [.int .i64 0, .int .i64 0, .int .i64 0, .slice none 0 0]) := by rw [hX]; exact ((((HR.out).set 0 _ (by simp)).set 1 _ (by simp)).set 2 _ (by simp)).set 3 _ (by simp)
  have HOX : Hid (On w X) := by rw [hX]; exact ((((HO.out).setCell (by simp) _).setCell (by simp) _).setCell (by simp) _).setCell (by simp) _
  have HXE := Lib.hid hX
  clear hX
  rw [← hn] at HDR ⊢
  have HN := Lib.hid hn
  clear hU1 hO1 hs1 hb1 hU2 hx2 hr2 hn hR hT
  go_enter Tryd.func7, Tryd.ntmps7
  go_upto_region 1 with fail
  rw [← HU1.out, ← HU2.out]
  go_wp2_with (first
    | (go_at_call 23; with_reducible refine HEX.out.mono ?_; rintro e w2 ⟨rfl, rfl⟩)
    | (go_at_call 24; refine (valid_any _ _).mono ?_; rintro e w2 ⟨rfl, rfl⟩; rw [HV.out])
    | fail)
  rw [← HXE.out]
  obtain ⟨p0, p1, p2, p3⟩ : (X.cell? ⟨w.heap.size + 1, 0, none⟩ = some (.int .i64 0)) ∧ (X.cell? ⟨w.heap.size + 1, 1, none⟩ = some (.int .i64 0)) ∧ (X.cell? ⟨w.heap.size + 1, 2, none⟩ = some (.int .i64 0)) ∧ (X.cell? ⟨w.heap.size + 1, 3, none⟩ = some (.slice none 0 0)) := ⟨HX.out.2.1 0 _ rfl, HX.out.2.1 1 _ rfl, HX.out.2.1 2 _ rfl, HX.out.2.1 3 _ rfl⟩
  refine bodyPost_ret (v := .tuple #[.agg #[.int .i64 0, .int .i64 0, .int .i64 0, .slice none 0 0], .int .i64 1]) (by simp [results, Tryd.results7, go_sem, p0, p1, p2, p3]; try rfl) rfl ?_
  exact ⟨rfl, HOX.out⟩
end Go.Proofs.YthepmahjpejmdaaDoor
