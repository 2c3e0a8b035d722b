/- SystemFaults: the walk. -/
import Derived.Test.YtnanjacllmdenaaDoorKe27
import Derived.Test.YtnanjacllmdenaaDoorKe24
import Derived.Test.YtnanjacllmdenaaDoorKe29
import Derived.Test.YtnanjacllmdenaaDoorKe30
set_option linter.unusedSimpArgs false
set_option linter.unusedVariables false
/- SystemFaults: the walk. -/
namespace Go.Proofs.YtnanjacllmdenaaDoor
open Go.RowKit Go.Lib
set_option linter.unusedVariables false

set_option maxHeartbeats 2000000 in
set_option maxRecDepth 100000 in
theorem faults_no (S : Sy) (a1 a2 a3 a4 : Option Addr) (k1 k2 k3 k4 : Nat) (T : Tr) (pa ma : Option Addr) (pc mc : Nat) (w : World) (hT : Tab w) (hR : SyR w ⟨a1, a2, a3, a4, k1, k2, k3, k4⟩ S) (hTr : TrR w pa ma pc mc T) (hF : fitS S T = false) :
    Calls Tryd.prog 11 #[syA S ⟨a1, a2, a3, a4, k1, k2, k3, k4⟩, .agg #[.slice pa T.pub.length pc, .slice ma T.main.length mc]] w fun e w' => e = .returned (.tuple #[.slice none 0 0, .int .i64 1]) ∧ On w w' := by
  obtain ⟨W0, hW0⟩ : ∃ W0, W0 = (w.alloc (syO S ⟨a1, a2, a3, a4, k1, k2, k3, k4⟩)).alloc (.cells #[.slice pa T.pub.length pc, .slice ma T.main.length mc] 30) := ⟨_, rfl⟩
  have hA1 := (On.refl hT).alloc (syO S ⟨a1, a2, a3, a4, k1, k2, k3, k4⟩)
  have hA2 := (On.refl hA1.tab).alloc (.cells #[.slice pa T.pub.length pc, .slice ma T.main.length mc] 30)
  have hO0 : On w W0 := by rw [hW0]; exact hA1.trans hA2
  obtain ⟨Q, hQ⟩ : ∃ Q, Q = w.heap.size := ⟨_, rfl⟩
  have hB0 : VB Q W0 (syL S ⟨a1, a2, a3, a4, k1, k2, k3, k4⟩) := by rw [hW0, hQ]; exact (vb_newS S ⟨a1, a2, a3, a4, k1, k2, k3, k4⟩ w).on hA2
  have hB1 : VB (Q + 1) W0 [.slice pa T.pub.length pc, .slice ma T.main.length mc] := by
    have h := vb_new (w.alloc (syO S ⟨a1, a2, a3, a4, k1, k2, k3, k4⟩)) #[.slice pa T.pub.length pc, .slice ma T.main.length mc] 30
    rw [World.size_alloc] at h
    rw [hW0, hQ]; exact h
  have HSY : Hid (∀ wq, On W0 wq → _) := Lib.hid fun wq h => sy_cells (hB0.on h)
  have HTB : Hid (∀ wq, On W0 wq → wq.cell? ⟨Q + 1, 0, none⟩ = some (.slice pa T.pub.length pc) ∧ wq.cell? ⟨Q + 1, 1, none⟩ = some (.slice ma T.main.length mc)) := Lib.hid fun wq h => ⟨(hB1.on h).2.1 0 _ rfl, (hB1.on h).2.1 1 _ rfl⟩
  have HFI : Hid (∀ wq, On W0 wq → Calls Tryd.prog 14 #[syA S ⟨a1, a2, a3, a4, k1, k2, k3, k4⟩, .agg #[.slice pa T.pub.length pc, .slice ma T.main.length mc]] wq fun e w' => e = .returned (.bool false) ∧ On W0 w') := Lib.hid fun wq h => by
    have h9 := fits_any S ⟨a1, a2, a3, a4, k1, k2, k3, k4⟩ T pa ma pc mc wq h.tab (hR.on (hO0.trans h)) (hTr.on (hO0.trans h))
    rw [hF] at h9
    exact h9.mono fun e w' ⟨he, ho⟩ => ⟨he, h.trans ho⟩
  have HW0 := Lib.hid hW0; have HQ := Lib.hid hQ; have HO0 := Lib.hid hO0
  have H00 := Lib.hid (On.refl hO0.tab)
  clear hT hR hTr hF hW0 hO0 hQ hA1 hA2 hB0 hB1
  go_enter Tryd.func11, Tryd.ntmps11
  go_upto_region 1 with fail
  rw [← HW0.out, ← HQ.out]
  obtain ⟨s0, s1, s2, s3, s4, s5, s6, s7⟩ := HSY.out _ H00.out
  obtain ⟨l0, l1⟩ := HTB.out _ H00.out
  go_wp2_with (go_at_call 14; (with_reducible refine (HFI.out _ H00.out).mono ?_); rintro e w1 ⟨rfl, hO1⟩)
  go_ret2
  exact ⟨rfl, HO0.out.trans hO1⟩
set_option maxHeartbeats 2000000 in
set_option maxRecDepth 100000 in
theorem holds_no (S : Sy) (a1 a2 a3 a4 : Option Addr) (k1 k2 k3 k4 : Nat) (T : Tr) (pa ma : Option Addr) (pc mc : Nat) (w : World) (hT : Tab w) (hR : SyR w ⟨a1, a2, a3, a4, k1, k2, k3, k4⟩ S) (hTr : TrR w pa ma pc mc T) (hF : fitS S T = false) :
    Calls Tryd.prog 13 #[syA S ⟨a1, a2, a3, a4, k1, k2, k3, k4⟩, .agg #[.slice pa T.pub.length pc, .slice ma T.main.length mc]] w fun e w' => e = .returned (.tuple #[.bool false, .int .i64 1]) ∧ On w w' := by
  obtain ⟨W0, hW0⟩ : ∃ W0, W0 = (w.alloc (syO S ⟨a1, a2, a3, a4, k1, k2, k3, k4⟩)).alloc (.cells #[.slice pa T.pub.length pc, .slice ma T.main.length mc] 30) := ⟨_, rfl⟩
  have hA1 := (On.refl hT).alloc (syO S ⟨a1, a2, a3, a4, k1, k2, k3, k4⟩)
  have hA2 := (On.refl hA1.tab).alloc (.cells #[.slice pa T.pub.length pc, .slice ma T.main.length mc] 30)
  have hO0 : On w W0 := by rw [hW0]; exact hA1.trans hA2
  obtain ⟨Q, hQ⟩ : ∃ Q, Q = w.heap.size := ⟨_, rfl⟩
  have hB0 : VB Q W0 (syL S ⟨a1, a2, a3, a4, k1, k2, k3, k4⟩) := by rw [hW0, hQ]; exact (vb_newS S ⟨a1, a2, a3, a4, k1, k2, k3, k4⟩ w).on hA2
  have hB1 : VB (Q + 1) W0 [.slice pa T.pub.length pc, .slice ma T.main.length mc] := by
    have h := vb_new (w.alloc (syO S ⟨a1, a2, a3, a4, k1, k2, k3, k4⟩)) #[.slice pa T.pub.length pc, .slice ma T.main.length mc] 30
    rw [World.size_alloc] at h
    rw [hW0, hQ]; exact h
  have HSY : Hid (∀ wq, On W0 wq → _) := Lib.hid fun wq h => sy_cells (hB0.on h)
  have HTB : Hid (∀ wq, On W0 wq → wq.cell? ⟨Q + 1, 0, none⟩ = some (.slice pa T.pub.length pc) ∧ wq.cell? ⟨Q + 1, 1, none⟩ = some (.slice ma T.main.length mc)) := Lib.hid fun wq h => ⟨(hB1.on h).2.1 0 _ rfl, (hB1.on h).2.1 1 _ rfl⟩
  have HFI : Hid (∀ wq, On W0 wq → Calls Tryd.prog 11 #[syA S ⟨a1, a2, a3, a4, k1, k2, k3, k4⟩, .agg #[.slice pa T.pub.length pc, .slice ma T.main.length mc]] wq fun e w' => e = .returned (.tuple #[.slice none 0 0, .int .i64 1]) ∧ On W0 w') := Lib.hid fun wq h => by
    have h9 := faults_no S a1 a2 a3 a4 k1 k2 k3 k4 T pa ma pc mc wq h.tab (hR.on (hO0.trans h)) (hTr.on (hO0.trans h)) hF
    exact h9.mono fun e w' ⟨he, ho⟩ => ⟨he, h.trans ho⟩
  have HW0 := Lib.hid hW0; have HQ := Lib.hid hQ; have HO0 := Lib.hid hO0
  have H00 := Lib.hid (On.refl hO0.tab)
  clear hT hR hTr hF hW0 hO0 hQ hA1 hA2 hB0 hB1
  go_enter Tryd.func13, Tryd.ntmps13
  go_upto_region 1 with fail
  rw [← HW0.out, ← HQ.out]
  obtain ⟨s0, s1, s2, s3, s4, s5, s6, s7⟩ := HSY.out _ H00.out
  obtain ⟨l0, l1⟩ := HTB.out _ H00.out
  go_wp2_with (go_at_call 11; (with_reducible refine (HFI.out _ H00.out).mono ?_); rintro e w1 ⟨rfl, hO1⟩)
  go_ret2
  exact ⟨rfl, HO0.out.trans hO1⟩
set_option maxHeartbeats 8000000 in
set_option maxRecDepth 100000 in
theorem sfaults_any (S : Sy) (a1 a2 a3 a4 : Option Addr) (k1 k2 k3 k4 : Nat) (T : Tr) (pa ma : Option Addr) (pc mc : Nat) (w : World) (hT : Tab w) (hPw : Pwz w) (hR : SyR w ⟨a1, a2, a3, a4, k1, k2, k3, k4⟩ S) (hTr : TrR w pa ma pc mc T) :
    Calls Tryd.prog 3 #[syA S ⟨a1, a2, a3, a4, k1, k2, k3, k4⟩, .agg #[.slice pa T.pub.length pc, .slice ma T.main.length mc]] w fun e w' => e = .returned (.bool true) ∧ On w w' := by
  obtain ⟨W0, hW0⟩ : ∃ W0, W0 = (w.alloc (syO S ⟨a1, a2, a3, a4, k1, k2, k3, k4⟩)).alloc (.cells #[.slice pa T.pub.length pc, .slice ma T.main.length mc] 30) := ⟨_, rfl⟩
  have hA1 := (On.refl hT).alloc (syO S ⟨a1, a2, a3, a4, k1, k2, k3, k4⟩)
  have hA2 := (On.refl hA1.tab).alloc (.cells #[.slice pa T.pub.length pc, .slice ma T.main.length mc] 30)
  have hO0 : On w W0 := by rw [hW0]; exact hA1.trans hA2
  obtain ⟨Q, hQ⟩ : ∃ Q, Q = w.heap.size := ⟨_, rfl⟩
  have hB0 : VB Q W0 (syL S ⟨a1, a2, a3, a4, k1, k2, k3, k4⟩) := by rw [hW0, hQ]; exact (vb_newS S ⟨a1, a2, a3, a4, k1, k2, k3, k4⟩ w).on hA2
  have hB1 : VB (Q + 1) W0 [.slice pa T.pub.length pc, .slice ma T.main.length mc] := by
    have h := vb_new (w.alloc (syO S ⟨a1, a2, a3, a4, k1, k2, k3, k4⟩)) #[.slice pa T.pub.length pc, .slice ma T.main.length mc] 30
    rw [World.size_alloc] at h
    rw [hW0, hQ]; exact h
  have HSY : Hid (∀ wq, On W0 wq → _) := Lib.hid fun wq h => sy_cells (hB0.on h)
  have HTB : Hid (∀ wq, On W0 wq → wq.cell? ⟨Q + 1, 0, none⟩ = some (.slice pa T.pub.length pc) ∧ wq.cell? ⟨Q + 1, 1, none⟩ = some (.slice ma T.main.length mc)) := Lib.hid fun wq h => ⟨(hB1.on h).2.1 0 _ rfl, (hB1.on h).2.1 1 _ rfl⟩
  have HOK : Hid (On W0 W0) := On.refl hO0.tab
  have HSM : Hid (∀ wq, On W0 wq → Calls Tryd.prog 8 #[syA S ⟨a1, a2, a3, a4, k1, k2, k3, k4⟩] wq fun e w' => (∃ b : Bool, e = .returned (.bool b)) ∧ On W0 w') := fun wq h => (small_any S a1 a2 a3 a4 k1 k2 k3 k4 wq h.tab (hR.on (hO0.trans h))).mono fun e w' ⟨he, ho⟩ => ⟨he, h.trans ho⟩
  have HSH : Hid (∀ wq, On W0 wq → Calls Tryd.prog 9 #[.agg #[.slice pa T.pub.length pc, .slice ma T.main.length mc]] wq fun e w' => (∃ b : Bool, e = .returned (.bool b)) ∧ On W0 w') := fun wq h => (short_any T pa ma pc mc wq h.tab (hTr.on (hO0.trans h))).mono fun e w' ⟨he, ho⟩ => ⟨he, h.trans ho⟩
  have HLV : Hid (∀ W, On W0 W → ∀ wq, On W wq → Calls Tryd.prog 10 #[] wq fun e w' => e = .returned (.bool true) ∧ On W w') := fun W hW wq h => (live_any wq h.tab).mono fun e w' ⟨he, ho⟩ => ⟨he, h.trans ho⟩
  have HFI : Hid (∀ W, On W0 W → ∀ wq, On W wq → Calls Tryd.prog 14 #[syA S ⟨a1, a2, a3, a4, k1, k2, k3, k4⟩, .agg #[.slice pa T.pub.length pc, .slice ma T.main.length mc]] wq fun e w' => e = .returned (.bool (fitS S T)) ∧ On W w') := fun W hW wq h => (fits_any S _ T pa ma pc mc wq h.tab (hR.on (hO0.trans (hW.trans h))) (hTr.on (hO0.trans (hW.trans h)))).mono fun e w' ⟨he, ho⟩ => ⟨he, h.trans ho⟩
  have HRFI : Hid (∀ W, On W0 W → ∀ wq, On W wq → Calls Tryd.prog 15 #[syA S ⟨a1, a2, a3, a4, k1, k2, k3, k4⟩, .agg #[.slice pa T.pub.length pc, .slice ma T.main.length mc]] wq fun e w' => e = .returned (.bool (fitS S T)) ∧ On W w') := fun W hW wq h => (rfits_any S _ T pa ma pc mc wq h.tab (hR.on (hO0.trans (hW.trans h))) (hTr.on (hO0.trans (hW.trans h)))).mono fun e w' ⟨he, ho⟩ => ⟨he, h.trans ho⟩
  have HSF : Hid (∀ (l m : List Fa) (u v : Value) (W wq : World), On W wq → FaL wq u l → FaL wq v m → Calls Tryd.prog 16 #[u, v] wq fun e w' => e = .returned (.bool (decide (l = m))) ∧ On W w') := Lib.hid fun l m u v W wq h h1 h2 => (samefaults_any l m u v wq h1 h2).mono fun e w' ⟨he, n, hw⟩ => ⟨he, by rw [hw]; exact h.drewN n⟩
  have HR := Lib.hid hR; have HTR := Lib.hid hTr
  have HW0 := Lib.hid hW0; have HQ := Lib.hid hQ; have HO0 := Lib.hid hO0
  cases hF : fitS S T with
  | false =>
    rw [hF] at HFI HRFI
    have HF1 : Hid (∀ wq, On W0 wq → Calls Tryd.prog 11 #[syA S ⟨a1, a2, a3, a4, k1, k2, k3, k4⟩, .agg #[.slice pa T.pub.length pc, .slice ma T.main.length mc]] wq fun e w' => e = .returned (.tuple #[.slice none 0 0, .int .i64 1]) ∧ On W0 w') := Lib.hid fun wq h => (faults_no S a1 a2 a3 a4 k1 k2 k3 k4 T pa ma pc mc wq h.tab (hR.on (hO0.trans h)) (hTr.on (hO0.trans h)) hF).mono fun e w' ⟨he, ho⟩ => ⟨he, h.trans ho⟩
    have HF2 : Hid (∀ wq, On W0 wq → Calls Tryd.prog 12 #[syA S ⟨a1, a2, a3, a4, k1, k2, k3, k4⟩, .agg #[.slice pa T.pub.length pc, .slice ma T.main.length mc]] wq fun e w' => e = .returned (.tuple #[.slice none 0 0, .int .i64 1]) ∧ On wq w') := Lib.hid fun wq h => (rfaults_no S ⟨a1, a2, a3, a4, k1, k2, k3, k4⟩ T pa ma pc mc wq h.tab (hR.on (hO0.trans h)) (hTr.on (hO0.trans h)) hF)
    have HH1 : Hid (∀ wq, On W0 wq → Calls Tryd.prog 13 #[syA S ⟨a1, a2, a3, a4, k1, k2, k3, k4⟩, .agg #[.slice pa T.pub.length pc, .slice ma T.main.length mc]] wq fun e w' => e = .returned (.tuple #[.bool false, .int .i64 1]) ∧ On wq w') := Lib.hid fun wq h => (holds_no S a1 a2 a3 a4 k1 k2 k3 k4 T pa ma pc mc wq h.tab (hR.on (hO0.trans h)) (hTr.on (hO0.trans h)) hF)
    clear hT hPw hR hTr hF hW0 hO0 hQ hA1 hA2 hB0 hB1
    go_enter Tryd.func3, Tryd.ntmps3
    go_upto_region 1 with fail
    rw [← HW0.out, ← HQ.out]
    obtain ⟨s0, s1, s2, s3, s4, s5, s6, s7⟩ := HSY.out _ HOK.out; obtain ⟨l0, l1⟩ := HTB.out _ HOK.out
    go_wp2_with (first
      | (go_at_call 8; (with_reducible refine (HSM.out _ HOK.out).mono ?_); rintro e w1 ⟨⟨b, rfl⟩, hO1⟩; obtain ⟨s0, s1, s2, s3, s4, s5, s6, s7⟩ := HSY.out w1 hO1; obtain ⟨l0, l1⟩ := HTB.out w1 hO1)
      | (go_at_call 9; (with_reducible refine (HSH.out _ hO1).mono ?_); rintro e w2 ⟨⟨b2, rfl⟩, hO2⟩; obtain ⟨s0, s1, s2, s3, s4, s5, s6, s7⟩ := HSY.out w2 hO2; obtain ⟨l0, l1⟩ := HTB.out w2 hO2)
      | (go_at_call 11; (with_reducible refine (HF1.out _ hO2).mono ?_); rintro e w3 ⟨rfl, hO3⟩; obtain ⟨s0, s1, s2, s3, s4, s5, s6, s7⟩ := HSY.out w3 hO3; obtain ⟨l0, l1⟩ := HTB.out w3 hO3)
      | (go_at_call 12; (with_reducible refine (HF2.out _ hO3).mono ?_); rintro e w4 ⟨rfl, hO34⟩; have hO4 := hO3.trans hO34; obtain ⟨s0, s1, s2, s3, s4, s5, s6, s7⟩ := HSY.out w4 hO4; obtain ⟨l0, l1⟩ := HTB.out w4 hO4)
      | (go_at_call 13; (with_reducible refine (HH1.out _ hO4).mono ?_); rintro e w5 ⟨rfl, hO45⟩; have hO5 := hO4.trans hO45)
      | (go_at_call 10; (with_reducible refine (HLV.out _ hO2 _ (On.refl hO2.tab)).mono ?_); rintro e w9 ⟨rfl, hO9⟩; have hO8 := hO2.trans hO9)
      | (go_at_call 10; (with_reducible refine (HLV.out _ hO1 _ (On.refl hO1.tab)).mono ?_); rintro e w9 ⟨rfl, hO9⟩; have hO8 := hO1.trans hO9)
      | fail)
    all_goals first
      | (go_ret; exact ⟨rfl, HO0.out.trans hO8⟩)
      | skip
    have HSYq : Hid (∀ wq, On w5 wq → _) := Lib.hid fun wq h => HSY.out wq (hO5.trans h)
    have HTBq : Hid (∀ wq, On w5 wq → _) := Lib.hid fun wq h => HTB.out wq (hO5.trans h)
    have HFIq := Lib.hid (HFI.out w5 hO5)
    have HRFIq := Lib.hid (HRFI.out w5 hO5)
    have HLVq := Lib.hid (HLV.out w5 hO5)
    have HNF : Hid (∀ wq, FaL wq (.slice none 0 0) []) := Lib.hid fun wq => ⟨by simp, .inl ⟨rfl, none, 0, rfl⟩⟩
    have HSFq : Hid (∀ wq, On w5 wq → Calls Tryd.prog 16 #[.slice none 0 0, .slice none 0 0] wq fun e w' => e = .returned (.bool true) ∧ On w5 w') := Lib.hid fun wq h => HSF.out [] [] _ _ w5 wq h (HNF.out wq) (HNF.out wq)
    refine region_keep_tail (fun wq => On w5 wq) 36 (by kernel_rfl) (by kernel_rfl) (On.refl hO5.tab).drew ?_
    simp only [List.take_succ_cons, List.take_zero, List.drop_succ_cons, List.drop_zero]
    refine quiet_start fun L9 hL9 => ?_
    refine quiet_take (v := syA S ⟨a1, a2, a3, a4, k1, k2, k3, k4⟩) hL9 (by kernel_rfl) (fun wq hwq => ?fy0) (fun L9 hL9 => ?fr0)
    case fy0 => (obtain ⟨s0, s1, s2, s3, s4, s5, s6, s7⟩ := HSYq.out wq hwq; go_simp; try with_reducible rfl)
    try simp only [Act.put, List.setIfInBounds_toArray, List.set_cons_zero, List.set_cons_succ]
    refine quiet_take (v := .agg #[.slice pa T.pub.length pc, .slice ma T.main.length mc]) hL9 (by kernel_rfl) (fun wq hwq => ?fy1) (fun L9 hL9 => ?fr1)
    case fy1 => (obtain ⟨l0, l1⟩ := HTBq.out wq hwq; go_simp; try with_reducible rfl)
    try simp only [Act.put, List.setIfInBounds_toArray, List.set_cons_zero, List.set_cons_succ]
    refine quiet_take (v := .bool false) hL9 (by kernel_rfl) (fun wq hwq => ?fy2) (fun L9 hL9 => ?fr2)
    case fy2 => (go_simp; go_at_call 14; exact HFIq.out wq hwq)
    try simp only [Act.put, List.setIfInBounds_toArray, List.set_cons_zero, List.set_cons_succ]
    refine quiet_take (v := syA S ⟨a1, a2, a3, a4, k1, k2, k3, k4⟩) hL9 (by kernel_rfl) (fun wq hwq => ?fy3) (fun L9 hL9 => ?fr3)
    case fy3 => (obtain ⟨s0, s1, s2, s3, s4, s5, s6, s7⟩ := HSYq.out wq hwq; go_simp; try with_reducible rfl)
    try simp only [Act.put, List.setIfInBounds_toArray, List.set_cons_zero, List.set_cons_succ]
    refine quiet_take (v := .agg #[.slice pa T.pub.length pc, .slice ma T.main.length mc]) hL9 (by kernel_rfl) (fun wq hwq => ?fy4) (fun L9 hL9 => ?fr4)
    case fy4 => (obtain ⟨l0, l1⟩ := HTBq.out wq hwq; go_simp; try with_reducible rfl)
    try simp only [Act.put, List.setIfInBounds_toArray, List.set_cons_zero, List.set_cons_succ]
    refine quiet_take (v := .bool false) hL9 (by kernel_rfl) (fun wq hwq => ?fy5) (fun L9 hL9 => ?fr5)
    case fy5 => (go_simp; go_at_call 15; exact HRFIq.out wq hwq)
    try simp only [Act.put, List.setIfInBounds_toArray, List.set_cons_zero, List.set_cons_succ]
    refine quiet_take (v := .bool true) hL9 (by kernel_rfl) (fun wq hwq => ?fy6) (fun L9 hL9 => ?fr6)
    case fy6 => (go_simp; try with_reducible rfl)
    try simp only [Act.put, List.setIfInBounds_toArray, List.set_cons_zero, List.set_cons_succ]
    refine quiet_take (v := .bool true) hL9 (by kernel_rfl) (fun wq hwq => ?fy7) (fun L9 hL9 => ?fr7)
    case fy7 => (go_simp; try with_reducible rfl)
    try simp only [Act.put, List.setIfInBounds_toArray, List.set_cons_zero, List.set_cons_succ]
    refine quiet_take (v := ?fv8) hL9 (by kernel_rfl) (fun wq hwq => ?fy8) (fun L9 hL9 => ?fr8)
    case fy8 => (go_simp; try with_reducible rfl)
    try simp only [Act.put, List.setIfInBounds_toArray, List.set_cons_zero, List.set_cons_succ]
    refine quiet_take (v := ?fv9) hL9 (by kernel_rfl) (fun wq hwq => ?fy9) (fun L9 hL9 => ?fr9)
    case fy9 => (go_simp; try with_reducible rfl)
    try simp only [Act.put, List.setIfInBounds_toArray, List.set_cons_zero, List.set_cons_succ]
    refine quiet_take (v := .bool true) hL9 (by kernel_rfl) (fun wq hwq => ?fy10) (fun L9 hL9 => ?fr10)
    case fy10 => (go_simp; go_at_call 16; exact HSFq.out wq hwq)
    try simp only [Act.put, List.setIfInBounds_toArray, List.set_cons_zero, List.set_cons_succ]
    refine quiet_take (v := .bool true) hL9 (by kernel_rfl) (fun wq hwq => ?fy11) (fun L9 hL9 => ?fr11)
    case fy11 => (go_simp; try with_reducible rfl)
    try simp only [Act.put, List.setIfInBounds_toArray, List.set_cons_zero, List.set_cons_succ]
    refine quiet_take (v := .bool true) hL9 (by kernel_rfl) (fun wq hwq => ?fy12) (fun L9 hL9 => ?fr12)
    case fy12 => (go_simp; try with_reducible rfl)
    try simp only [Act.put, List.setIfInBounds_toArray, List.set_cons_zero, List.set_cons_succ]
    refine quiet_take (v := ?fv13) hL9 (by kernel_rfl) (fun wq hwq => ?fy13) (fun L9 hL9 => ?fr13)
    case fy13 => (go_simp; try with_reducible rfl)
    try simp only [Act.put, List.setIfInBounds_toArray, List.set_cons_zero, List.set_cons_succ]
    refine quiet_take (v := ?fv14) hL9 (by kernel_rfl) (fun wq hwq => ?fy14) (fun L9 hL9 => ?fr14)
    case fy14 => (go_simp; try with_reducible rfl)
    try simp only [Act.put, List.setIfInBounds_toArray, List.set_cons_zero, List.set_cons_succ]
    refine quiet_take (v := .bool true) hL9 (by kernel_rfl) (fun wq hwq => ?fy15) (fun L9 hL9 => ?fr15)
    case fy15 => (go_simp; try with_reducible rfl)
    try simp only [Act.put, List.setIfInBounds_toArray, List.set_cons_zero, List.set_cons_succ]
    refine quiet_take (v := .bool true) hL9 (by kernel_rfl) (fun wq hwq => ?fy16) (fun L9 hL9 => ?fr16)
    case fy16 => (go_simp; try with_reducible rfl)
    try simp only [Act.put, List.setIfInBounds_toArray, List.set_cons_zero, List.set_cons_succ]
    refine quiet_take (v := .bool true) hL9 (by kernel_rfl) (fun wq hwq => ?fy17) (fun L9 hL9 => ?fr17)
    case fy17 => (go_simp; try with_reducible rfl)
    try simp only [Act.put, List.setIfInBounds_toArray, List.set_cons_zero, List.set_cons_succ]
    refine quiet_take (v := .bool false) hL9 (by kernel_rfl) (fun wq hwq => ?fy18) (fun L9 hL9 => ?fr18)
    case fy18 => (go_simp; try with_reducible rfl)
    try simp only [Act.put, List.setIfInBounds_toArray, List.set_cons_zero, List.set_cons_succ]
    refine quiet_take (v := ?fv19) hL9 (by kernel_rfl) (fun wq hwq => ?fy19) (fun L9 hL9 => ?fr19)
    case fy19 => (go_simp; try with_reducible rfl)
    try simp only [Act.put, List.setIfInBounds_toArray, List.set_cons_zero, List.set_cons_succ]
    refine quiet_take (v := .bool false) hL9 (by kernel_rfl) (fun wq hwq => ?fy20) (fun L9 hL9 => ?fr20)
    case fy20 => (go_simp; try with_reducible rfl)
    try simp only [Act.put, List.setIfInBounds_toArray, List.set_cons_zero, List.set_cons_succ]
    refine quiet_take (v := .bool false) hL9 (by kernel_rfl) (fun wq hwq => ?fy21) (fun L9 hL9 => ?fr21)
    case fy21 => (go_simp; try with_reducible rfl)
    try simp only [Act.put, List.setIfInBounds_toArray, List.set_cons_zero, List.set_cons_succ]
    refine quiet_skip hL9 (by kernel_rfl) (fun L9 hL9 => ?_)
    try simp only [Act.put, List.setIfInBounds_toArray, List.set_cons_zero, List.set_cons_succ]
    refine quiet_skip hL9 (by kernel_rfl) (fun L9 hL9 => ?_)
    try simp only [Act.put, List.setIfInBounds_toArray, List.set_cons_zero, List.set_cons_succ]
    refine quiet_skip hL9 (by kernel_rfl) (fun L9 hL9 => ?_)
    try simp only [Act.put, List.setIfInBounds_toArray, List.set_cons_zero, List.set_cons_succ]
    refine quiet_take (v := .bool false) hL9 (by kernel_rfl) (fun wq hwq => ?fy25) (fun L9 hL9 => ?fr25)
    case fy25 => (go_simp; try with_reducible rfl)
    try simp only [Act.put, List.setIfInBounds_toArray, List.set_cons_zero, List.set_cons_succ]
    refine quiet_take (v := .bool true) hL9 (by kernel_rfl) (fun wq hwq => ?fy26) (fun L9 hL9 => ?fr26)
    case fy26 => (go_simp; try with_reducible rfl)
    try simp only [Act.put, List.setIfInBounds_toArray, List.set_cons_zero, List.set_cons_succ]
    refine quiet_take (v := .bool true) hL9 (by kernel_rfl) (fun wq hwq => ?fy27) (fun L9 hL9 => ?fr27)
    case fy27 => (go_simp; try with_reducible rfl)
    try simp only [Act.put, List.setIfInBounds_toArray, List.set_cons_zero, List.set_cons_succ]
    refine quiet_take (v := .bool true) hL9 (by kernel_rfl) (fun wq hwq => ?fy28) (fun L9 hL9 => ?fr28)
    case fy28 => (go_simp; try with_reducible rfl)
    try simp only [Act.put, List.setIfInBounds_toArray, List.set_cons_zero, List.set_cons_succ]
    refine quiet_take (v := ?fv29) hL9 (by kernel_rfl) (fun wq hwq => ?fy29) (fun L9 hL9 => ?fr29)
    case fy29 => (go_simp; try with_reducible rfl)
    try simp only [Act.put, List.setIfInBounds_toArray, List.set_cons_zero, List.set_cons_succ]
    refine quiet_take (v := ?fv30) hL9 (by kernel_rfl) (fun wq hwq => ?fy30) (fun L9 hL9 => ?fr30)
    case fy30 => (go_simp; try with_reducible rfl)
    try simp only [Act.put, List.setIfInBounds_toArray, List.set_cons_zero, List.set_cons_succ]
    refine quiet_take (v := .bool true) hL9 (by kernel_rfl) (fun wq hwq => ?fy31) (fun L9 hL9 => ?fr31)
    case fy31 => (go_simp; try with_reducible rfl)
    try simp only [Act.put, List.setIfInBounds_toArray, List.set_cons_zero, List.set_cons_succ]
    refine quiet_take (v := .bool true) hL9 (by kernel_rfl) (fun wq hwq => ?fy32) (fun L9 hL9 => ?fr32)
    case fy32 => (go_simp; try with_reducible rfl)
    try simp only [Act.put, List.setIfInBounds_toArray, List.set_cons_zero, List.set_cons_succ]
    refine quiet_take (v := .bool true) hL9 (by kernel_rfl) (fun wq hwq => ?fy33) (fun L9 hL9 => ?fr33)
    case fy33 => (go_simp; try with_reducible rfl)
    try simp only [Act.put, List.setIfInBounds_toArray, List.set_cons_zero, List.set_cons_succ]
    refine quiet_take (v := .bool true) hL9 (by kernel_rfl) (fun wq hwq => ?fy34) (fun L9 hL9 => ?fr34)
    case fy34 => (go_simp; go_at_call 10; exact HLVq.out wq hwq)
    try simp only [Act.put, List.setIfInBounds_toArray, List.set_cons_zero, List.set_cons_succ]
    refine quiet_take (v := .bool true) hL9 (by kernel_rfl) (fun wq hwq => ?fy35) (fun L9 hL9 => ?fr35)
    case fy35 => (go_simp; try with_reducible rfl)
    try simp only [Act.put, List.setIfInBounds_toArray, List.set_cons_zero, List.set_cons_succ]
    refine quiet_nil hL9 ?_
    clear hL9
    intro wy hOy
    go_wp2
    go_ret
    exact ⟨rfl, HO0.out.trans (hO5.trans hOy)⟩
  | true =>
    rw [hF] at HFI HRFI
    obtain ⟨PB, hPB⟩ : ∃ PB : Nat → Bool, ∀ i, PB i = true ↔ pmH S T (S.perms.getD i zPm) := ⟨fun i => @decide _ (Classical.propDecidable (pmH S T (S.perms.getD i zPm))), fun i => by simp⟩
    obtain ⟨LB, hLB⟩ : ∃ LB : Nat → Bool, ∀ i, LB i = true ↔ lkH S T (S.looks.getD i zLk) := ⟨fun i => @decide _ (Classical.propDecidable (lkH S T (S.looks.getD i zLk))), fun i => by simp⟩
    obtain ⟨LF, hLF⟩ : ∃ LF, LF = ((rulesF S T S.rules.length ++ badF (S.rules.length : Int) PB S.perms.length) ++ badF ((S.rules.length : Int) + (S.perms.length : Int)) LB S.looks.length) := ⟨_, rfl⟩
    have HF1 : Hid (∀ wq, On W0 wq → Calls Tryd.prog 11 #[syA S ⟨a1, a2, a3, a4, k1, k2, k3, k4⟩, .agg #[.slice pa T.pub.length pc, .slice ma T.main.length mc]] wq fun e w' => (∃ v, e = .returned (.tuple #[v, .int .i64 0]) ∧ FaL w' v LF) ∧ On W0 w') := Lib.hid fun wq h => by
      rw [hLF]
      exact (faults_yes S a1 a2 a3 a4 k1 k2 k3 k4 T pa ma pc mc PB LB wq h.tab (hPw.on (hO0.trans h)) (hR.on (hO0.trans h)) (hTr.on (hO0.trans h)) hF (fun i _ => hPB i) (fun i _ => hLB i)).mono fun e w' ⟨he, ho⟩ => ⟨he, h.trans ho⟩
    have HF2 : Hid (∀ wq, On W0 wq → Calls Tryd.prog 12 #[syA S ⟨a1, a2, a3, a4, k1, k2, k3, k4⟩, .agg #[.slice pa T.pub.length pc, .slice ma T.main.length mc]] wq fun e w' => (∃ v, e = .returned (.tuple #[v, .int .i64 0]) ∧ FaL w' v LF) ∧ On wq w') := Lib.hid fun wq h => by
      rw [hLF]
      exact (rfaults_yes S a1 a2 a3 a4 k1 k2 k3 k4 T pa ma pc mc PB LB wq h.tab (hR.on (hO0.trans h)) (hTr.on (hO0.trans h)) hF (fun i _ => hPB i) (fun i _ => hLB i))
    have HH1 : Hid (∀ wq, On W0 wq → Calls Tryd.prog 13 #[syA S ⟨a1, a2, a3, a4, k1, k2, k3, k4⟩, .agg #[.slice pa T.pub.length pc, .slice ma T.main.length mc]] wq fun e w' => e = .returned (.tuple #[.bool (((LF.length : Nat) : Int) == 0), .int .i64 0]) ∧ On wq w') := Lib.hid fun wq h => by
      rw [hLF]
      exact (holds_yes S a1 a2 a3 a4 k1 k2 k3 k4 T pa ma pc mc PB LB wq h.tab (hPw.on (hO0.trans h)) (hR.on (hO0.trans h)) (hTr.on (hO0.trans h)) hF (fun i _ => hPB i) (fun i _ => hLB i))
    clear hT hPw hR hTr hF hW0 hO0 hQ hA1 hA2 hB0 hB1 hPB hLB hLF
    go_enter Tryd.func3, Tryd.ntmps3
    go_upto_region 1 with fail
    rw [← HW0.out, ← HQ.out]
    obtain ⟨s0, s1, s2, s3, s4, s5, s6, s7⟩ := HSY.out _ HOK.out; obtain ⟨l0, l1⟩ := HTB.out _ HOK.out
    go_wp2_with (first
      | (go_at_call 8; (with_reducible refine (HSM.out _ HOK.out).mono ?_); rintro e w1 ⟨⟨b, rfl⟩, hO1⟩; obtain ⟨s0, s1, s2, s3, s4, s5, s6, s7⟩ := HSY.out w1 hO1; obtain ⟨l0, l1⟩ := HTB.out w1 hO1)
      | (go_at_call 9; (with_reducible refine (HSH.out _ hO1).mono ?_); rintro e w2 ⟨⟨b2, rfl⟩, hO2⟩; obtain ⟨s0, s1, s2, s3, s4, s5, s6, s7⟩ := HSY.out w2 hO2; obtain ⟨l0, l1⟩ := HTB.out w2 hO2)
      | (go_at_call 11; (with_reducible refine (HF1.out _ hO2).mono ?_); rintro e w3 ⟨⟨x1, rfl, hx1⟩, hO3⟩; obtain ⟨s0, s1, s2, s3, s4, s5, s6, s7⟩ := HSY.out w3 hO3; obtain ⟨l0, l1⟩ := HTB.out w3 hO3)
      | (go_at_call 12; (with_reducible refine (HF2.out _ hO3).mono ?_); rintro e w4 ⟨⟨x2, rfl, hx2⟩, hO34⟩; have hO4 := hO3.trans hO34; obtain ⟨s0, s1, s2, s3, s4, s5, s6, s7⟩ := HSY.out w4 hO4; obtain ⟨l0, l1⟩ := HTB.out w4 hO4)
      | (go_at_call 13; (with_reducible refine (HH1.out _ hO4).mono ?_); rintro e w5 ⟨rfl, hO45⟩; have hO5 := hO4.trans hO45)
      | (go_at_call 10; (with_reducible refine (HLV.out _ hO2 _ (On.refl hO2.tab)).mono ?_); rintro e w9 ⟨rfl, hO9⟩; have hO8 := hO2.trans hO9)
      | (go_at_call 10; (with_reducible refine (HLV.out _ hO1 _ (On.refl hO1.tab)).mono ?_); rintro e w9 ⟨rfl, hO9⟩; have hO8 := hO1.trans hO9)
      | fail)
    all_goals first
      | (go_ret; exact ⟨rfl, HO0.out.trans hO8⟩)
      | skip
    have HSYq : Hid (∀ wq, On w5 wq → _) := Lib.hid fun wq h => HSY.out wq (hO5.trans h)
    have HTBq : Hid (∀ wq, On w5 wq → _) := Lib.hid fun wq h => HTB.out wq (hO5.trans h)
    have HFIq := Lib.hid (HFI.out w5 hO5)
    have HRFIq := Lib.hid (HRFI.out w5 hO5)
    have HLVq := Lib.hid (HLV.out w5 hO5)
    obtain ⟨f1, c1, rfl⟩ := hx1.shape
    obtain ⟨f2, c2, rfl⟩ := hx2.shape
    have HSFq : Hid (∀ wq, On w5 wq → Calls Tryd.prog 16 #[.slice f1 LF.length c1, .slice f2 LF.length c2] wq fun e w' => e = .returned (.bool true) ∧ On w5 w') := Lib.hid fun wq h => by
      have h9 := HSF.out LF LF _ _ w5 wq h (hx1.on (hO34.trans (hO45.trans h))) (hx2.on (hO45.trans h))
      rwa [show decide (LF = LF) = true from decide_eq_true rfl] at h9
    clear hx1 hx2
    generalize LF.length = n9 at *
    obtain ⟨z, hz⟩ : ∃ z, ((n9 : Int) == 0) = z := ⟨_, rfl⟩
    rw [hz]
    refine region_keep_tail (fun wq => On w5 wq) 36 (by kernel_rfl) (by kernel_rfl) (On.refl hO5.tab).drew ?_
    simp only [List.take_succ_cons, List.take_zero, List.drop_succ_cons, List.drop_zero]
    refine quiet_start fun L9 hL9 => ?_
    refine quiet_take (v := syA S ⟨a1, a2, a3, a4, k1, k2, k3, k4⟩) hL9 (by kernel_rfl) (fun wq hwq => ?uy0) (fun L9 hL9 => ?ur0)
    case uy0 => (obtain ⟨s0, s1, s2, s3, s4, s5, s6, s7⟩ := HSYq.out wq hwq; go_simp; try with_reducible rfl)
    try simp only [Act.put, List.setIfInBounds_toArray, List.set_cons_zero, List.set_cons_succ]
    refine quiet_take (v := .agg #[.slice pa T.pub.length pc, .slice ma T.main.length mc]) hL9 (by kernel_rfl) (fun wq hwq => ?uy1) (fun L9 hL9 => ?ur1)
    case uy1 => (obtain ⟨l0, l1⟩ := HTBq.out wq hwq; go_simp; try with_reducible rfl)
    try simp only [Act.put, List.setIfInBounds_toArray, List.set_cons_zero, List.set_cons_succ]
    refine quiet_take (v := .bool true) hL9 (by kernel_rfl) (fun wq hwq => ?uy2) (fun L9 hL9 => ?ur2)
    case uy2 => (go_simp; go_at_call 14; exact HFIq.out wq hwq)
    try simp only [Act.put, List.setIfInBounds_toArray, List.set_cons_zero, List.set_cons_succ]
    refine quiet_take (v := syA S ⟨a1, a2, a3, a4, k1, k2, k3, k4⟩) hL9 (by kernel_rfl) (fun wq hwq => ?uy3) (fun L9 hL9 => ?ur3)
    case uy3 => (obtain ⟨s0, s1, s2, s3, s4, s5, s6, s7⟩ := HSYq.out wq hwq; go_simp; try with_reducible rfl)
    try simp only [Act.put, List.setIfInBounds_toArray, List.set_cons_zero, List.set_cons_succ]
    refine quiet_take (v := .agg #[.slice pa T.pub.length pc, .slice ma T.main.length mc]) hL9 (by kernel_rfl) (fun wq hwq => ?uy4) (fun L9 hL9 => ?ur4)
    case uy4 => (obtain ⟨l0, l1⟩ := HTBq.out wq hwq; go_simp; try with_reducible rfl)
    try simp only [Act.put, List.setIfInBounds_toArray, List.set_cons_zero, List.set_cons_succ]
    refine quiet_take (v := .bool true) hL9 (by kernel_rfl) (fun wq hwq => ?uy5) (fun L9 hL9 => ?ur5)
    case uy5 => (go_simp; go_at_call 15; exact HRFIq.out wq hwq)
    try simp only [Act.put, List.setIfInBounds_toArray, List.set_cons_zero, List.set_cons_succ]
    refine quiet_take (v := .bool true) hL9 (by kernel_rfl) (fun wq hwq => ?uy6) (fun L9 hL9 => ?ur6)
    case uy6 => (go_simp; try with_reducible rfl)
    try simp only [Act.put, List.setIfInBounds_toArray, List.set_cons_zero, List.set_cons_succ]
    refine quiet_take (v := .bool true) hL9 (by kernel_rfl) (fun wq hwq => ?uy7) (fun L9 hL9 => ?ur7)
    case uy7 => (go_simp; try with_reducible rfl)
    try simp only [Act.put, List.setIfInBounds_toArray, List.set_cons_zero, List.set_cons_succ]
    refine quiet_take (v := ?uv8) hL9 (by kernel_rfl) (fun wq hwq => ?uy8) (fun L9 hL9 => ?ur8)
    case uy8 => (go_simp; try with_reducible rfl)
    try simp only [Act.put, List.setIfInBounds_toArray, List.set_cons_zero, List.set_cons_succ]
    refine quiet_take (v := ?uv9) hL9 (by kernel_rfl) (fun wq hwq => ?uy9) (fun L9 hL9 => ?ur9)
    case uy9 => (go_simp; try with_reducible rfl)
    try simp only [Act.put, List.setIfInBounds_toArray, List.set_cons_zero, List.set_cons_succ]
    refine quiet_take (v := .bool true) hL9 (by kernel_rfl) (fun wq hwq => ?uy10) (fun L9 hL9 => ?ur10)
    case uy10 => (go_simp; go_at_call 16; exact HSFq.out wq hwq)
    try simp only [Act.put, List.setIfInBounds_toArray, List.set_cons_zero, List.set_cons_succ]
    refine quiet_take (v := .bool true) hL9 (by kernel_rfl) (fun wq hwq => ?uy11) (fun L9 hL9 => ?ur11)
    case uy11 => (go_simp; try with_reducible rfl)
    try simp only [Act.put, List.setIfInBounds_toArray, List.set_cons_zero, List.set_cons_succ]
    refine quiet_take (v := .bool true) hL9 (by kernel_rfl) (fun wq hwq => ?uy12) (fun L9 hL9 => ?ur12)
    case uy12 => (go_simp; try with_reducible rfl)
    try simp only [Act.put, List.setIfInBounds_toArray, List.set_cons_zero, List.set_cons_succ]
    refine quiet_take (v := ?uv13) hL9 (by kernel_rfl) (fun wq hwq => ?uy13) (fun L9 hL9 => ?ur13)
    case uy13 => (go_simp; try with_reducible rfl)
    try simp only [Act.put, List.setIfInBounds_toArray, List.set_cons_zero, List.set_cons_succ]
    refine quiet_take (v := ?uv14) hL9 (by kernel_rfl) (fun wq hwq => ?uy14) (fun L9 hL9 => ?ur14)
    case uy14 => (go_simp; try with_reducible rfl)
    try simp only [Act.put, List.setIfInBounds_toArray, List.set_cons_zero, List.set_cons_succ]
    refine quiet_take (v := .bool true) hL9 (by kernel_rfl) (fun wq hwq => ?uy15) (fun L9 hL9 => ?ur15)
    case uy15 => (go_simp; try with_reducible rfl)
    try simp only [Act.put, List.setIfInBounds_toArray, List.set_cons_zero, List.set_cons_succ]
    refine quiet_take (v := .bool true) hL9 (by kernel_rfl) (fun wq hwq => ?uy16) (fun L9 hL9 => ?ur16)
    case uy16 => (go_simp; try with_reducible rfl)
    try simp only [Act.put, List.setIfInBounds_toArray, List.set_cons_zero, List.set_cons_succ]
    refine quiet_take (v := .bool true) hL9 (by kernel_rfl) (fun wq hwq => ?uy17) (fun L9 hL9 => ?ur17)
    case uy17 => (go_simp; try with_reducible rfl)
    try simp only [Act.put, List.setIfInBounds_toArray, List.set_cons_zero, List.set_cons_succ]
    refine quiet_take (v := .bool z) hL9 (by kernel_rfl) (fun wq hwq => ?uy18) (fun L9 hL9 => ?ur18)
    case uy18 => (go_simp; try with_reducible rfl)
    try simp only [Act.put, List.setIfInBounds_toArray, List.set_cons_zero, List.set_cons_succ]
    refine quiet_take (v := ?uv19) hL9 (by kernel_rfl) (fun wq hwq => ?uy19) (fun L9 hL9 => ?ur19)
    case uy19 => (go_simp; try with_reducible rfl)
    try simp only [Act.put, List.setIfInBounds_toArray, List.set_cons_zero, List.set_cons_succ]
    refine quiet_take (v := .bool true) hL9 (by kernel_rfl) (fun wq hwq => ?uy20) (fun L9 hL9 => ?ur20)
    case uy20 => (go_simp; try with_reducible rfl)
    try simp only [Act.put, List.setIfInBounds_toArray, List.set_cons_zero, List.set_cons_succ]
    refine quiet_take (v := .bool true) hL9 (by kernel_rfl) (fun wq hwq => ?uy21) (fun L9 hL9 => ?ur21)
    case uy21 => (go_simp; try with_reducible rfl)
    try simp only [Act.put, List.setIfInBounds_toArray, List.set_cons_zero, List.set_cons_succ]
    refine quiet_take (v := ?uv22) hL9 (by kernel_rfl) (fun wq hwq => ?uy22) (fun L9 hL9 => ?ur22)
    case uy22 => (go_simp; try with_reducible rfl)
    try simp only [Act.put, List.setIfInBounds_toArray, List.set_cons_zero, List.set_cons_succ]
    refine quiet_take (v := .int .i64 (n9 : Int)) hL9 (by kernel_rfl) (fun wq hwq => ?uy23) (fun L9 hL9 => ?ur23)
    case uy23 => (go_simp; try with_reducible rfl)
    try simp only [Act.put, List.setIfInBounds_toArray, List.set_cons_zero, List.set_cons_succ]
    refine quiet_take (v := .bool z) hL9 (by kernel_rfl) (fun wq hwq => ?uy24) (fun L9 hL9 => ?ur24)
    case uy24 => (go_simp; try with_reducible rfl)
    try simp only [Act.put, List.setIfInBounds_toArray, List.set_cons_zero, List.set_cons_succ]
    refine quiet_take (v := .bool z) hL9 (by kernel_rfl) (fun wq hwq => ?uy25) (fun L9 hL9 => ?ur25)
    case uy25 => (go_simp; try with_reducible rfl)
    try simp only [Act.put, List.setIfInBounds_toArray, List.set_cons_zero, List.set_cons_succ]
    refine quiet_take (v := .bool true) hL9 (by kernel_rfl) (fun wq hwq => ?uy26) (fun L9 hL9 => ?ur26)
    case uy26 => (go_simp; try with_reducible rfl)
    try simp only [Act.put, List.setIfInBounds_toArray, List.set_cons_zero, List.set_cons_succ]
    refine quiet_take (v := .bool true) hL9 (by kernel_rfl) (fun wq hwq => ?uy27) (fun L9 hL9 => ?ur27)
    case uy27 => (go_simp; try with_reducible rfl)
    try simp only [Act.put, List.setIfInBounds_toArray, List.set_cons_zero, List.set_cons_succ]
    refine quiet_take (v := .bool true) hL9 (by kernel_rfl) (fun wq hwq => ?uy28) (fun L9 hL9 => ?ur28)
    case uy28 => (go_simp; try with_reducible rfl)
    try simp only [Act.put, List.setIfInBounds_toArray, List.set_cons_zero, List.set_cons_succ]
    refine quiet_take (v := ?uv29) hL9 (by kernel_rfl) (fun wq hwq => ?uy29) (fun L9 hL9 => ?ur29)
    case uy29 => (go_simp; try with_reducible rfl)
    try simp only [Act.put, List.setIfInBounds_toArray, List.set_cons_zero, List.set_cons_succ]
    refine quiet_take (v := ?uv30) hL9 (by kernel_rfl) (fun wq hwq => ?uy30) (fun L9 hL9 => ?ur30)
    case uy30 => (go_simp; try with_reducible rfl)
    try simp only [Act.put, List.setIfInBounds_toArray, List.set_cons_zero, List.set_cons_succ]
    refine quiet_take (v := .bool true) hL9 (by kernel_rfl) (fun wq hwq => ?uy31) (fun L9 hL9 => ?ur31)
    case uy31 => (go_simp; try with_reducible rfl)
    try simp only [Act.put, List.setIfInBounds_toArray, List.set_cons_zero, List.set_cons_succ]
    refine quiet_take (v := .bool true) hL9 (by kernel_rfl) (fun wq hwq => ?uy32) (fun L9 hL9 => ?ur32)
    case uy32 => (go_simp; try with_reducible rfl)
    try simp only [Act.put, List.setIfInBounds_toArray, List.set_cons_zero, List.set_cons_succ]
    refine quiet_take (v := .bool true) hL9 (by kernel_rfl) (fun wq hwq => ?uy33) (fun L9 hL9 => ?ur33)
    case uy33 => (go_simp; try with_reducible rfl)
    try simp only [Act.put, List.setIfInBounds_toArray, List.set_cons_zero, List.set_cons_succ]
    refine quiet_take (v := .bool true) hL9 (by kernel_rfl) (fun wq hwq => ?uy34) (fun L9 hL9 => ?ur34)
    case uy34 => (go_simp; go_at_call 10; exact HLVq.out wq hwq)
    try simp only [Act.put, List.setIfInBounds_toArray, List.set_cons_zero, List.set_cons_succ]
    refine quiet_take (v := .bool true) hL9 (by kernel_rfl) (fun wq hwq => ?uy35) (fun L9 hL9 => ?ur35)
    case uy35 => (go_simp; try with_reducible rfl)
    try simp only [Act.put, List.setIfInBounds_toArray, List.set_cons_zero, List.set_cons_succ]
    refine quiet_nil hL9 ?_
    clear hL9
    intro wy hOy
    go_wp2
    go_ret
    exact ⟨rfl, HO0.out.trans (hO5.trans hOy)⟩
end Go.Proofs.YtnanjacllmdenaaDoor

/- SystemFaults returns true, for every input; no conditions but the tied tables. -/
namespace Go.Proofs.YtnanjacllmdenaaDoor.systemFaults
open Go.ChangeShapes Go.WideShapes Go.ChangeAt Go.RowKit
set_option linter.unusedVariables false

theorem trodAll_two {H : Type} {enc : TypeId × Value → H} {P : Program} {w : World} {base : Nat} {spare : Nat → Bool} {held : Bool} {t0 t1 : TypeId} {args : Array Value} {ds : List (DataW H)} {ps : List MemPlace} (h : DataW.TrodAll enc P w base spare held [t0, t1] args.toList ds ps) :
    ∃ v0 v1 d0 d1 p0 p1, args = #[v0, v1] ∧ ds = [d0, d1] ∧ ps = p0 ++ p1 ∧ DataW.Trod enc P w base spare held t0 v0 d0 p0 ∧ DataW.Trod enc P w base spare held t1 v1 d1 p1 := by
  obtain ⟨v0, vs, d0, ds', p0, q, hargs, rfl, rfl, h0, h⟩ := trodAll_cons h
  obtain ⟨v1, vs, d1, ds', p1, q, rfl, rfl, rfl, h1, h⟩ := trodAll_cons h
  obtain ⟨rfl, rfl, rfl⟩ := trodAll_nil h
  exact ⟨v0, v1, d0, d1, p0, p1, by cases args; simp_all, rfl, by simp, h0, h1⟩

set_option maxRecDepth 100000 in
theorem lifted (os : Os) (started : os.Started) (H : Type) (enc : TypeId × Value → H) :
    ReturnsInHanded {} Tryd.checked os 3 .any (fun w args => (Rows.systemFaultsSpec.pre enc Tryd.prog Tryd.f3 Rows.systemFaultsRow.domain false w args ∧ laidMetH Tryd.prog laidL w) ∧ sizedMet enc Tryd.prog Tryd.f3 (OpenSpec.ofChange Rows.systemFaultsSpec) false w args)
      (Rows.systemFaultsSpec.post enc Tryd.prog Tryd.f3 false true false false) := by
  refine returnsInHanded_of_change_and (C := Tryd.checked) (X := fun w _ => laidMetH Tryd.prog laidL w) (fun _ _ _ hh h => h.of_heap hh) own started (by kernel_rfl) Tryd.func3
    (ChangeSpec.witness_shaped (enc := enc) (C := Tryd.checked) (os := os) (X := fun w _ => laidMetH Tryd.prog laidL w) false (World.laidAll Tryd.prog os laidL) #[.agg #[.int .i64 0, .int .i64 0, .int .i64 0, .int .i64 0, .slice none 0 0, .slice none 0 0, .slice none 0 0, .slice none 0 0], .agg #[.slice none 0 0, .slice none 0 0]] 8 (World.laidAll_os _ _ _)
      (World.shaped_of_ZipB (by kernel_rfl) (by kernel_rfl)) (by kernel_rfl) (by kernel_rfl) (by kernel_rfl)
      (by rw [MakeChecks.laidMetH_plain _ _ _ (by kernel_rfl)]; exact laidMet_laidAll _ (by kernel_rfl) (by kernel_rfl))) ?_
  intro W base args ds gs before hval0 hW hc _ hL _
  have hval : ∀ (j : Nat) t v, Tryd.f3.params[j]? = some t → args[j]? = some v → Value.okWide Tryd.prog W .any base t v := hval0
  have hW' := hW
  obtain ⟨p, q, hA0, hV, rfl, _, _⟩ := hW
  have hA : DataW.TrodAll enc Tryd.prog W 0 (fun _ => true) true Tryd.f3.params.toList args.toList ds p := hA0
  rw [Tryd.params3] at hA hval
  obtain ⟨v0, v1, d0, d1, p0, p1, rfl, rfl, rfl, h0, h1⟩ := trodAll_two hA
  obtain ⟨rfl, rfl⟩ := trodVars_none hV
  obtain ⟨S0, sa0, sb0, sc0, sd0, ka0, kb0, kc0, kd0, rfl, hS0⟩ := arg_sys (hval 0 27 v0 rfl rfl) h0
  obtain ⟨tl1, tm1, ta1, tb1, tc1, td1, rfl, hTp1, hTm1⟩ := arg_tr (hval 1 30 v1 rfl rfl) h1
  clear hA0 hval0
  simp only [List.append_nil] at hW'
  have hT := tab_of_laid hL
  have fin : Calls Tryd.prog 3 #[syA S0 ⟨sa0, sb0, sc0, sd0, ka0, kb0, kc0, kd0⟩, .agg #[.slice ta1 tl1.length tc1, .slice tb1 tm1.length td1]] W fun e w' => e = .returned (.bool true) ∧ On W w' := by
    exact sfaults_any S0 _ _ _ _ _ _ _ _ ⟨tl1, tm1⟩ _ _ _ _ W hT (pwk_of_laid hL) hS0 ⟨hTp1, hTm1⟩
  refine fin.mono fun e W' ⟨he, hg⟩ => ?_
  subst he
  exact ⟨_, rfl, law_ends hW' rfl rfl rfl (by kernel_rfl) hg.2⟩

theorem row_holds : Rows.SystemFaultsSaid :=
  OpenClaim.holds_of_wide 3 Tryd.f3 rfl rfl rfl rfl rfl rfl rfl ⟨rfl, rfl, rfl, rfl, rfl⟩ rfl rfl rfl rfl rfl (by kernel_rfl) Tryd.func3 (by kernel_rfl)
    (of_decide_eq_true (by kernel_rfl)) (by unfold Func.isWrapper; first | (rw [if_pos (by decide +kernel)]; kernel_rfl) | (rw [if_neg (by decide +kernel)]; exact ⟨rfl, rfl⟩))
    (fun os started H enc _ => lifted os started H enc)
theorem card_holds : Rows.SystemFaultsCardSaid :=
  Claim7.holds_tied_plain_at .later [] [.data, .data, .data, .data] true Rows.systemFaultsCard.stood.harness false row_holds (fun _ h => by cases h) (by kernel_rfl) (fun _ h => by cases h) systemFaults_row_tie rfl ⟨rfl, rfl⟩ (by kernel_rfl) rfl
    (fun f fn hf hfn => by
      obtain rfl : f = 3 := Option.some.inj ((show Tryd.prog.funcNamed "attestor/attestorlaw13.SystemFaults" = some 3 by kernel_rfl).symm.trans hf) |>.symm
      obtain rfl : fn = Tryd.f3 := (Option.some.inj (Tryd.func3.symm.trans hfn)).symm
      exact ⟨by kernel_rfl, fun j t ht => by
        rw [Tryd.params3] at ht
        have hm : t ∈ [27, 30] := by simpa using Array.mem_of_getElem? ht
        have hall : ([27, 30].all fun u => !Tryd.prog.wantsStandIn u) = true := by kernel_rfl
        exact (show Tryd.prog.wantsStandIn t = false by simpa using List.all_eq_true.1 hall t hm)⟩)
    (by kernel_rfl)
#print axioms card_holds
end Go.Proofs.YtnanjacllmdenaaDoor.systemFaults
