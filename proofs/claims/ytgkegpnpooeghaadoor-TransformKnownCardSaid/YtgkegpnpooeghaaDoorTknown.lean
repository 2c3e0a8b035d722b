/- The walk of the law TransformKnown: it returns true. -/
import Derived.Test.YtgkegpnpooeghaaDoorTpoly
namespace Go.Proofs.YtgkegpnpooeghaaDoor
open Go.RowKit
set_option linter.unusedVariables false

def oneA : List Nat := List.replicate 16 0 ++ [1]
def oneB : List Nat := List.replicate 15 0 ++ [1]
theorem one_reads (w : World) (B : Nat) (hB : w.heap.size = B) : ∃ wL, (Instr.makeSlice 23 (.int .i64 17) (.int .i64 17)).run Tryd.prog w = .ok (.slice (some ⟨B, 0, none⟩) 17 17) wL ∧ wL.cell? ⟨B, 16, none⟩ = some (.int .u64 0) ∧ wL.frozen? ⟨B, 16, none⟩ = false ∧
    (∀ W, On W w → On W (wL.setCell ⟨B, 16, none⟩ (.int .u64 1))) ∧ Reads (wL.setCell ⟨B, 16, none⟩ (.int .u64 1)) (.slice (some ⟨B, 0, none⟩) 17 17) oneA ∧ Reads (wL.setCell ⟨B, 16, none⟩ (.int .u64 1)) (.slice (some ⟨B, 1, none⟩) 16 16) oneB := by
  subst hB
  have hb := blk_made w 17
  have hc := hb.cell 16 (by rw [List.length_replicate]; omega)
  rw [replicate_getD] at hc
  have hs := hb.set 16 1 (by rw [List.length_replicate]; omega)
  have hR := hs.reads (by decide) (by decide) 17
  refine ⟨_, make_run 17 (by omega) w, hc, hb.free _, fun W hW => (hW.alloc _).setCell (p := ⟨w.heap.size, 16, none⟩) hW.size _, hR, ⟨by decide, by decide, .inr ⟨w.heap.size, 1, 16, rfl, fun i hi => ?_⟩⟩⟩
  have h := hs.cell (1 + i) (by rw [List.length_set, List.length_replicate]; have : oneB.length = 16 := rfl; omega)
  have e : ∀ i, i < 16 → ((List.replicate 17 0).set 16 1).getD (1 + i) 0 = oneB.getD i 0 := by decide
  rw [e i hi] at h
  exact h

set_option maxHeartbeats 4000000 in
set_option maxRecDepth 100000 in
theorem known_any (w : World) (hT : Tab w) (hD : TabD w) : Calls Tryd.prog 9 #[] w fun e w' => e = .returned (.bool true) ∧ On w w' := by
  have v0 : validB 0 = true := by decide
  have HDD := Lib.hid hD
  clear hD
  obtain ⟨o1, ho1⟩ : ∃ o, o = Obj.cells (madeCells #[.int .u64 0] 64) 22 := ⟨_, rfl⟩
  have hmk : ∀ w : World, (Instr.makeSlice 23 (.int .i64 64) (.int .i64 64)).run Tryd.prog w = .ok (.slice (some ⟨w.heap.size, 0, none⟩) 64 64) (w.alloc o1) := fun w => by rw [ho1]; exact make_run 64 (by omega) w
  have HM1 : Hid (∀ w : World, Reads (w.alloc o1) (.slice (some ⟨w.heap.size, 0, none⟩) 64 64) (List.replicate 64 0)) := fun w => by rw [ho1]; exact (blk_made w 64).reads (by decide) (by decide) 64
  obtain ⟨o2, ho2⟩ : ∃ o, o = Obj.cells (madeCells #[.int .u64 0] 40) 22 := ⟨_, rfl⟩
  have hmk2 : ∀ w : World, (Instr.makeSlice 23 (.int .i64 40) (.int .i64 40)).run Tryd.prog w = .ok (.slice (some ⟨w.heap.size, 0, none⟩) 40 40) (w.alloc o2) := fun w => by rw [ho2]; exact make_run 40 (by omega) w
  have HM2 : Hid (∀ w : World, Reads (w.alloc o2) (.slice (some ⟨w.heap.size, 0, none⟩) 40 40) (List.replicate 40 0)) := fun w => by rw [ho2]; exact (blk_made w 40).reads (by decide) (by decide) 40
  clear ho1 ho2
  have HX := Lib.hid (On.refl hT)
  go_enter Tryd.func9, Tryd.ntmps9
  go_wp2_with fail
  have hO := (HX.out.alloc (.cells #[.int .u64 1, .int .u64 2] 22))
  have hOc := ((On.refl HX.out.tab).alloc (.cells #[.int .u64 1, .int .u64 2] 22))
  refine (w_values 0 1 5 [1, 2] _ _ 2 [11, 88] (by decide) (by decide +kernel) hO.tab (by omega) (by decide) (by decide) (reads_new w [1, 2] 2 _ _ (by simp) rfl (by decide) (by decide)) (by decide) (by decide +kernel)).mono ?_
  rintro e w1 ⟨a1, rfl, hR, hO1⟩
  have HX := Lib.hid (hO.trans hO1)
  have R1 := Lib.hid hR
  clear hO1 hO hOc hR
  go_wp2_with fail
  have hO := (HX.out.alloc (.cells #[.int .u64 7] 22))
  have hOc := ((On.refl HX.out.tab).alloc (.cells #[.int .u64 7] 22))
  refine (w_coefs 0 0 1 [7] _ _ 1 [7] (by decide) (by decide +kernel) hO.tab (HDD.out.on hO) (by omega) (by decide) (by decide) (reads_new w1 [7] 1 _ _ (by simp) rfl (by decide) (by decide)) (by decide)).mono ?_
  rintro e w2 ⟨a2, rfl, hR, hO1⟩
  have R1 := Lib.hid (R1.out.on (hOc.trans hO1))
  have HX := Lib.hid (hO.trans hO1)
  have R2 := Lib.hid hR
  clear hO1 hO hOc hR
  go_wp2_with fail
  have hO := (HX.out.alloc (.cells #[.int .u64 1, .int .u64 1] 22))
  have hOc := ((On.refl HX.out.tab).alloc (.cells #[.int .u64 1, .int .u64 1] 22))
  refine (w_values_limit 0 0 1 [1, 1] _ _ hO.tab (by omega) (by decide) (by decide) (reads_new w2 [1, 1] 2 _ _ (by simp) rfl (by decide) (by decide)) (by decide) (by decide +kernel)).mono ?_
  rintro e w3 ⟨rfl, hO1⟩
  have R1 := Lib.hid (R1.out.on (hOc.trans hO1))
  have R2 := Lib.hid (R2.out.on (hOc.trans hO1))
  have HX := Lib.hid (hO.trans hO1)
  clear hO1 hO hOc 
  go_wp2_with fail
  have hO := HX.out
  have hOc := (On.refl HX.out.tab)
  refine (values_range 0 6 1 _ _ hO.tab (by omega) (by decide) (by decide)).mono ?_
  rintro e w4 ⟨rfl, hO1⟩
  have R1 := Lib.hid (R1.out.on (hOc.trans hO1))
  have R2 := Lib.hid (R2.out.on (hOc.trans hO1))
  have HX := Lib.hid (hO.trans hO1)
  clear hO1 hO hOc 
  go_wp2_with fail
  have hO := HX.out
  have hOc := (On.refl HX.out.tab)
  refine (w_values_arg 0 1 97 _ _ hO.tab (by omega) (by decide)).mono ?_
  rintro e w5 ⟨rfl, hO1⟩
  have R1 := Lib.hid (R1.out.on (hOc.trans hO1))
  have R2 := Lib.hid (R2.out.on (hOc.trans hO1))
  have HX := Lib.hid (hO.trans hO1)
  clear hO1 hO hOc 
  go_wp2_with fail
  have hO := (HX.out.alloc (.cells #[.int .u64 1, .int .u64 96] 22))
  have hOc := ((On.refl HX.out.tab).alloc (.cells #[.int .u64 1, .int .u64 96] 22))
  refine (w_widen 0 1 0 [1, 96] _ _ 2 [5, 92] (by decide) (by decide +kernel) hO.tab (HDD.out.on hO) v0 (by decide) (reads_new w5 [1, 96] 2 _ _ (by simp) rfl (by decide) (by decide)) (by decide) (by decide)).mono ?_
  rintro e w6 ⟨a3, rfl, hR, hO1⟩
  have R1 := Lib.hid (R1.out.on (hOc.trans hO1))
  have R2 := Lib.hid (R2.out.on (hOc.trans hO1))
  have HX := Lib.hid (hO.trans hO1)
  have R3 := Lib.hid hR
  clear hO1 hO hOc hR
  go_wp2_with fail
  have hO := (HX.out.alloc (.cells #[.int .u64 1, .int .u64 2, .int .u64 3] 22))
  have hOc := ((On.refl HX.out.tab).alloc (.cells #[.int .u64 1, .int .u64 2, .int .u64 3] 22))
  refine (widen_size 0 0 [1, 2, 3] _ _ hO.tab (HDD.out.on hO) v0 (reads_new w6 [1, 2, 3] 3 _ _ (by simp) rfl (by decide) (by decide)) (by decide) (by decide)).mono ?_
  rintro e w7 ⟨rfl, hO1⟩
  have R1 := Lib.hid (R1.out.on (hOc.trans hO1))
  have R2 := Lib.hid (R2.out.on (hOc.trans hO1))
  have R3 := Lib.hid (R3.out.on (hOc.trans hO1))
  have HX := Lib.hid (hO.trans hO1)
  clear hO1 hO hOc 
  go_wp2_with fail
  have hO := (HX.out.alloc (.cells #[.int .u64 11, .int .u64 88] 22))
  have hOc := ((On.refl HX.out.tab).alloc (.cells #[.int .u64 11, .int .u64 88] 22))
  refine (w_same [11, 88] [11, 88] _ _ _ true (by simp) hO.tab (R1.out.on hOc) (reads_new w7 [11, 88] 2 _ _ (by simp) rfl (by decide) (by decide))).mono ?_
  rintro e w8 ⟨rfl, hO1⟩
  have R1 := Lib.hid (R1.out.on (hOc.trans hO1))
  have R2 := Lib.hid (R2.out.on (hOc.trans hO1))
  have R3 := Lib.hid (R3.out.on (hOc.trans hO1))
  have HX := Lib.hid (hO.trans hO1)
  clear hO1 hO hOc 
  go_wp2_with fail
  have hO := (HX.out.alloc (.cells #[.int .u64 7] 22))
  have hOc := ((On.refl HX.out.tab).alloc (.cells #[.int .u64 7] 22))
  refine (w_same [7] [7] _ _ _ true (by simp) hO.tab (R2.out.on hOc) (reads_new w8 [7] 1 _ _ (by simp) rfl (by decide) (by decide))).mono ?_
  rintro e w9 ⟨rfl, hO1⟩
  have R2 := Lib.hid (R2.out.on (hOc.trans hO1))
  have R3 := Lib.hid (R3.out.on (hOc.trans hO1))
  have HX := Lib.hid (hO.trans hO1)
  clear hO1 hO hOc 
  go_wp2_with fail
  have hO := (HX.out.alloc (.cells #[.int .u64 5, .int .u64 92] 22))
  have hOc := ((On.refl HX.out.tab).alloc (.cells #[.int .u64 5, .int .u64 92] 22))
  refine (w_same [5, 92] [5, 92] _ _ _ true (by simp) hO.tab (R3.out.on hOc) (reads_new w9 [5, 92] 2 _ _ (by simp) rfl (by decide) (by decide))).mono ?_
  rintro e w10 ⟨rfl, hO1⟩
  have R3 := Lib.hid (R3.out.on (hOc.trans hO1))
  have HX := Lib.hid (hO.trans hO1)
  clear hO1 hO hOc 
  go_wp2_with fail
  have hO := (HX.out.alloc (.cells #[.int .u64 1, .int .u64 2] 22))
  have hOc := ((On.refl HX.out.tab).alloc (.cells #[.int .u64 1, .int .u64 2] 22))
  refine (widen_range 0 5 1 [1, 2] _ _ hO.tab (HDD.out.on hO) v0 (reads_new w10 [1, 2] 2 _ _ (by simp) rfl (by decide) (by decide)) (by decide) (by decide) (by decide)).mono ?_
  rintro e w11 ⟨rfl, hO1⟩
  have HX := Lib.hid (hO.trans hO1)
  clear hO1 hO hOc 
  go_wp2_with fail
  have hO := (HX.out.alloc (.cells #[.int .u64 1, .int .u64 2] 22))
  have hOc := ((On.refl HX.out.tab).alloc (.cells #[.int .u64 1, .int .u64 2] 22))
  refine (w_widen 0 1 4 [1, 2] _ _ 32 _ (by decide) rfl hO.tab (HDD.out.on hO) v0 (by decide) (reads_new w11 [1, 2] 2 _ _ (by simp) rfl (by decide) (by decide)) (by decide) (by decide)).mono ?_
  rintro e w12 ⟨a4, rfl, hR, hO1⟩
  have HX := Lib.hid (hO.trans hO1)
  have R4 := Lib.hid hR
  clear hO1 hO hOc hR
  go_wp2_with fail
  have hO := (HX.out.alloc (.cells #[.int .u64 1] 22))
  have hOc := ((On.refl HX.out.tab).alloc (.cells #[.int .u64 1] 22))
  refine (widen_range 0 (-1) 0 [1] _ _ hO.tab (HDD.out.on hO) v0 (reads_new w12 [1] 1 _ _ (by simp) rfl (by decide) (by decide)) (by decide) (by decide) (by decide)).mono ?_
  rintro e w13 ⟨rfl, hO1⟩
  have HX := Lib.hid (hO.trans hO1)
  clear hO1 hO hOc 
  go_wp2_with fail
  have hO := HX.out
  have hOc := (On.refl HX.out.tab)
  refine (coefs_range 0 1 [] _ _ hO.tab (HDD.out.on hO) (by omega) (by decide) (Reads.nil _ _ _) (by decide) (by decide)).mono ?_
  rintro e w14 ⟨rfl, hO1⟩
  have HX := Lib.hid (hO.trans hO1)
  clear hO1 hO hOc 
  go_wp2_with fail
  have hO := (HX.out.alloc o1)
  have hOc := ((On.refl HX.out.tab).alloc o1)
  refine (coefs_range 0 1 (List.replicate 64 0) _ _ hO.tab (HDD.out.on hO) (by omega) (by decide) (HM1.out w14) (by decide) (by decide)).mono ?_
  rintro e w15 ⟨rfl, hO1⟩
  have HX := Lib.hid (hO.trans hO1)
  clear hO1 hO hOc 
  go_wp2_with fail
  have hO := ((HX.out.alloc o2).alloc (.cells #[.int .u64 1] 22))
  have hOc := (((On.refl HX.out.tab).alloc o2).alloc (.cells #[.int .u64 1] 22))
  refine (w_mult 0 (List.replicate 40 0) [1] _ _ _ [] 0 (by decide +kernel) rfl hO.tab v0 ((HM2.out w15).alloc _) (reads_new (w15.alloc o2) [1] 1 _ _ (by simp) rfl (by decide) (by decide)) (by decide) (by decide) (by decide +kernel)).mono ?_
  rintro e w16 ⟨a5, rfl, hR, hO1⟩
  have HX := Lib.hid (hO.trans hO1)
  have R5 := Lib.hid hR
  clear hO1 hO hOc hR
  obtain ⟨B, hB⟩ : ∃ B, w16.heap.size = B := ⟨_, rfl⟩
  obtain ⟨wL, hmkL, hcL, hfL, hOL, hRA, hRB⟩ := one_reads w16 B hB
  have HOL := Lib.hid (hOL w HX.out); have RA := Lib.hid hRA; have RB := Lib.hid hRB; have HB := Lib.hid hB
  clear hOL hRA hRB hB
  obtain ⟨wM, hwM⟩ : ∃ wM, wM = wL.setCell ⟨B, 16, none⟩ (.int .u64 1) := ⟨_, rfl⟩
  rw [← hwM] at HOL RA RB
  have HWM := Lib.hid hwM
  clear hwM
  have HX := HOL
  go_wp2_with fail
  rw [← HWM.out]
  have hO := HX.out
  have hOc := (On.refl HX.out.tab)
  refine (w_mult_range 0 oneA oneA _ _ _ hO.tab v0 (RA.out.on hOc) (RA.out.on hOc) (by decide) (by decide) (by decide +kernel) (by decide +kernel) (by decide +kernel)).mono ?_
  rintro e w17 ⟨rfl, hO1⟩
  have RA := Lib.hid (RA.out.on (hOc.trans hO1))
  have RB := Lib.hid (RB.out.on (hOc.trans hO1))
  have HX := Lib.hid (hO.trans hO1)
  clear hO1 hO hOc 
  go_wp2_with fail
  have hO := HX.out
  have hOc := (On.refl HX.out.tab)
  refine (w_mult 0 oneA oneB _ _ _ _ 32 rfl (by decide +kernel) hO.tab v0 (RA.out.on hOc) (RB.out.on hOc) (by decide) (by decide) (by decide +kernel)).mono ?_
  rintro e w18 ⟨a6, rfl, hR, hO1⟩
  have RA := Lib.hid (RA.out.on (hOc.trans hO1))
  have RB := Lib.hid (RB.out.on (hOc.trans hO1))
  have HX := Lib.hid (hO.trans hO1)
  have R6 := Lib.hid hR
  clear hO1 hO hOc hR
  go_wp2_with fail
  have hO := (HX.out.alloc (.cells #[.int .u64 97, .int .u64 0, .int .u64 0, .int .u64 194] 22))
  have hOc := ((On.refl HX.out.tab).alloc (.cells #[.int .u64 97, .int .u64 0, .int .u64 0, .int .u64 194] 22))
  refine (w_values 0 1 1 [97, 0, 0, 194] _ _ 2 [0, 0] (by decide) (by decide +kernel) hO.tab (by omega) (by decide) (by decide) (reads_new w18 [97, 0, 0, 194] 4 _ _ (by simp) rfl (by decide) (by decide)) (by decide) (by decide +kernel)).mono ?_
  rintro e w19 ⟨a7, rfl, hR, hO1⟩
  have R6 := Lib.hid (R6.out.on (hOc.trans hO1))
  have HX := Lib.hid (hO.trans hO1)
  have R7 := Lib.hid hR
  clear hO1 hO hOc hR
  obtain ⟨-, hcp⟩ := reads_opt R6.out
  obtain ⟨bP, oP, rfl, hcellP⟩ := hcp 31 (by decide +kernel)
  rw [show (mulL 0 oneA oneB).getD 31 0 = 1 by decide +kernel] at hcellP
  clear hcp
  go_wp2_with fail
  have hO := (HX.out.alloc (.cells #[.int .u64 0, .int .u64 0] 22))
  have hOc := ((On.refl HX.out.tab).alloc (.cells #[.int .u64 0, .int .u64 0] 22))
  refine (w_same [0, 0] [0, 0] _ _ _ true (by simp) hO.tab (R7.out.on hOc) (reads_new w19 [0, 0] 2 _ _ (by simp) rfl (by decide) (by decide))).mono ?_
  rintro e w20 ⟨rfl, hO1⟩
  have R6 := Lib.hid (R6.out.on (hOc.trans hO1))
  have R7 := Lib.hid (R7.out.on (hOc.trans hO1))
  have HX := Lib.hid (hO.trans hO1)
  clear hO1 hO hOc 
  go_wp2_with fail
  have hO := HX.out
  have hOc := (On.refl HX.out.tab)
  refine (works_any _ hO.tab (HDD.out.on hO)).mono ?_
  rintro e w21 ⟨rfl, hO1⟩
  have R6 := Lib.hid (R6.out.on (hOc.trans hO1))
  have HX := Lib.hid (hO.trans hO1)
  clear hO1 hO hOc 
  go_wp2
  go_ret
  exact ⟨rfl, HX.out⟩
end Go.Proofs.YtgkegpnpooeghaaDoor
