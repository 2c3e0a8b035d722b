/- The walk of the law PolyKnown: it returns true. -/
import Derived.Test.YtmfhaddhfndocaaDoorPvalM
import Derived.Test.YtmfhaddhfndocaaDoorPerr
import Derived.Test.YtmfhaddhfndocaaDoorPdiv
import Derived.Deep.DeepCutAuto
namespace Go.Proofs.YtmfhaddhfndocaaDoor
open Go.RowKit
set_option linter.unusedVariables false

theorem k_dup (hx : ∀ x ∈ [1, 98], x ≤ 18446744073709551615) (hy : ∀ x ∈ [1, 1], x ≤ 18446744073709551615) : ¬ okN 0 (ptsL [1, 98] [1, 1] hx hy) := by
  rw [okN_iff (by decide)]
  intro h
  have e : ((ptsL [1, 98] [1, 1] hx hy).map fun p => p.1.1) = [1, 98] := rfl
  rw [e] at h
  exact absurd h (by decide)
theorem longL_reads (w : World) (B : Nat) (hB : w.heap.size = B) (hB0 : 0 < B) : ∃ wL, (Instr.makeSlice 22 (.int .i64 32768) (.int .i64 32768)).run Tryd.prog w = .ok (.slice (some ⟨B, 0, none⟩) 32768 32768) wL ∧ wL.cell? ⟨B, 32767, none⟩ = some (.int .u64 0) ∧ wL.frozen? ⟨B, 32767, none⟩ = false ∧
    (∀ W, On W w → On W (wL.setCell ⟨B, 32767, none⟩ (.int .u64 1))) ∧ Reads (wL.setCell ⟨B, 32767, none⟩ (.int .u64 1)) (.slice (some ⟨B, 0, none⟩) 32768 32768) (longL 32767) ∧ wL.heap.size = B + 1 := by
  subst hB
  have hb := blk_made w 32768
  have hc := hb.cell 32767 (by rw [List.length_replicate]; omega)
  rw [replicate_getD] at hc
  have hs := hb.set 32767 1 (by rw [List.length_replicate]; omega)
  have hR := hs.reads (fun x hx => by have := longL_le 32767 x hx; omega) (by rw [List.length_set, List.length_replicate]; omega) 32768
  rw [List.length_set, List.length_replicate] at hR
  exact ⟨_, make_run 32768 (by omega) w, hc, hb.free _, fun W hW => (hW.alloc _).setCell (p := ⟨w.heap.size, 32767, none⟩) hW.size _, hR, by simp⟩

set_option maxHeartbeats 4000000 in
set_option maxRecDepth 100000 in
theorem known_any (w : World) (hT : Tab w) : Calls Tryd.prog 10 #[] w fun e w' => e = .returned (.bool true) ∧ On w w' := by
  have v0 : validB 0 = true := by decide
  have v3 : validB 3 = true := by decide
  have E1 : Hid (strip (part 0 [1, 2, 3, 4, 5] 2 (normF 0 [1, 2, 3, 4, 5]).length 0) = [1, 3, 5]) := by unfold Hid; decide +kernel
  have E2 : Hid (strip (part 0 [1, 2, 3, 4, 5] 2 (normF 0 [1, 2, 3, 4, 5]).length 1) = [2, 4]) := by unfold Hid; decide +kernel
  have E3 : Hid (normF 0 [1, 2, 3, 4, 5] = [1, 2, 3, 4, 5]) := by unfold Hid; decide +kernel
  have E4 : Hid (normF 0 [98, 0, 97] = [1]) := by unfold Hid; decide +kernel
  have E5 : Hid (normF 0 [5] = [5]) := by unfold Hid; decide +kernel
  have E6 : Hid (vanL 0 [] = [1]) := by unfold Hid; decide +kernel
  have E7 : Hid (normF 3 [0, 1] = [0, 1]) := by unfold Hid; decide +kernel
  have E8 : Hid (normF 3 [5, 0] = [5]) := by unfold Hid; decide +kernel
  have E9 : Hid (normF 9 [1] = []) := by unfold Hid; decide +kernel
  have E10 : Hid (evF 9 [1] 1 = 0) := by unfold Hid; decide +kernel
  obtain ⟨o1, ho1⟩ : ∃ o, o = Obj.cells (madeCells #[.int .u64 0] 1025) 23 := ⟨_, rfl⟩
  have hmk : ∀ w : World, (Instr.makeSlice 22 (.int .i64 1025) (.int .i64 1025)).run Tryd.prog w = .ok (.slice (some ⟨w.heap.size, 0, none⟩) 1025 1025) (w.alloc o1) := fun w => by rw [ho1]; exact make_run 1025 (by omega) w
  obtain ⟨o2, ho2⟩ : ∃ o, o = Obj.cells (madeCells #[.slice none 0 0] 65) 22 := ⟨_, rfl⟩
  have hmk2 : ∀ w : World, (Instr.makeSlice 40 (.int .i64 65) (.int .i64 65)).run Tryd.prog w = .ok (.slice (some ⟨w.heap.size, 0, none⟩) 65 65) (w.alloc o2) := fun w => by rw [ho2]; exact make_rows_big 65 (by omega) w
  have HO1 := Lib.hid ho1; have HO2 := Lib.hid ho2
  clear ho1 ho2
  have HX := Lib.hid (On.refl hT)
  go_enter Tryd.func10, Tryd.ntmps10
  go_wp2_with fail
  have hO := (HX.out.alloc (.cells #[.int .u64 1, .int .u64 2, .int .u64 3, .int .u64 4, .int .u64 5] 23))
  have hOc := ((On.refl HX.out.tab).alloc (.cells #[.int .u64 1, .int .u64 2, .int .u64 3, .int .u64 4, .int .u64 5] 23))
  refine (split_any 0 [1, 2, 3, 4, 5] 2 _ _ hO.tab v0 (reads_new w [1, 2, 3, 4, 5] 5 _ _ (by simp) rfl (by decide) (by decide)) (by decide) (by decide) (by decide)).mono ?_
  rintro e w1 ⟨rfl, hO1, V, hL⟩
  have HX := Lib.hid (hO.trans hO1)
  have HL := Lib.hid hL
  clear hO1 hL hO hOc
  have hc0 := HL.out.2.1 0 (by omega)
  have hc1 := HL.out.2.1 1 (by omega)
  have r0 := (HL.out.2.2.2 0 (by omega)).1
  have r1 := (HL.out.2.2.2 1 (by omega)).1
  simp only [E1.out, E2.out] at r0 r1
  obtain ⟨a0, c0, hV0⟩ := r0.shape
  obtain ⟨a1, c1, hV1⟩ := r1.shape
  rw [hV0] at hc0 r0
  rw [hV1] at hc1 r1
  have R0 := Lib.hid r0; have R1 := Lib.hid r1
  have HV0 := Lib.hid hV0; have HV1 := Lib.hid hV1
  clear r0 r1 hV0 hV1
  simp only [List.length_cons, List.length_nil, Nat.zero_add, Nat.reduceAdd] at hc0 hc1
  obtain ⟨G, hG⟩ : ∃ G, G = (w.alloc (.cells #[.int .u64 1, .int .u64 2, .int .u64 3, .int .u64 4, .int .u64 5] 23)).heap.size := ⟨_, rfl⟩
  simp only [← hG] at hc0 hc1 HL ⊢
  clear hG
  go_wp2_with fail
  have hO := (HX.out.alloc (.cells #[.int .u64 1, .int .u64 3, .int .u64 5] 23))
  have hOc := ((On.refl HX.out.tab).alloc (.cells #[.int .u64 1, .int .u64 3, .int .u64 5] 23))
  refine (w_same [1, 3, 5] [1, 3, 5] _ _ _ true (by simp) hO.tab (R0.out.on hOc) (reads_new w1 [1, 3, 5] 3 _ _ (by simp) rfl (by decide) (by decide))).mono ?_
  rintro e w2 ⟨rfl, hO1⟩
  have HL := Lib.hid (HL.out.on (hOc.trans hO1))
  have R0 := Lib.hid (R0.out.on (hOc.trans hO1))
  have R1 := Lib.hid (R1.out.on (hOc.trans hO1))
  have HX := Lib.hid (hO.trans hO1)
  clear hO1 hO hOc
  have hc1 := HL.out.2.1 1 (by omega)
  rw [HV1.out] at hc1
  go_wp2_with fail
  have hO := (HX.out.alloc (.cells #[.int .u64 2, .int .u64 4] 23))
  have hOc := ((On.refl HX.out.tab).alloc (.cells #[.int .u64 2, .int .u64 4] 23))
  refine (w_same [2, 4] [2, 4] _ _ _ true (by simp) hO.tab (R1.out.on hOc) (reads_new w2 [2, 4] 2 _ _ (by simp) rfl (by decide) (by decide))).mono ?_
  rintro e w3 ⟨rfl, hO1⟩
  have HL := Lib.hid (HL.out.on (hOc.trans hO1))
  have R0 := Lib.hid (R0.out.on (hOc.trans hO1))
  have R1 := Lib.hid (R1.out.on (hOc.trans hO1))
  have HX := Lib.hid (hO.trans hO1)
  clear hO1 hO hOc
  go_wp2_with fail
  refine (join_any 0 G 0 2 2 V (fun j => strip (part 0 [1, 2, 3, 4, 5] 2 (normF 0 [1, 2, 3, 4, 5]).length j)) w3 HX.out.tab (by omega) (by omega) (fun j hj => by rw [Nat.zero_add]; exact HL.out.2.1 j hj) (fun j hj => (HL.out.2.2.2 j hj).1) (fun j hj => by
    have h1 := strip_len (part 0 [1, 2, 3, 4, 5] 2 (normF 0 [1, 2, 3, 4, 5]).length j); have h2 := part_len 0 [1, 2, 3, 4, 5] 2 (normF 0 [1, 2, 3, 4, 5]).length j; have h3 := normF_len 0 [1, 2, 3, 4, 5]; simp only [List.length_cons, List.length_nil] at h3; omega)).mono ?_
  rintro e w4 ⟨⟨vj, J, rfl, hJ1, hJ2, hJ3, hJ4, hF⟩, hO1⟩
  have hJe : J = [1, 2, 3, 4, 5] := by rw [← E3.out]; exact join_split v0 _ 2 (by omega) J hJ1 hJ2
  subst hJe
  have HX := Lib.hid (HX.out.trans hO1)
  have RJ := Lib.hid (hF.reads hJ4 (by decide))
  clear hO1 hF hJ1 hJ2 hJ3 hJ4
  go_wp2_with fail
  have hO := (HX.out.alloc (.cells #[.int .u64 1, .int .u64 2, .int .u64 3, .int .u64 4, .int .u64 5] 23))
  have hOc := ((On.refl HX.out.tab).alloc (.cells #[.int .u64 1, .int .u64 2, .int .u64 3, .int .u64 4, .int .u64 5] 23))
  refine (w_same [1, 2, 3, 4, 5] [1, 2, 3, 4, 5] _ _ _ true (by simp) hO.tab (RJ.out.on hOc) (reads_new w4 [1, 2, 3, 4, 5] 5 _ _ (by simp) rfl (by decide) (by decide))).mono ?_
  rintro e w5 ⟨rfl, hO1⟩
  have HX := Lib.hid (hO.trans hO1)
  clear hO1 hO hOc
  go_wp2_with fail
  have hO := (HX.out.alloc (.cells #[.int .u64 98, .int .u64 0, .int .u64 97] 23))
  have hOc := ((On.refl HX.out.tab).alloc (.cells #[.int .u64 98, .int .u64 0, .int .u64 97] 23))
  refine (normal_any 0 [98, 0, 97] _ _ hO.tab (reads_new w5 [98, 0, 97] 3 _ _ (by simp) rfl (by decide) (by decide)) (by decide)).mono ?_
  rintro e w6 ⟨⟨u, rfl, hF⟩, hO1⟩
  rw [E4.out] at hF
  have RN := Lib.hid (hF.reads (by decide) (by decide))
  have HX := Lib.hid (hO.trans hO1)
  clear hO1 hO hOc hF
  go_wp2_with fail
  have hO := (HX.out.alloc (.cells #[.int .u64 1] 23))
  have hOc := ((On.refl HX.out.tab).alloc (.cells #[.int .u64 1] 23))
  refine (w_same [1] [1] _ _ _ true (by simp) hO.tab (RN.out.on hOc) (reads_new w6 [1] 1 _ _ (by simp) rfl (by decide) (by decide))).mono ?_
  rintro e w7 ⟨rfl, hO1⟩
  have HX := Lib.hid (hO.trans hO1)
  clear hO1 hO hOc
  go_wp2_with fail
  have hO := (HX.out.alloc (.cells #[.int .u64 5] 23))
  have hOc := ((On.refl HX.out.tab).alloc (.cells #[.int .u64 5] 23))
  refine (degree_any 0 [5] _ _ hO.tab (reads_new w7 [5] 1 _ _ (by simp) rfl (by decide) (by decide))).mono ?_
  rintro e w' ⟨rfl, rfl⟩
  rw [E5.out]
  obtain ⟨w8, hn⟩ : ∃ n, n = w7.alloc (.cells #[.int .u64 5] 23) := ⟨_, rfl⟩
  rw [← hn]
  rw [← hn] at hO hOc
  have HX := Lib.hid hO
  clear hO hOc hn
  go_wp2_with fail
  have hO := ((HX.out.alloc (.cells #[.int .u64 1, .int .u64 98] 23)).alloc (.cells #[.int .u64 1, .int .u64 1] 23))
  have hOc := (((On.refl HX.out.tab).alloc (.cells #[.int .u64 1, .int .u64 98] 23)).alloc (.cells #[.int .u64 1, .int .u64 1] 23))
  refine (w_through 0 [1, 98] [1, 1] _ _ _ hO.tab v0 ((reads_new w8 [1, 98] 2 _ _ (by simp) rfl (by decide) (by decide)).on ((On.refl (HX.out.alloc _).tab).alloc _)) (reads_new _ [1, 1] 2 _ _ (by simp) rfl (by decide) (by decide)) (by decide) (by decide) (by decide) (by decide)).mono ?_
  rintro e w9 ⟨⟨hok, -⟩ | ⟨-, rfl⟩, hO1⟩
  · exact absurd hok (k_dup _ _)
  have HX := Lib.hid (hO.trans hO1)
  clear hO1 hO hOc
  go_wp2_with fail
  refine (w_vanish 0 [] _ _ HX.out.tab v0 (Reads.nil _ _ _) (by decide)).mono ?_
  rintro e w10 ⟨aq, rfl, hR, hO1⟩
  rw [E6.out] at hR
  simp only [List.length_nil, Nat.zero_add] at hR ⊢
  have RO := Lib.hid hR
  have HX := Lib.hid (HX.out.trans hO1)
  clear hO1 hR
  go_wp2_with fail
  have hO := (HX.out.alloc (.cells #[.int .u64 1] 23))
  have hOc := ((On.refl HX.out.tab).alloc (.cells #[.int .u64 1] 23))
  refine (divide_any 0 [1] [] _ _ _ hO.tab v0 (reads_new w10 [1] 1 _ _ (by simp) rfl (by decide) (by decide)) (Reads.nil _ _ _) (by decide) (by decide)).mono ?_
  rintro e w11 ⟨h1, -, hO1⟩
  obtain rfl := h1 (by decide)
  have RO := Lib.hid (RO.out.on (hOc.trans hO1))
  have HX := Lib.hid (hO.trans hO1)
  clear hO1 hO hOc h1
  go_wp2_with fail
  refine (mul_no 4 [] [] _ _ _ HX.out.tab (by decide)).mono ?_
  rintro e w' ⟨rfl, rfl⟩
  go_wp2_with fail
  have hO := (HX.out.alloc (.cells #[.int .u64 1] 23))
  have hOc := ((On.refl HX.out.tab).alloc (.cells #[.int .u64 1] 23))
  refine (through_len 0 _ _ 1 1 0 0 _ hO.tab v0 (by omega)).mono ?_
  rintro e w12 ⟨rfl, hO1⟩
  have RO := Lib.hid (RO.out.on (hOc.trans hO1))
  have HX := Lib.hid (hO.trans hO1)
  clear hO1 hO hOc
  go_wp2_with fail
  have hO := HX.out.alloc o1
  have hOc := (On.refl HX.out.tab).alloc o1
  refine (vanish_big 3 _ 1025 1025 _ hO.tab v3 (by omega) (by omega)).mono ?_
  rintro e w' ⟨rfl, rfl⟩
  obtain ⟨w13, hn⟩ : ∃ n, n = w12.alloc o1 := ⟨_, rfl⟩
  rw [← hn]
  rw [← hn] at hO hOc
  have RO := Lib.hid (RO.out.on hOc)
  have HX := Lib.hid hO
  clear hO hOc hn
  have HA2 := Lib.hid ((((On.refl HX.out.tab).alloc o1).alloc o1).drew)
  go_upto_region 10 with fail
  go_cut [16] (fun s16 wx => s16 = .int .i64 3 ∧ Hid (On w13 wx))
  case first =>
    go_region_with (go_at_call 37; refine (through_big 3 _ _ 1025 1025 1025 _ HA2.out.tab v3 (by omega)).mono ?_; rintro e w' ⟨rfl, hO9⟩; have HO9 := Lib.hid hO9; clear hO9)
    all_goals
      go_wp2_with fail
      go_meet
      exact ⟨rfl, HA2.out.trans HO9.out⟩
  case rest =>
  obtain ⟨rfl, hcO⟩ := hcut
  clear HA2
  have RO := Lib.hid (RO.out.on hcO.out)
  have HX := Lib.hid (HX.out.trans hcO.out)
  clear hcO
  go_wp2_with fail
  have hO := (HX.out.alloc (.cells #[.int .u64 1] 23))
  have hOc := ((On.refl HX.out.tab).alloc (.cells #[.int .u64 1] 23))
  refine (w_same [1] [1] _ _ _ true (by simp) hO.tab (RO.out.on hOc) (reads_new wc [1] 1 _ _ (by simp) rfl (by decide) (by decide))).mono ?_
  rintro e w14 ⟨rfl, hO1⟩
  have RO := Lib.hid (RO.out.on (hOc.trans hO1))
  have HX := Lib.hid (hO.trans hO1)
  clear hO1 hO hOc
  obtain ⟨B, hB⟩ : ∃ B, w14.heap.size = B := ⟨_, rfl⟩
  obtain ⟨wL, hmkL, hcL, hfL, hOL, hRL, hsL⟩ := longL_reads w14 B hB (by have := HX.out.tab.size; omega)
  obtain ⟨LL, hLL⟩ : ∃ LL, LL = longL 32767 := ⟨_, rfl⟩
  rw [← hLL] at hRL
  have HLn : Hid (normF 3 LL = LL ∧ LL.length = 32768) := by unfold Hid; rw [hLL]; exact ⟨longL_norm v3 32767, longL_len 32767⟩
  have HLm : Hid ((mulL 3 LL [5, 0]).length = 32768 ∧ (mulL 3 LL [5, 0]).getD 32767 0 = 5) := by unfold Hid; rw [hLL]; exact longL_mul v3 32767 5 [5, 0] E8.out (by decide)
  have HOL := Lib.hid (hOL w HX.out); have RL := Lib.hid hRL; have HSL := Lib.hid hsL; have HB := Lib.hid hB; have HLL := Lib.hid hLL
  clear hOL hRL hsL hB hLL
  obtain ⟨wM, hwM⟩ : ∃ wM, wM = wL.setCell ⟨B, 32767, none⟩ (.int .u64 1) := ⟨_, rfl⟩
  rw [← hwM] at HOL RL
  have HWM := Lib.hid hwM
  clear hwM
  have HX := HOL
  go_wp2_with fail
  rw [← HWM.out]
  have hO := (HX.out.alloc (.cells #[.int .u64 0, .int .u64 1] 23))
  have hOc := ((On.refl HX.out.tab).alloc (.cells #[.int .u64 0, .int .u64 1] 23))
  have HSM : Hid (wM.heap.size = B + 1) := by unfold Hid; rw [HWM.out, World.size_setCell]; exact HSL.out
  refine (mul_any' 3 LL [0, 1] _ _ _ hO.tab v3 (RL.out.on hOc) (reads_new wM [0, 1] 2 _ _ (by have h1 := HSM.out; have h2 := HSL.out; first | rfl | omega) rfl (by decide) (by decide)) (by rw [HLn.out.2]; decide) (by decide)).mono ?_
  rintro e w15 ⟨-, h1, hO1⟩
  obtain rfl := h1 (by rw [HLn.out.1, HLn.out.2, E7.out]; decide) (by rw [HLn.out.1, HLn.out.2]; decide) (by rw [E7.out]; decide)
  have RL := Lib.hid (RL.out.on (hOc.trans hO1))
  have HX := Lib.hid (hO.trans hO1)
  clear hO1 hO hOc h1
  go_wp2_with fail
  have hO := (HX.out.alloc (.cells #[.int .u64 5, .int .u64 0] 23))
  have hOc := ((On.refl HX.out.tab).alloc (.cells #[.int .u64 5, .int .u64 0] 23))
  refine (mul_any' 3 LL [5, 0] _ _ _ hO.tab v3 (RL.out.on hOc) (reads_new w15 [5, 0] 2 _ _ (by simp) rfl (by decide) (by decide)) (by rw [HLn.out.2]; decide) (by decide)).mono ?_
  rintro e w16 ⟨h1, -, hO1⟩
  obtain ⟨u, rfl, hF⟩ := h1 (by rw [HLn.out.1, HLn.out.2, E8.out]; decide)
  obtain ⟨au, rfl⟩ := fre_shape hF
  have hRP := hF.reads (fun x hx => by have := mulL_lt 3 LL [5, 0] (by decide) x hx; have := pOf_le 3; omega) (by rw [HLm.out.1]; decide)
  obtain ⟨-, hcp⟩ := reads_opt hRP
  obtain ⟨bP, oP, rfl, hcellP⟩ := hcp 32767 (by rw [HLm.out.1]; decide)
  rw [HLm.out.2] at hcellP
  rw [HLm.out.1]
  have RL := Lib.hid (RL.out.on (hOc.trans hO1))
  have HX := Lib.hid (hO.trans hO1)
  clear hO1 hO hOc h1 hF hRP hcp
  go_wp2_with fail
  refine (split_bad 0 _ 65 _ (by omega)).mono ?_
  rintro e w' ⟨rfl, rfl⟩
  go_wp2_with fail
  refine (split_bad 0 _ 0 _ (by omega)).mono ?_
  rintro e w' ⟨rfl, rfl⟩
  go_wp2_with fail
  refine (split_any 0 [] 64 _ _ HX.out.tab v0 (Reads.nil _ _ _) (by decide) (by decide) (by decide)).mono ?_
  rintro e w17 ⟨rfl, hO1, -⟩
  have HX := Lib.hid (HX.out.trans hO1)
  clear hO1
  go_wp2_with fail
  have hO := HX.out.alloc o2
  refine (join_big 0 _ 65 65 _ (by omega)).mono ?_
  rintro e w' ⟨rfl, rfl⟩
  obtain ⟨w18, hn⟩ : ∃ n, n = w17.alloc o2 := ⟨_, rfl⟩
  rw [← hn]
  rw [← hn] at hO
  have HX := Lib.hid hO
  clear hO hn
  go_wp2_with fail
  have hO := (HX.out.alloc (.cells #[.int .u64 1] 23))
  have hOc := ((On.refl HX.out.tab).alloc (.cells #[.int .u64 1] 23))
  refine (degree_any 9 [1] _ _ hO.tab (reads_new w18 [1] 1 _ _ (by simp) rfl (by decide) (by decide))).mono ?_
  rintro e w' ⟨rfl, rfl⟩
  rw [E9.out]
  obtain ⟨w19, hn⟩ : ∃ n, n = w18.alloc (.cells #[.int .u64 1] 23) := ⟨_, rfl⟩
  rw [← hn]
  rw [← hn] at hO hOc
  have HX := Lib.hid hO
  clear hO hOc hn
  go_wp2_with fail
  have hO := (HX.out.alloc (.cells #[.int .u64 1] 23))
  have hOc := ((On.refl HX.out.tab).alloc (.cells #[.int .u64 1] 23))
  refine (eval_any 9 [1] 1 _ _ hO.tab (reads_new w19 [1] 1 _ _ (by simp) rfl (by decide) (by decide)) (by omega)).mono ?_
  rintro e w' ⟨rfl, q, rfl⟩
  rw [E10.out]
  obtain ⟨w20, hn⟩ : ∃ n, n = World.drewN (w19.alloc (.cells #[.int .u64 1] 23)) q := ⟨_, rfl⟩
  rw [← hn]
  have hO2 := hO.drewN q
  rw [← hn] at hO2
  have HX := Lib.hid hO2
  clear hO hOc hO2 hn
  go_wp2_with fail
  refine (works_any _ HX.out.tab).mono ?_
  rintro e w99 ⟨rfl, hO1⟩
  have HX := Lib.hid (HX.out.trans hO1)
  clear hO1
  go_wp2
  go_ret
  exact ⟨rfl, HX.out⟩
end Go.Proofs.YtmfhaddhfndocaaDoor
