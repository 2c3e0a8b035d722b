/- The walk of the law GapRoots: it returns true (own work). -/
import Derived.Test.YthgidehapcfciaaDoorKx06
import Derived.Test.YthgidehapcfciaaDoorKx03
import Derived.Test.YthgidehapcfciaaDoorKx08
import Derived.Test.YthgidehapcfciaaDoorKx05
set_option linter.unusedSimpArgs false
set_option linter.unusedVariables false
/- The walk of the law GapRoots: it returns true (own work). -/
namespace Go.Proofs.YthgidehapcfciaaDoor
open Go.RowKit
set_option linter.unusedVariables false
set_option linter.unusedSimpArgs false
set_option maxRecDepth 100000

set_option maxHeartbeats 4000000 in
theorem groots_any0 (hWK : ∀ w, Tab w → Calls Tryd.prog 15 #[] w fun e w' => e = .returned (.bool true) ∧ On w w') (A : Nat) (la lb : List Nat) (va vb : Value) (w : World) (hT : Tab w) (hA : (A : Int) % 2 = 0) (hA1 : A ≤ 255) (hRa : Reads w va la) (hSa : Shape va la) (hRb : Reads w vb lb) (hSb : Shape vb lb) :
    Calls Tryd.prog 7 #[.int .u8 (A : Int), va, vb] w fun e w' => e = .returned (.bool true) ∧ On w w' := by
  have HV : Hid (validB 0 = true) := by unfold Hid; decide
  have HP : Hid (pOf 0 = 97) := by unfold Hid; decide
  have HWK := Lib.hid hWK
  obtain ⟨a1, c1, rfl, hc1, hd1, -⟩ := hSa
  obtain ⟨a2, c2, rfl, hc2, hd2, -⟩ := hSb
  obtain ⟨n1, hn1⟩ : ∃ n, n = min la.length 30 := ⟨_, rfl⟩
  obtain ⟨n2, hn2⟩ : ∃ n, n = min lb.length 30 := ⟨_, rfl⟩
  have hR1 := hRa.take 30 n1 hn1
  have hR2 := hRb.take 30 n2 hn2
  have hl1 : (la.take 30).length = n1 := by rw [List.length_take, hn1]; omega
  have hl2 : (lb.take 30).length = n2 := by rw [List.length_take, hn2]; omega
  have hnc1 : n1 ≤ c1 := by omega
  have hnc2 : n2 ≤ c2 := by omega
  have hn1l : n1 ≤ la.length := by omega
  have hn2l : n2 ≤ lb.length := by omega
  have hm1 : ∀ w, (Builtin.min_ #[3, 3] 3 #[.int .i64 (la.length : Int), .int .i64 30]).run Tryd.prog w = .ok (.int .i64 (n1 : Int)) w := fun w => by
    simp only [Builtin.min_, List.foldlM_cons, List.foldlM_nil, Builtin.min2]
    simp [Sem.run_bind]
    try (repeat' split) <;> (try simp) <;> omega
  have hm2 : ∀ w, (Builtin.min_ #[3, 3] 3 #[.int .i64 (lb.length : Int), .int .i64 30]).run Tryd.prog w = .ok (.int .i64 (n2 : Int)) w := fun w => by
    simp only [Builtin.min_, List.foldlM_cons, List.foldlM_nil, Builtin.min2]
    simp [Sem.run_bind]
    try (repeat' split) <;> (try simp) <;> omega
  have HSUB : Hid (∀ n, Calls Tryd.prog 29 #[.int .i64 0, .slice a1 n1 c1, .slice a2 n2 c2] (w.drewN n) fun e w' => (∃ u, e = .returned u ∧ Fre (w.drewN n).heap.size w' u (subL 0 (la.take 30) (lb.take 30))) ∧ On (w.drewN n) w') := fun n => psub_any 0 _ _ _ _ (w.drewN n) (hT.drewN n) (hR1.drewN n) (hR2.drewN n) (by rw [hl1]; omega) (by rw [hl2]; omega)
  have H0 : Hid (∀ n, On w (w.drewN n)) := fun n => (On.refl hT).drewN n
  obtain ⟨D, hD⟩ : ∃ D, D = subL 0 (la.take 30) (lb.take 30) := ⟨_, rfl⟩
  have HDU : Hid (∀ x ∈ D, x ≤ 18446744073709551615) := by rw [hD]; unfold subL; exact normF_bd
  have HDL : Hid (D.length ≤ 9223372036854775807) := by
    have h := normF_len 0 ((List.range (max (la.take 30).length (lb.take 30).length)).map fun i => subF 0 ((la.take 30).getD i 0) ((lb.take 30).getD i 0))
    rw [List.length_map, List.length_range] at h
    rw [hD]; unfold Hid subL; omega
  rw [← hD] at HSUB
  obtain ⟨L1, hL1⟩ : ∃ L, L = la.length := ⟨_, rfl⟩
  obtain ⟨L2, hL2⟩ : ∃ L, L = lb.length := ⟨_, rfl⟩
  rw [← hL1] at hm1 hc1 hn1l ⊢
  rw [← hL2] at hm2 hc2 hn2l ⊢
  clear hT hRa hRb hR1 hR2 hl1 hl2 hn1 hn2 hD hL1 hL2 hWK
  go_enter Tryd.func7, Tryd.ntmps7
  go_upto_region 2 with fail
  refine region_quiet_tail 11 (by kernel_rfl) (by kernel_rfl) ?_
  simp only [List.take_succ_cons, List.take_zero, List.drop_succ_cons, List.drop_zero]
  quiet_step (fail)
  quiet_step (fail)
  quiet_step (fail)
  quiet_step (fail)
  quiet_step (fail)
  refine BigFrame.wpQuiet_want (by rfl) (fun K hK => ?_)
  refine ⟨.slice a1 n1 c1, fun wq hwq => ?ky5, hK _ ?kr5⟩
  case ky5 => (go_simp)
  clear hK K
  try simp only [Act.put, List.setIfInBounds_toArray, List.set_cons_zero, List.set_cons_succ]
  quiet_step (fail)
  quiet_step (fail)
  quiet_step (fail)
  quiet_step (fail)
  refine BigFrame.wpQuiet_want (by rfl) (fun K hK => ?_)
  refine ⟨.slice a2 n2 c2, fun wq hwq => ?ky10, hK _ ?kr10⟩
  case ky10 => (go_simp)
  clear hK K
  try simp only [Act.put, List.setIfInBounds_toArray, List.set_cons_zero, List.set_cons_succ]
  refine wpQuiet_nil ?_
  intro _ hw'
  obtain ⟨nq, hw''⟩ := hw'
  subst hw''
  clear hm1 hm2
  go_wp2_with fail
  with_reducible refine (HSUB.out nq).mono ?_
  rintro e w2 ⟨⟨u, rfl, hF⟩, hO2⟩
  have HO2 := Lib.hid ((H0.out nq).trans hO2)
  have hR := hF.reads HDU.out HDL.out
  have HRD := Lib.hid hR
  obtain ⟨a, cap, rfl⟩ := reads_sl hR
  have HRT := Lib.hid (roots_yes 0 D _ w2 HO2.out.tab (by decide) hR)
  rw [HP.out] at HRT
  have HSOME : Hid (0 < (normF 0 D).length → cntR 0 D 97 ≤ (normF 0 D).length - 1) := fun h => by have := cntR_some HV.out h; rw [HP.out] at this; exact this
  have hcl := cntR_le 0 D 97
  have HNONE : Hid (normF 0 D = [] → cntR 0 D 97 = 97) := fun h => cntR_none 97 h
  clear hO2 hF hR
  go_wp2_with fail
  with_reducible refine HRT.out.mono ?_
  rintro e w3 ⟨rfl, hO3⟩
  have HO3 := Lib.hid (HO2.out.trans hO3)
  have HDG := Lib.hid (degree_any 0 D _ w3 HO3.out.tab (HRD.out.on hO3))
  have HW1 := Lib.hid (HWK.out w3 HO3.out.tab)
  have hnl := normF_len 0 D
  have hDl : D.length ≤ 9223372036854775807 := HRD.out.2.1
  obtain ⟨C, hC⟩ : ∃ C, C = cntR 0 D 97 := ⟨_, rfl⟩
  obtain ⟨G, hG⟩ : ∃ G, G = (normF 0 D).length := ⟨_, rfl⟩
  have hCG : (G = 0 ∧ C = 97) ∨ (0 < G ∧ C ≤ G - 1) := by
    rcases Nat.eq_zero_or_pos G with h | h
    · left; exact ⟨h, by rw [hC]; exact HNONE.out (List.length_eq_zero_iff.1 (hG ▸ h))⟩
    · right; refine ⟨h, ?_⟩; have := HSOME.out (hG ▸ h); rw [← hC, ← hG] at this; exact this
  rw [← hC] at hcl ⊢
  rw [← hG] at HDG hnl
  clear hC hG HNONE HSOME hO3 HRT
  have hix : ∀ w, (Instr.index 53 (.agg #[.int .i64 97, .int .i64 257]) (.int .i64 0)).run Tryd.prog w = .ok (.int .i64 97) w := fun _ => by kernel_rfl
  rcases hCG with ⟨rfl, rfl⟩ | ⟨h0, h1⟩
  · go_wp2_with fail
    with_reducible refine HDG.out.mono ?_
    rintro e w' ⟨rfl, rfl⟩
    go_wp2_with fail
    with_reducible refine HW1.out.mono ?_
    rintro e w9 ⟨rfl, hO9⟩
    have HO9 := Lib.hid (HO3.out.trans hO9)
    clear hO9
    go_wp2
    go_ret
    exact ⟨rfl, HO9.out⟩
  · obtain ⟨g, rfl⟩ : ∃ g, G = g + 1 := ⟨G - 1, by omega⟩
    have hg : (((g + 1 : Nat) : Int) - 1) = (g : Int) := by omega
    rw [hg] at HDG
    have hcg : (C : Int) ≤ (g : Int) := by omega
    clear h0 h1 hg
    go_wp2_with fail
    with_reducible refine HDG.out.mono ?_
    rintro e w' ⟨rfl, rfl⟩
    go_wp2_with fail
    with_reducible refine HDG.out.mono ?_
    rintro e w' ⟨rfl, rfl⟩
    go_wp2_with fail
    with_reducible refine HW1.out.mono ?_
    rintro e w9 ⟨rfl, hO9⟩
    have HO9 := Lib.hid (HO3.out.trans hO9)
    clear hO9
    go_wp2
    go_ret
    exact ⟨rfl, HO9.out⟩
set_option maxHeartbeats 4000000 in
theorem groots_any1 (hWK : ∀ w, Tab w → Calls Tryd.prog 15 #[] w fun e w' => e = .returned (.bool true) ∧ On w w') (A : Nat) (la lb : List Nat) (va vb : Value) (w : World) (hT : Tab w) (hA : (A : Int) % 2 = 1) (hA1 : A ≤ 255) (hRa : Reads w va la) (hSa : Shape va la) (hRb : Reads w vb lb) (hSb : Shape vb lb) :
    Calls Tryd.prog 7 #[.int .u8 (A : Int), va, vb] w fun e w' => e = .returned (.bool true) ∧ On w w' := by
  have HV : Hid (validB 1 = true) := by unfold Hid; decide
  have HP : Hid (pOf 1 = 257) := by unfold Hid; decide
  have HWK := Lib.hid hWK
  obtain ⟨a1, c1, rfl, hc1, hd1, -⟩ := hSa
  obtain ⟨a2, c2, rfl, hc2, hd2, -⟩ := hSb
  obtain ⟨n1, hn1⟩ : ∃ n, n = min la.length 30 := ⟨_, rfl⟩
  obtain ⟨n2, hn2⟩ : ∃ n, n = min lb.length 30 := ⟨_, rfl⟩
  have hR1 := hRa.take 30 n1 hn1
  have hR2 := hRb.take 30 n2 hn2
  have hl1 : (la.take 30).length = n1 := by rw [List.length_take, hn1]; omega
  have hl2 : (lb.take 30).length = n2 := by rw [List.length_take, hn2]; omega
  have hnc1 : n1 ≤ c1 := by omega
  have hnc2 : n2 ≤ c2 := by omega
  have hn1l : n1 ≤ la.length := by omega
  have hn2l : n2 ≤ lb.length := by omega
  have hm1 : ∀ w, (Builtin.min_ #[3, 3] 3 #[.int .i64 (la.length : Int), .int .i64 30]).run Tryd.prog w = .ok (.int .i64 (n1 : Int)) w := fun w => by
    simp only [Builtin.min_, List.foldlM_cons, List.foldlM_nil, Builtin.min2]
    simp [Sem.run_bind]
    try (repeat' split) <;> (try simp) <;> omega
  have hm2 : ∀ w, (Builtin.min_ #[3, 3] 3 #[.int .i64 (lb.length : Int), .int .i64 30]).run Tryd.prog w = .ok (.int .i64 (n2 : Int)) w := fun w => by
    simp only [Builtin.min_, List.foldlM_cons, List.foldlM_nil, Builtin.min2]
    simp [Sem.run_bind]
    try (repeat' split) <;> (try simp) <;> omega
  have HSUB : Hid (∀ n, Calls Tryd.prog 29 #[.int .i64 1, .slice a1 n1 c1, .slice a2 n2 c2] (w.drewN n) fun e w' => (∃ u, e = .returned u ∧ Fre (w.drewN n).heap.size w' u (subL 1 (la.take 30) (lb.take 30))) ∧ On (w.drewN n) w') := fun n => psub_any 1 _ _ _ _ (w.drewN n) (hT.drewN n) (hR1.drewN n) (hR2.drewN n) (by rw [hl1]; omega) (by rw [hl2]; omega)
  have H0 : Hid (∀ n, On w (w.drewN n)) := fun n => (On.refl hT).drewN n
  obtain ⟨D, hD⟩ : ∃ D, D = subL 1 (la.take 30) (lb.take 30) := ⟨_, rfl⟩
  have HDU : Hid (∀ x ∈ D, x ≤ 18446744073709551615) := by rw [hD]; unfold subL; exact normF_bd
  have HDL : Hid (D.length ≤ 9223372036854775807) := by
    have h := normF_len 1 ((List.range (max (la.take 30).length (lb.take 30).length)).map fun i => subF 1 ((la.take 30).getD i 0) ((lb.take 30).getD i 0))
    rw [List.length_map, List.length_range] at h
    rw [hD]; unfold Hid subL; omega
  rw [← hD] at HSUB
  obtain ⟨L1, hL1⟩ : ∃ L, L = la.length := ⟨_, rfl⟩
  obtain ⟨L2, hL2⟩ : ∃ L, L = lb.length := ⟨_, rfl⟩
  rw [← hL1] at hm1 hc1 hn1l ⊢
  rw [← hL2] at hm2 hc2 hn2l ⊢
  clear hT hRa hRb hR1 hR2 hl1 hl2 hn1 hn2 hD hL1 hL2 hWK
  go_enter Tryd.func7, Tryd.ntmps7
  go_upto_region 2 with fail
  refine region_quiet_tail 11 (by kernel_rfl) (by kernel_rfl) ?_
  simp only [List.take_succ_cons, List.take_zero, List.drop_succ_cons, List.drop_zero]
  quiet_step (fail)
  quiet_step (fail)
  quiet_step (fail)
  quiet_step (fail)
  quiet_step (fail)
  refine BigFrame.wpQuiet_want (by rfl) (fun K hK => ?_)
  refine ⟨.slice a1 n1 c1, fun wq hwq => ?ky5, hK _ ?kr5⟩
  case ky5 => (go_simp)
  clear hK K
  try simp only [Act.put, List.setIfInBounds_toArray, List.set_cons_zero, List.set_cons_succ]
  quiet_step (fail)
  quiet_step (fail)
  quiet_step (fail)
  quiet_step (fail)
  refine BigFrame.wpQuiet_want (by rfl) (fun K hK => ?_)
  refine ⟨.slice a2 n2 c2, fun wq hwq => ?ky10, hK _ ?kr10⟩
  case ky10 => (go_simp)
  clear hK K
  try simp only [Act.put, List.setIfInBounds_toArray, List.set_cons_zero, List.set_cons_succ]
  refine wpQuiet_nil ?_
  intro _ hw'
  obtain ⟨nq, hw''⟩ := hw'
  subst hw''
  clear hm1 hm2
  go_wp2_with fail
  with_reducible refine (HSUB.out nq).mono ?_
  rintro e w2 ⟨⟨u, rfl, hF⟩, hO2⟩
  have HO2 := Lib.hid ((H0.out nq).trans hO2)
  have hR := hF.reads HDU.out HDL.out
  have HRD := Lib.hid hR
  obtain ⟨a, cap, rfl⟩ := reads_sl hR
  have HRT := Lib.hid (roots_yes 1 D _ w2 HO2.out.tab (by decide) hR)
  rw [HP.out] at HRT
  have HSOME : Hid (0 < (normF 1 D).length → cntR 1 D 257 ≤ (normF 1 D).length - 1) := fun h => by have := cntR_some HV.out h; rw [HP.out] at this; exact this
  have hcl := cntR_le 1 D 257
  have HNONE : Hid (normF 1 D = [] → cntR 1 D 257 = 257) := fun h => cntR_none 257 h
  clear hO2 hF hR
  go_wp2_with fail
  with_reducible refine HRT.out.mono ?_
  rintro e w3 ⟨rfl, hO3⟩
  have HO3 := Lib.hid (HO2.out.trans hO3)
  have HDG := Lib.hid (degree_any 1 D _ w3 HO3.out.tab (HRD.out.on hO3))
  have HW1 := Lib.hid (HWK.out w3 HO3.out.tab)
  have hnl := normF_len 1 D
  have hDl : D.length ≤ 9223372036854775807 := HRD.out.2.1
  obtain ⟨C, hC⟩ : ∃ C, C = cntR 1 D 257 := ⟨_, rfl⟩
  obtain ⟨G, hG⟩ : ∃ G, G = (normF 1 D).length := ⟨_, rfl⟩
  have hCG : (G = 0 ∧ C = 257) ∨ (0 < G ∧ C ≤ G - 1) := by
    rcases Nat.eq_zero_or_pos G with h | h
    · left; exact ⟨h, by rw [hC]; exact HNONE.out (List.length_eq_zero_iff.1 (hG ▸ h))⟩
    · right; refine ⟨h, ?_⟩; have := HSOME.out (hG ▸ h); rw [← hC, ← hG] at this; exact this
  rw [← hC] at hcl ⊢
  rw [← hG] at HDG hnl
  clear hC hG HNONE HSOME hO3 HRT
  have hix : ∀ w, (Instr.index 53 (.agg #[.int .i64 97, .int .i64 257]) (.int .i64 1)).run Tryd.prog w = .ok (.int .i64 257) w := fun _ => by kernel_rfl
  rcases hCG with ⟨rfl, rfl⟩ | ⟨h0, h1⟩
  · go_wp2_with fail
    with_reducible refine HDG.out.mono ?_
    rintro e w' ⟨rfl, rfl⟩
    go_wp2_with fail
    with_reducible refine HW1.out.mono ?_
    rintro e w9 ⟨rfl, hO9⟩
    have HO9 := Lib.hid (HO3.out.trans hO9)
    clear hO9
    go_wp2
    go_ret
    exact ⟨rfl, HO9.out⟩
  · obtain ⟨g, rfl⟩ : ∃ g, G = g + 1 := ⟨G - 1, by omega⟩
    have hg : (((g + 1 : Nat) : Int) - 1) = (g : Int) := by omega
    rw [hg] at HDG
    have hcg : (C : Int) ≤ (g : Int) := by omega
    clear h0 h1 hg
    go_wp2_with fail
    with_reducible refine HDG.out.mono ?_
    rintro e w' ⟨rfl, rfl⟩
    go_wp2_with fail
    with_reducible refine HDG.out.mono ?_
    rintro e w' ⟨rfl, rfl⟩
    go_wp2_with fail
    with_reducible refine HW1.out.mono ?_
    rintro e w9 ⟨rfl, hO9⟩
    have HO9 := Lib.hid (HO3.out.trans hO9)
    clear hO9
    go_wp2
    go_ret
    exact ⟨rfl, HO9.out⟩
end Go.Proofs.YthgidehapcfciaaDoor
