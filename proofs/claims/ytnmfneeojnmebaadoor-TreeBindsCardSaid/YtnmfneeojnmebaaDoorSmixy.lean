/- The sponge's mixer of a field that there is: what the call returns. -/
import Derived.Test.YtnmfneeojnmebaaDoorSmix
import Derived.Test.YtnmfneeojnmebaaDoorQheld
namespace Go.Proofs.YtnmfneeojnmebaaDoor
open Go.RowKit
set_option linter.unusedVariables false

set_option maxHeartbeats 1000000 in
set_option maxRecDepth 100000 in
theorem mixer_yes (f : Int) (w : World) (hT : Tab w) (hv : validB f = true) :
    Calls Tryd.prog 54 #[.int .i64 f] w fun e w' => e = .returned (.tuple #[.agg (mixV f (pOf f) (expOf f) (shareF (pOf f)) fun i => cstF f (i / 4) (i % 4)).toArray, .bool true]) ∧ On w w' := by
  have HV := Lib.hid hv
  have hp := (valid_iff f).1 hv
  have hle := pOf_le f
  clear hv
  have HX := Lib.hid (fun u (h : Tab u) => of_any f u u (On.refl h))
  have HO := Lib.hid (On.refl hT)
  have HTh := Lib.hid (there_new w (mixV 0 0 0 0 fun _ => 0).toArray 81)
  clear hT
  go_enter Tryd.func54, Tryd.ntmps54
  go_wp2_with fail
  with_reducible refine (HX.out _ ?_).mono ?_
  · exact (HO.out.alloc _).tab
  rintro e w1 ⟨rfl, hO1⟩
  have HT1 : Hid (w1.there w.heap.size 0 36) := there_on HTh.out hO1 (by simp)
  have HO1 := Lib.hid ((HO.out.alloc _).trans hO1)
  have hz : w.heap.size < w1.heap.size := by have := hO1.size; simp at this; omega
  clear hO1 HTh
  rw [HV.out]
  unfold ofV
  go_upto_region 4 with (fail)
  obtain ⟨w2, hw2⟩ : ∃ w2, w2 = (w1.alloc (.cells #[.int .u64 ((pOf f : Nat) : Int), .int .u64 ((gOf f : Nat) : Int), .int .i64 ((twoOf f : Nat) : Int), .int .u64 ((expOf f : Nat) : Int)] 93)) := ⟨_, rfl⟩
  have hO12 : On w1 w2 := by rw [hw2]; exact (On.refl HO1.out.tab).alloc _
  have HT2 := Lib.hid (there_on HT1.out hO12 hz)
  have HO2 := Lib.hid (HO1.out.trans hO12)
  have hz2 : w2.heap.size = w1.heap.size + 1 := by rw [hw2]; simp
  have hc0 : w2.cell? ⟨w1.heap.size, 0, none⟩ = some (.int .u64 ((pOf f : Nat) : Int)) := by rw [hw2]; simp [World.cell?_alloc_new]
  have hc1 : w2.cell? ⟨w1.heap.size, 1, none⟩ = some (.int .u64 ((gOf f : Nat) : Int)) := by rw [hw2]; simp [World.cell?_alloc_new]
  have hc3 : w2.cell? ⟨w1.heap.size, 3, none⟩ = some (.int .u64 ((expOf f : Nat) : Int)) := by rw [hw2]; simp [World.cell?_alloc_new]
  rw [← hw2]
  clear hw2 hO12 HT1 HO1
  have HBX : Hid (∀ w', On w2 w' → w'.cell? ⟨w1.heap.size, 0, none⟩ = some (.int .u64 ((pOf f : Nat) : Int)) ∧ w'.cell? ⟨w1.heap.size, 3, none⟩ = some (.int .u64 ((expOf f : Nat) : Int))) := fun w' h => ⟨by rw [h.cell (by simp; omega)]; exact hc0, by rw [h.cell (by simp; omega)]; exact hc3⟩
  have HC1 : Hid (∀ w', On w2 w' → w'.cell? ⟨w1.heap.size, 1, none⟩ = some (.int .u64 ((gOf f : Nat) : Int))) := fun w' h => by rw [h.cell (by simp; omega)]; exact hc1
  clear hc0 hc1 hc3
  have hq0 := eq0_pos hp
  have hqs : (18446744073709551615 : Int) / ((pOf f : Nat) : Int) = ((shareF (pOf f) : Nat) : Int) := by unfold shareF; rw [Int.natCast_ediv]; rfl
  have hne : ¬ (pOf f = 0) := by omega
  have hqt : IntKind.u64.wrap (Int.tdiv 18446744073709551615 ((pOf f : Nat) : Int)) = ((shareF (pOf f) : Nat) : Int) := by
    rw [Int.tdiv_eq_ediv_of_nonneg (by omega), hqs]; exact IntWalk.u64_in _ (by have : shareF (pOf f) ≤ 18446744073709551615 := Nat.div_le_self _ _; omega)
  have hsl : shareF (pOf f) ≤ 18446744073709551615 := Nat.div_le_self _ _
  obtain ⟨S, hS⟩ : ∃ S, S = shareF (pOf f) := ⟨_, rfl⟩
  obtain ⟨P, hP⟩ : ∃ P, P = pOf f := ⟨_, rfl⟩
  obtain ⟨Z, hZ⟩ : ∃ Z, Z = (mixV f P (expOf f) S fun _ => 0).toArray := ⟨_, rfl⟩
  have HBM : Hid (∀ w, (Instr.build 81 [(0, .int .i64 f), (1, .int .u64 (P : Int)), (2, .int .u64 ((expOf f : Nat) : Int)), (3, .int .u64 (S : Int))].toArray).run Tryd.prog w = .ok (.agg Z) w) := fun w => by rw [hZ]; exact build_mix f P (expOf f) S w
  have HZ1 : Hid ((Z.all fun x => x.oneCell') = true) := by rw [hZ]; exact mixV_one _ _ _ _ _
  have HZ2 : Hid (Z.size = 36) := by rw [hZ]; rfl
  rw [← hS] at hqs hqt hsl
  rw [← hP] at hqs hqt hne hq0 HBX hp hle
  rw [← hP]
  have HP := Lib.hid hP; have HS := Lib.hid hS; have HZ := Lib.hid hZ
  clear hP hS hZ
  refine region_head_tail (S := fun wq => On w2 wq) 10 (by kernel_rfl) (by kernel_rfl) ?_
  have hSd : On w2 w2.drew := (On.refl HO2.out.tab).drew
  refine HeadG.take (i := 0) (v := ?hmv0) rfl (by kernel_rfl) (by kernel_rfl) (by kernel_rfl) (by kernel_rfl) (by kernel_rfl) (by kernel_rfl) (by kernel_rfl) (fun _ _ _ h => h) (Or.inl ⟨by rfl, ?hmy0⟩) hSd ?hmr0
  case hmy0 => (intro w' hSw; obtain ⟨e1, e2⟩ := HBX.out w' hSw; go_simp; try with_reducible rfl)
  try simp only [Act.put, List.setIfInBounds_toArray, List.set_cons_zero, List.set_cons_succ, List.getElem_toArray, List.getElem_cons_zero, List.getElem_cons_succ]
  refine HeadG.take (i := 1) (v := ?hmv1) rfl (by kernel_rfl) (by kernel_rfl) (by kernel_rfl) (by kernel_rfl) (by kernel_rfl) (by kernel_rfl) (by kernel_rfl) (fun _ _ _ h => h) (Or.inl ⟨by rfl, ?hmy1⟩) hSd ?hmr1
  case hmy1 => (intro w' hSw; obtain ⟨e1, e2⟩ := HBX.out w' hSw; go_simp; try with_reducible rfl)
  try simp only [Act.put, List.setIfInBounds_toArray, List.set_cons_zero, List.set_cons_succ, List.getElem_toArray, List.getElem_cons_zero, List.getElem_cons_succ]
  refine HeadG.take (i := 2) (v := ?hmv2) rfl (by kernel_rfl) (by kernel_rfl) (by kernel_rfl) (by kernel_rfl) (by kernel_rfl) (by kernel_rfl) (by kernel_rfl) (fun _ _ _ h => h) (Or.inl ⟨by rfl, ?hmy2⟩) hSd ?hmr2
  case hmy2 => (intro w' hSw; obtain ⟨e1, e2⟩ := HBX.out w' hSw; go_simp; try with_reducible rfl)
  try simp only [Act.put, List.setIfInBounds_toArray, List.set_cons_zero, List.set_cons_succ, List.getElem_toArray, List.getElem_cons_zero, List.getElem_cons_succ]
  refine HeadG.take (i := 3) (v := ?hmv3) rfl (by kernel_rfl) (by kernel_rfl) (by kernel_rfl) (by kernel_rfl) (by kernel_rfl) (by kernel_rfl) (by kernel_rfl) (fun _ _ _ h => h) (Or.inl ⟨by rfl, ?hmy3⟩) hSd ?hmr3
  case hmy3 => (intro w' hSw; obtain ⟨e1, e2⟩ := HBX.out w' hSw; go_simp; try with_reducible rfl)
  try simp only [Act.put, List.setIfInBounds_toArray, List.set_cons_zero, List.set_cons_succ, List.getElem_toArray, List.getElem_cons_zero, List.getElem_cons_succ]
  refine HeadG.take (i := 4) (v := ?hmv4) rfl (by kernel_rfl) (by kernel_rfl) (by kernel_rfl) (by kernel_rfl) (by kernel_rfl) (by kernel_rfl) (by kernel_rfl) (fun _ _ _ h => h) (Or.inl ⟨by rfl, ?hmy4⟩) hSd ?hmr4
  case hmy4 => (intro w' hSw; obtain ⟨e1, e2⟩ := HBX.out w' hSw; go_simp; try with_reducible rfl)
  try simp only [Act.put, List.setIfInBounds_toArray, List.set_cons_zero, List.set_cons_succ, List.getElem_toArray, List.getElem_cons_zero, List.getElem_cons_succ]
  refine HeadG.take (i := 5) (v := ?hmv5) rfl (by kernel_rfl) (by kernel_rfl) (by kernel_rfl) (by kernel_rfl) (by kernel_rfl) (by kernel_rfl) (by kernel_rfl) (fun _ _ _ h => h) (Or.inl ⟨by rfl, ?hmy5⟩) hSd ?hmr5
  case hmy5 => (intro w' hSw; obtain ⟨e1, e2⟩ := HBX.out w' hSw; go_simp; try with_reducible rfl)
  try simp only [Act.put, List.setIfInBounds_toArray, List.set_cons_zero, List.set_cons_succ, List.getElem_toArray, List.getElem_cons_zero, List.getElem_cons_succ]
  refine HeadG.take (i := 6) (v := ?hmv6) rfl (by kernel_rfl) (by kernel_rfl) (by kernel_rfl) (by kernel_rfl) (by kernel_rfl) (by kernel_rfl) (by kernel_rfl) (fun _ _ _ h => h) (Or.inl ⟨by rfl, ?hmy6⟩) hSd ?hmr6
  case hmy6 => (intro w' hSw; obtain ⟨e1, e2⟩ := HBX.out w' hSw; go_simp; try with_reducible rfl)
  try simp only [Act.put, List.setIfInBounds_toArray, List.set_cons_zero, List.set_cons_succ, List.getElem_toArray, List.getElem_cons_zero, List.getElem_cons_succ]
  refine HeadG.take (i := 7) (v := ?hmv7) rfl (by kernel_rfl) (by kernel_rfl) (by kernel_rfl) (by kernel_rfl) (by kernel_rfl) (by kernel_rfl) (by kernel_rfl) (fun _ _ _ h => h) (Or.inl ⟨by rfl, ?hmy7⟩) hSd ?hmr7
  case hmy7 => (intro w' hSw; obtain ⟨e1, e2⟩ := HBX.out w' hSw; go_simp; try with_reducible rfl)
  try simp only [Act.put, List.setIfInBounds_toArray, List.set_cons_zero, List.set_cons_succ, List.getElem_toArray, List.getElem_cons_zero, List.getElem_cons_succ]
  refine HeadG.take (i := 8) (v := .agg Z) rfl (by kernel_rfl) (by kernel_rfl) (by kernel_rfl) (by kernel_rfl) (by kernel_rfl) (by kernel_rfl) (by kernel_rfl) (fun _ _ _ h => h) (yieldsIf_built (by rfl) 81 [(0, .tmp 18), (1, .tmp 20), (2, .tmp 22), (3, .tmp 25)] rfl [(0, .int .i64 f), (1, .int .u64 (P : Int)), (2, .int .u64 ((expOf f : Nat) : Int)), (3, .int .u64 (S : Int))] rfl Z HBM.out) hSd ?_
  try simp only [Act.put, List.setIfInBounds_toArray, List.set_cons_zero, List.set_cons_succ, List.getElem_toArray, List.getElem_cons_zero, List.getElem_cons_succ]
  refine HeadG.one (i := 9) rfl (by kernel_rfl) (by kernel_rfl) (fun K9 hK9 => ?_)
  go_simp
  refine hK9.out _ _ ((On.refl HO2.out.tab).drew.alloc _) ?_
  clear hK9 K9
  try simp only [Act.put, List.setIfInBounds_toArray, List.set_cons_zero, List.set_cons_succ, List.getElem_toArray, List.getElem_cons_zero, List.getElem_cons_succ]
  refine HeadG.last (i := 10) rfl (by kernel_rfl) (by kernel_rfl) (by kernel_rfl) (fun K9 hK9 => ?_)
  rw [if_pos (by rfl)]
  refine wp_store_mid 81 (.tmp 6) (.tmp 26) rfl (w1.heap.size + 1) 0 Z rfl rfl (by rw [HZ2.out, ← hz2]; exact there_new w2.drew (mixV 0 0 0 0 fun _ => 0).toArray 81) (by rw [HZ2.out]; exact info_mix) HZ1.out ?_
  refine hK9.out _ _ ?_
  clear hK9 K9
  try simp only [Act.put, List.setIfInBounds_toArray, List.set_cons_zero, List.set_cons_succ, List.getElem_toArray, List.getElem_cons_zero, List.getElem_cons_succ]
  obtain ⟨w3, hw3⟩ : ∃ w3, w3 = (w2.drew.alloc (.cells (mixV 0 0 0 0 fun _ => 0).toArray 81)) := ⟨_, rfl⟩
  have hO23 : On w2 w3 := by rw [hw3]; exact (On.refl HO2.out.tab).drew.alloc _
  have ht3 : w3.there (w1.heap.size + 1) 0 36 := by rw [hw3, ← hz2]; exact there_new w2.drew (mixV 0 0 0 0 fun _ => 0).toArray 81
  have hz3 : w1.heap.size + 1 < w3.heap.size := by rw [hw3, ← hz2]; simp
  have HM3 : Hid (Mp f P (expOf f) S (w1.heap.size + 1) (fun _ => 0) (w3.setCells (w1.heap.size + 1) 0 Z.toList)) := by rw [HZ.out]; exact mp_stored hz3 ht3
  have HO3 : Hid (On w2 (w3.setCells (w1.heap.size + 1) 0 Z.toList)) := On.setCells (by omega) _ _ _ hO23
  have e3 : w3 = (w2.alloc (.cells (mixV 0 0 0 0 fun _ => 0).toArray 81)).drew := by rw [hw3]; rfl
  have HW3 := Lib.hid e3
  clear hw3 hO23 ht3 hz3 e3
  show Exit.then _ _ Exit.normal _ (((w2.alloc (.cells (mixV 0 0 0 0 fun _ => 0).toArray 81)).drew).setCells _ _ _)
  rw [← HW3.out]
  generalize w3.setCells (w1.heap.size + 1) 0 Z.toList = w4 at *
  clear HW3
  have hg := gOf_le f
  have HRD : Hid (∀ wr C n, Mp f P (expOf f) S (w1.heap.size + 1) C wr → n ≤ 18446744073709551615 → Calls Tryd.prog 57 #[.pointer (some ⟨w1.heap.size + 1, 0, none⟩), .int .u64 ((n : Nat) : Int)] wr fun e w' => e = .returned (.int .u64 ((n % P : Nat) : Int)) ∧ wr = w') := fun wr C n h hn => by
    have h1 := h.c1; have h3 := h.c3
    rw [HP.out] at h1 ⊢
    rw [HS.out] at h3
    exact reduce_s f _ n wr (by rw [← HP.out]; exact hp) h1 h3 hn
  have HPS : Hid (∀ m, powF f (gOf f) m * gOf f % P = powF f (gOf f) (m + 1)) := fun m => by
    have hp' : 0 < pOf f := by rw [← HP.out]; exact hp
    rw [powF_pos _ _ _ hp', powF_pos _ _ _ hp', HP.out, Nat.mod_mul_mod, Nat.pow_succ]
  have HCS : Hid (∀ r j, (powF f (gOf f) (4 * r + j + 1) + 7) % P = cstF f r j) := fun r j => by
    have hp' : 0 < pOf f := by rw [← HP.out]; exact hp
    unfold cstF; rw [addF_pos _ _ _ hp', HP.out]
  have HPB : Hid (∀ m, powF f (gOf f) m ≤ 998244353) := fun m => powF_le _ _ _
  have hpw0 : Hid (powF f (gOf f) 0 = 1) := powF_nil f _ HV.out
  go_wp2_with fail
  go_loopw [7, 27] (fun vp vi wr => ∃ r : Nat, r ≤ 8 ∧ vi = .int .i64 (r : Int) ∧ vp = .int .u64 ((powF f (gOf f) (4 * r) : Nat) : Int) ∧ Hid (Mp f P (expOf f) S (w1.heap.size + 1) (fun i => if i < 4 * r then cstF f (i / 4) (i % 4) else 0) wr) ∧ Hid (On w2 wr)) (fun _ vi _ => 8 - (intOf vi).toNat)
  case atStart => exact ⟨0, by omega, rfl, by rw [Nat.mul_zero, hpw0.out]; rfl, HM3.out.ext (fun i hi => by simp), HO3.out⟩
  case round =>
    obtain ⟨r, hr, rfl, rfl, HM, HO⟩ := hrel
    by_cases hr8 : r < 8
    · have hr1 : (0 : Int) ≤ (r : Int) := by omega
      have hr2 : (r : Int) < 8 := by omega
      go_wp2_with fail
      generalize wr = w5 at *
      go_loopw [7, 30] (fun vp vi wr => ∃ j : Nat, j ≤ 4 ∧ vi = .int .i64 (j : Int) ∧ vp = .int .u64 ((powF f (gOf f) (4 * r + j) : Nat) : Int) ∧ Hid (Mp f P (expOf f) S (w1.heap.size + 1) (fun i => if i < 4 * r + j then cstF f (i / 4) (i % 4) else 0) wr) ∧ Hid (On w2 wr)) (fun _ vi _ => 4 - (intOf vi).toNat)
      case atStart => exact ⟨0, by omega, rfl, rfl, HM, HO⟩
      case round =>
        obtain ⟨j, hj, rfl, rfl, HM', HO'⟩ := hrel
        by_cases hj4 : j < 4
        · have hcg := HC1.out wr HO'.out
          have hpb := HPB.out (4 * r + j)
          have hpb1 := HPB.out (4 * r + j + 1)
          have hps := HPS.out (4 * r + j)
          have hcs := HCS.out r j
          have hcell : wr.cell? ⟨w1.heap.size + 1, 4 + r * 4 + j, none⟩ = some (.int .u64 0) := by
            have := HM'.out.cell (r * 4 + j) (by omega)
            rw [if_neg (by omega), ← Nat.add_assoc] at this; exact this
          have hfrz : wr.frozen? ⟨w1.heap.size + 1, 4 + r * 4 + j, none⟩ = false := HM'.out.fr _ (by omega)
          have HM2 : Hid (∀ v, v = cstF f r j → Mp f P (expOf f) S (w1.heap.size + 1) (fun i => if i < 4 * r + (j + 1) then cstF f (i / 4) (i % 4) else 0) (wr.setCell ⟨w1.heap.size + 1, 4 + r * 4 + j, none⟩ (.int .u64 ((v : Nat) : Int)))) := fun v hv => by
            have := HM'.out.put (r * 4 + j) v (by omega)
            rw [← Nat.add_assoc] at this
            refine this.ext fun i hi => ?_
            by_cases h1 : i = r * 4 + j
            · subst h1; rw [if_pos rfl, if_pos (by omega), hv, show (r * 4 + j) / 4 = r by omega, show (r * 4 + j) % 4 = j by omega]
            · by_cases h2 : i < 4 * r + j
              · rw [if_neg h1, if_pos h2, if_pos (by omega)]
              · rw [if_neg h1, if_neg h2, if_neg (by omega)]
          have HO2' : Hid (∀ u, On w2 (wr.setCell ⟨w1.heap.size + 1, 4 + r * 4 + j, none⟩ u)) := fun u => HO'.out.setCell (by simp; omega) u
          generalize powF f (gOf f) (4 * r + j) = A at *
          generalize hB : powF f (gOf f) (4 * r + j + 1) = B at *
          have HB := Lib.hid hB
          clear hB
          obtain ⟨X, hX⟩ : ∃ X, X = A * gOf f := ⟨_, rfl⟩
          have hXl : X ≤ 10980687883 := by rw [hX]; exact Nat.le_trans (Nat.mul_le_mul hpb hg) (by decide)
          have hX1 : IntKind.u64.wrap ((A : Int) * ((gOf f : Nat) : Int)) = (X : Int) := by rw [← Int.natCast_mul, ← hX]; exact IntWalk.u64_in _ (by omega)
          have hX2 : (A : Int) * ((gOf f : Nat) : Int) = (X : Int) := by rw [← Int.natCast_mul, ← hX]
          rw [← hX] at hps
          have HPS' := Lib.hid hps
          have HCS' := Lib.hid hcs
          clear hX hps hcs
          go_wp2_with fail
          with_reducible refine (HRD.out _ _ X HM'.out ?_).mono ?_
          · omega
          rintro e w' ⟨rfl, rfl⟩
          rw [HPS'.out]
          obtain ⟨Y, hY⟩ : ∃ Y, Y = B + 7 := ⟨_, rfl⟩
          have hYl : Y ≤ 998244360 := by omega
          have hY1 : IntKind.u64.wrap ((B : Int) + 7) = (Y : Int) := by rw [hY]; exact IntWalk.u64_in _ (by omega)
          have hm : Y % P = cstF f r j := by rw [hY]; exact HCS'.out
          have HRQ : Hid (∀ n, Calls Tryd.prog 57 #[.pointer (some ⟨w1.heap.size + 1, 0, none⟩), .int .u64 (Y : Int)] (wr.drewN n) fun e w' => e = .returned (.int .u64 ((cstF f r j : Nat) : Int)) ∧ wr.drewN n = w') := fun n => by
            have h := HRD.out (wr.drewN n) _ Y (HM'.out.drewN n) (by omega)
            rw [hm] at h; exact h
          clear hY hm
          have hr1 : (0 : Int) ≤ (r : Int) := by omega
          have hr2 : (r : Int) < 8 := by omega
          have hj1 : (0 : Int) ≤ (j : Int) := by omega
          have hj2 : (j : Int) < 4 := by omega
          go_wp2_with fail
          refine region_quiet_tail 8 (by kernel_rfl) (by kernel_rfl) ?_
          simp only [List.take_succ_cons, List.take_zero, List.drop_succ_cons, List.drop_zero]
          repeat (quiet_step ((go_at_call 57; exact quiet_of_eq (HRQ.out _))))
          refine wpQuiet_nil ?_
          intro _ hw'
          obtain ⟨nq, hw''⟩ := hw'
          subst hw''
          have hca2 : (wr.drewN nq).cell? ⟨w1.heap.size + 1, 4 + r * 4 + j, none⟩ = _ := hcell
          have hfa2 : (wr.drewN nq).frozen? ⟨w1.heap.size + 1, 4 + r * 4 + j, none⟩ = false := hfrz
          go_wp2_with fail
          go_roundw
          case rel => exact ⟨j + 1, by omega, by go_num, by rw [← HB.out]; rfl, (HM2.out _ rfl).drewN nq, (HO2'.out _).drewN nq⟩
          case measure => simp [intOf]; omega
        · obtain rfl : j = 4 := by omega
          go_wp2_with fail
          go_roundw
          case rel => exact ⟨r + 1, by omega, by go_num, rfl, HM', HO'⟩
          case measure => simp [intOf]; omega
    · obtain rfl : r = 8 := by omega
      have HM8 := Lib.hid (HM.out.ext (C' := fun i => cstF f (i / 4) (i % 4)) fun i hi => by rw [if_pos (by omega)])
      have HT5 := Lib.hid (there_on HT2.out HO.out (by omega))
      clear HM HT2 HM3 HO3 HRD HPS HCS
      go_upto_region 16 with (fail)
      obtain ⟨V, hV⟩ : ∃ V, V = mixV f P (expOf f) S fun i => cstF f (i / 4) (i % 4) := ⟨_, rfl⟩
      have hVl : V.length = 36 := by rw [hV]; rfl
      have HVo : Hid (V.toArray.all (·.oneCell') = true) := by rw [hV]; exact mixV_one _ _ _ _ _
      have HR8 := Lib.hid HM8.out.rg
      rw [← hV] at HR8
      have HVE := Lib.hid hV
      have HVL := Lib.hid hVl
      clear hV hVl
      refine wp_region_lit ?_
      refine wpList_load_mid rfl 81 (.tmp 6) rfl (w1.heap.size + 1) 0 rfl V _ HR8.out Tryd.underlying81 rfl (by rw [HVL.out]; exact info_mix) ?_
      refine wpList_store_mid rfl 81 (.tmp 2) (.tmp 48) rfl w.heap.size 0 V.toArray rfl rfl (by show wr.there w.heap.size 0 V.length; rw [HVL.out]; exact HT5.out) (by show _ = some V.length; rw [HVL.out]; exact info_mix) HVo.out ?_
      go_wp2
      have hl := run_loadVar_mid (P := Tryd.prog) _ w.heap.size 0 81 V _ (World.rangeAt_setCells_same wr w.heap.size 0 V (by rw [HVL.out]; exact HT5.out)) Tryd.underlying81 rfl (by rw [HVL.out]; exact info_mix)
      refine bodyPost_ret (results_cell2 rfl _ rfl hl) rfl ⟨by rw [HVE.out, HP.out, HS.out]; rfl, On.setCells (Nat.le_refl _) _ _ _ (HO2.out.trans HO.out)⟩
end Go.Proofs.YtnmfneeojnmebaaDoor
