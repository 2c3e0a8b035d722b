/- The sponge's mixer of a field that there is: what the call returns. -/
import Derived.Test.YthepmahjpejmdaaDoorKu10
import Derived.Test.YthepmahjpejmdaaDoorKu11
import Derived.Test.YthepmahjpejmdaaDoorKu04
import Derived.Test.YthepmahjpejmdaaDoorKu12
set_option linter.unusedSimpArgs false
set_option linter.unusedVariables false
/- The sponge's mixer of a field that there is: what the call returns. -/
namespace Go.Proofs.YthepmahjpejmdaaDoor
open Go.RowKit
set_option linter.unusedVariables false

set_option maxHeartbeats 1000000 in
set_option maxRecDepth 100000 in
theorem mixer_yes (f : Int) (w : World) (hT : Tab w) (hv : validB f = true) :
    Calls Tryd.prog 51 #[.int .i64 f] w fun e w' => e = .returned (.tuple #[.agg (mixV f (pOf f) (expOf f) (shareF (pOf f)) fun i => cstF f (i / 4) (i % 4)).toArray, .bool true]) ∧ On w w' := by
  have HV := Lib.hid hv
  have hp := (valid_iff f).1 hv
  have hle := pOf_le f
  clear hv
  have HX := Lib.hid (fun u (h : Tab u) => of_any f u u (On.refl h))
  have HO := Lib.hid (On.refl hT)
  have HTh := Lib.hid (there_new w (mixV 0 0 0 0 fun _ => 0).toArray 85)
  clear hT
  go_enter Tryd.func51, Tryd.ntmps51
  go_wp2_with fail
  with_reducible refine (HX.out _ ?_).mono ?_
  · exact (HO.out.alloc _).tab
  rintro e w1 ⟨rfl, hO1⟩
  have HT1 : Hid (w1.there w.heap.size 0 36) := there_on HTh.out hO1 (by simp)
  have HO1 := Lib.hid ((HO.out.alloc _).trans hO1)
  have hz : w.heap.size < w1.heap.size := by have := hO1.size; simp at this; omega
  clear hO1 HTh
  rw [HV.out]
  unfold ofV
  go_upto_region 4 with (fail)
  obtain ⟨w2, hw2⟩ : ∃ w2, w2 = (w1.alloc (.cells #[.int .u64 ((pOf f : Nat) : Int), .int .u64 ((gOf f : Nat) : Int), .int .i64 ((twoOf f : Nat) : Int), .int .u64 ((expOf f : Nat) : Int)] 76)) := ⟨_, rfl⟩
  have hO12 : On w1 w2 := by rw [hw2]; exact (On.refl HO1.out.tab).alloc _
  have HT2 := Lib.hid (there_on HT1.out hO12 hz)
  have HO2 := Lib.hid (HO1.out.trans hO12)
  have hz2 : w2.heap.size = w1.heap.size + 1 := by rw [hw2]; simp
  have hc0 : w2.cell? ⟨w1.heap.size, 0, none⟩ = some (.int .u64 ((pOf f : Nat) : Int)) := by rw [hw2]; simp [World.cell?_alloc_new]
  have hc1 : w2.cell? ⟨w1.heap.size, 1, none⟩ = some (.int .u64 ((gOf f : Nat) : Int)) := by rw [hw2]; simp [World.cell?_alloc_new]
  have hc3 : w2.cell? ⟨w1.heap.size, 3, none⟩ = some (.int .u64 ((expOf f : Nat) : Int)) := by rw [hw2]; simp [World.cell?_alloc_new]
  rw [← hw2]
  clear hw2 hO12 HT1 HO1
  have HBX : Hid (∀ w', On w2 w' → w'.cell? ⟨w1.heap.size, 0, none⟩ = some (.int .u64 ((pOf f : Nat) : Int)) ∧ w'.cell? ⟨w1.heap.size, 3, none⟩ = some (.int .u64 ((expOf f : Nat) : Int))) := fun w' h => ⟨by rw [h.cell (by simp; omega)]; exact hc0, by rw [h.cell (by simp; omega)]; exact hc3⟩
  have HC1 : Hid (∀ w', On w2 w' → w'.cell? ⟨w1.heap.size, 1, none⟩ = some (.int .u64 ((gOf f : Nat) : Int))) := fun w' h => by rw [h.cell (by simp; omega)]; exact hc1
  clear hc0 hc1 hc3
  have hq0 := eq0_pos hp
  have hqs : (18446744073709551615 : Int) / ((pOf f : Nat) : Int) = ((shareF (pOf f) : Nat) : Int) := by unfold shareF; rw [Int.natCast_ediv]; rfl
  have hne : ¬ (pOf f = 0) := by omega
  have hqt : IntKind.u64.wrap (Int.tdiv 18446744073709551615 ((pOf f : Nat) : Int)) = ((shareF (pOf f) : Nat) : Int) := by
    rw [Int.tdiv_eq_ediv_of_nonneg (by omega), hqs]; exact IntWalk.u64_in _ (by have : shareF (pOf f) ≤ 18446744073709551615 := Nat.div_le_self _ _; omega)
  have hsl : shareF (pOf f) ≤ 18446744073709551615 := Nat.div_le_self _ _
  obtain ⟨S, hS⟩ : ∃ S, S = shareF (pOf f) := ⟨_, rfl⟩
  obtain ⟨P, hP⟩ : ∃ P, P = pOf f := ⟨_, rfl⟩
  obtain ⟨Z, hZ⟩ : ∃ Z, Z = (mixV f P (expOf f) S fun _ => 0).toArray := ⟨_, rfl⟩
  have HBM : Hid (∀ w, (Instr.build 85 [(0, .int .i64 f), (1, .int .u64 (P : Int)), (2, .int .u64 ((expOf f : Nat) : Int)), (3, .int .u64 (S : Int))].toArray).run Tryd.prog w = .ok (.agg Z) w) := fun w => by rw [hZ]; exact build_mix f P (expOf f) S w
  have HZ1 : Hid ((Z.all fun x => x.oneCell') = true) := by rw [hZ]; exact mixV_one _ _ _ _ _
  have HZ2 : Hid (Z.size = 36) := by rw [hZ]; rfl
  rw [← hS] at hqs hqt hsl
  rw [← hP] at hqs hqt hne hq0 HBX hp hle
  rw [← hP]
  have HP := Lib.hid hP; have HS := Lib.hid hS; have HZ := Lib.hid hZ
  clear hP hS hZ
  refine region_head_tail (S := fun wq => On w2 wq) 10 (by kernel_rfl) (by kernel_rfl) ?_
  have hSd : On w2 w2.drew := (On.refl HO2.out.tab).drew
  refine HeadG.take (i := 0) (v := ?hmv0) rfl (by kernel_rfl) (by kernel_rfl) (by kernel_rfl) (by kernel_rfl) (by kernel_rfl) (by kernel_rfl) (by kernel_rfl) (fun _ _ _ h => h) (Or.inl ⟨by rfl, ?hmy0⟩) hSd ?hmr0
  case hmy0 => (intro w' hSw; obtain ⟨e1, e2⟩ := HBX.out w' hSw; go_simp; try with_reducible rfl)
  try simp only [Act.put, List.setIfInBounds_toArray, List.set_cons_zero, List.set_cons_succ, List.getElem_toArray, List.getElem_cons_zero, List.getElem_cons_succ]
  refine HeadG.take (i := 1) (v := ?hmv1) rfl (by kernel_rfl) (by kernel_rfl) (by kernel_rfl) (by kernel_rfl) (by kernel_rfl) (by kernel_rfl) (by kernel_rfl) (fun _ _ _ h => h) (Or.inl ⟨by rfl, ?hmy1⟩) hSd ?hmr1
  case hmy1 => (intro w' hSw; obtain ⟨e1, e2⟩ := HBX.out w' hSw; go_simp; try with_reducible rfl)
  try simp only [Act.put, List.setIfInBounds_toArray, List.set_cons_zero, List.set_cons_succ, List.getElem_toArray, List.getElem_cons_zero, List.getElem_cons_succ]
  refine HeadG.take (i := 2) (v := ?hmv2) rfl (by kernel_rfl) (by kernel_rfl) (by kernel_rfl) (by kernel_rfl) (by kernel_rfl) (by kernel_rfl) (by kernel_rfl) (fun _ _ _ h => h) (Or.inl ⟨by rfl, ?hmy2⟩) hSd ?hmr2
  case hmy2 => (intro w' hSw; obtain ⟨e1, e2⟩ := HBX.out w' hSw; go_simp; try with_reducible rfl)
  try simp only [Act.put, List.setIfInBounds_toArray, List.set_cons_zero, List.set_cons_succ, List.getElem_toArray, List.getElem_cons_zero, List.getElem_cons_succ]
  refine HeadG.take (i := 3) (v := ?hmv3) rfl (by kernel_rfl) (by kernel_rfl) (by kernel_rfl) (by kernel_rfl) (by kernel_rfl) (by kernel_rfl) (by kernel_rfl) (fun _ _ _ h => h) (Or.inl ⟨by rfl, ?hmy3⟩) hSd ?hmr3
  case hmy3 => (intro w' hSw; obtain ⟨e1, e2⟩ := HBX.out w' hSw; go_simp; try with_reducible rfl)
  try simp only [Act.put, List.setIfInBounds_toArray, List.set_cons_zero, List.set_cons_succ, List.getElem_toArray, List.getElem_cons_zero, List.getElem_cons_succ]
  refine HeadG.take (i := 4) (v := ?hmv4) rfl (by kernel_rfl) (by kernel_rfl) (by kernel_rfl) (by kernel_rfl) (by kernel_rfl) (by kernel_rfl) (by kernel_rfl) (fun _ _ _ h => h) (Or.inl ⟨by rfl, ?hmy4⟩) hSd ?hmr4
  case hmy4 => (intro w' hSw; obtain ⟨e1, e2⟩ := HBX.out w' hSw; go_simp; try with_reducible rfl)
  try simp only [Act.put, List.setIfInBounds_toArray, List.set_cons_zero, List.set_cons_succ, List.getElem_toArray, List.getElem_cons_zero, List.getElem_cons_succ]
  refine HeadG.take (i := 5) (v := ?hmv5) rfl (by kernel_rfl) (by kernel_rfl) (by kernel_rfl) (by kernel_rfl) (by kernel_rfl) (by kernel_rfl) (by kernel_rfl) (fun _ _ _ h => h) (Or.inl ⟨by rfl, ?hmy5⟩) hSd ?hmr5
  case hmy5 => (intro w' hSw; obtain ⟨e1, e2⟩ := HBX.out w' hSw; go_simp; try with_reducible rfl)
  try simp only [Act.put, List.setIfInBounds_toArray, List.set_cons_zero, List.set_cons_succ, List.getElem_toArray, List.getElem_cons_zero, List.getElem_cons_succ]
  refine HeadG.take (i := 6) (v := ?hmv6) rfl (by kernel_rfl) (by kernel_rfl) (by kernel_rfl) (by kernel_rfl) (by kernel_rfl) (by kernel_rfl) (by kernel_rfl) (fun _ _ _ h => h) (Or.inl ⟨by rfl, ?hmy6⟩) hSd ?hmr6
  case hmy6 => (intro w' hSw; obtain ⟨e1, e2⟩ := HBX.out w' hSw; go_simp; try with_reducible rfl)
  try simp only [Act.put, List.setIfInBounds_toArray, List.set_cons_zero, List.set_cons_succ, List.getElem_toArray, List.getElem_cons_zero, List.getElem_cons_succ]
  refine HeadG.take (i := 7) (v := ?hmv7) rfl (by kernel_rfl) (by kernel_rfl) (by kernel_rfl) (by kernel_rfl) (by kernel_rfl) (by kernel_rfl) (by kernel_rfl) (fun _ _ _ h => h) (Or.inl ⟨by rfl, ?hmy7⟩) hSd ?hmr7
  case hmy7 => (intro w' hSw; obtain ⟨e1, e2⟩ := HBX.out w' hSw; go_simp; try with_reducible rfl)
  try simp only [Act.put, List.setIfInBounds_toArray, List.set_cons_zero, List.set_cons_succ, List.getElem_toArray, List.getElem_cons_zero, List.getElem_cons_succ]
  refine HeadG.take (i := 8) (v := .agg Z) rfl (by kernel_rfl) (by kernel_rfl) (by kernel_rfl) (by kernel_rfl) (by kernel_rfl) (by kernel_rfl) (by kernel_rfl) (fun _ _ _ h => h) (yieldsIf_built (by rfl) 85 [(0, .tmp 18), (1, .tmp 20), (2, .tmp 22), (3, .tmp 25)] rfl [(0, .int .i64 f), (1, .int .u64 (P : Int)), (2, .int .u64 ((expOf f : Nat) : Int)), (3, .int .u64 (S : Int))] rfl Z HBM.out) hSd ?_
  try simp only [Act.put, List.setIfInBounds_toArray, List.set_cons_zero, List.set_cons_succ, List.getElem_toArray, List.getElem_cons_zero, List.getElem_cons_succ]
  refine HeadG.one (i := 9) rfl (by kernel_rfl) (by kernel_rfl) (fun K9 hK9 => ?_)
  go_simp
  refine hK9.out _ _ ((On.refl HO2.out.tab).drew.alloc _) ?_
  clear hK9 K9
  try simp only [Act.put, List.setIfInBounds_toArray, List.set_cons_zero, List.set_cons_succ, List.getElem_toArray, List.getElem_cons_zero, List.getElem_cons_succ]
  refine HeadG.last (i := 10) rfl (by kernel_rfl) (by kernel_rfl) (by kernel_rfl) (fun K9 hK9 => ?_)
  rw [if_pos (by rfl)]
  refine wp_store_mid 85 (.tmp 6) (.tmp 26) rfl (w1.heap.size + 1) 0 Z rfl rfl (by rw [HZ2.out, ← hz2]; exact there_new w2.drew (mixV 0 0 0 0 fun _ => 0).toArray 85) (by rw [HZ2.out]; exact info_mix) HZ1.out ?_
  refine hK9.out _ _ ?_
  clear hK9 K9
  try simp only [Act.put, List.setIfInBounds_toArray, List.set_cons_zero, List.set_cons_succ, List.getElem_toArray, List.getElem_cons_zero, List.getElem_cons_succ]
  obtain ⟨w3, hw3⟩ : ∃ w3, w3 = (w2.drew.alloc (.cells (mixV 0 0 0 0 fun _ => 0).toArray 85)) := ⟨_, rfl⟩
  have hO23 : On w2 w3 := by rw [hw3]; exact (On.refl HO2.out.tab).drew.alloc _
  have ht3 : w3.there (w1.heap.size + 1) 0 36 := by rw [hw3, ← hz2]; exact there_new w2.drew (mixV 0 0 0 0 fun _ => 0).toArray 85
  have hz3 : w1.heap.size + 1 < w3.heap.size := by rw [hw3, ← hz2]; simp
  have HM3 : Hid (Mp f P (expOf f) S (w1.heap.size + 1) (fun _ => 0) (w3.setCells (w1.heap.size + 1) 0 Z.toList)) := by rw [HZ.out]; exact mp_stored hz3 ht3
  have HO3 : Hid (On w2 (w3.setCells (w1.heap.size + 1) 0 Z.toList)) := On.setCells (by omega) _ _ _ hO23
  have e3 : w3 = (w2.alloc (.cells (mixV 0 0 0 0 fun _ => 0).toArray 85)).drew := by rw [hw3]; rfl
  have HW3 := Lib.hid e3
  clear hw3 hO23 ht3 hz3 e3
  show Exit.then _ _ Exit.normal _ (((w2.alloc (.cells (mixV 0 0 0 0 fun _ => 0).toArray 85)).drew).setCells _ _ _)
  rw [← HW3.out]
  generalize w3.setCells (w1.heap.size + 1) 0 Z.toList = w4 at *
  clear HW3
  have hg := gOf_le f
  have HRD : Hid (∀ wr C n, Mp f P (expOf f) S (w1.heap.size + 1) C wr → n ≤ 18446744073709551615 → Calls Tryd.prog 54 #[.pointer (some ⟨w1.heap.size + 1, 0, none⟩), .int .u64 ((n : Nat) : Int)] wr fun e w' => e = .returned (.int .u64 ((n % P : Nat) : Int)) ∧ wr = w') := fun wr C n h hn => by
    have h1 := h.c1; have h3 := h.c3
    rw [HP.out] at h1 ⊢
    rw [HS.out] at h3
    exact reduce_s f _ n wr (by rw [← HP.out]; exact hp) h1 h3 hn
  have HPS : Hid (∀ m, powF f (gOf f) m * gOf f % P = powF f (gOf f) (m + 1)) := fun m => by
    have hp' : 0 < pOf f := by rw [← HP.out]; exact hp
    rw [powF_pos _ _ _ hp', powF_pos _ _ _ hp', HP.out, Nat.mod_mul_mod, Nat.pow_succ]
  have HCS : Hid (∀ r j, (powF f (gOf f) (4 * r + j + 1) + 7) % P = cstF f r j) := fun r j => by
    have hp' : 0 < pOf f := by rw [← HP.out]; exact hp
    unfold cstF; rw [addF_pos _ _ _ hp', HP.out]
  have HPB : Hid (∀ m, powF f (gOf f) m ≤ 998244353) := fun m => powF_le _ _ _
  have hpw0 : Hid (powF f (gOf f) 0 = 1) := powF_nil f _ HV.out
  go_wp2_with fail
  go_loopw [7, 27] (fun vp vi wr => ∃ r : Nat, r ≤ 8 ∧ vi = .int .i64 (r : Int) ∧ vp = .int .u64 ((powF f (gOf f) (4 * r) : Nat) : Int) ∧ Hid (Mp f P (expOf f) S (w1.heap.size + 1) (fun i => if i < 4 * r then cstF f (i / 4) (i % 4) else 0) wr) ∧ Hid (On w2 wr)) (fun _ vi _ => 8 - (intOf vi).toNat)
  case atStart => exact ⟨0, by omega, rfl, by rw [Nat.mul_zero, hpw0.out]; rfl, HM3.out.ext (fun i hi => by simp), HO3.out⟩
  case round =>
    obtain ⟨r, hr, rfl, rfl, HM, HO⟩ := hrel
    by_cases hr8 : r < 8
    · have hr1 : (0 : Int) ≤ (r : Int) := by omega
      have hr2 : (r : Int) < 8 := by omega
      go_wp2_with fail
      generalize wr = w5 at *
      go_loopw [7, 30] (fun vp vi wr => ∃ j : Nat, j ≤ 4 ∧ vi = .int .i64 (j : Int) ∧ vp = .int .u64 ((powF f (gOf f) (4 * r + j) : Nat) : Int) ∧ Hid (Mp f P (expOf f) S (w1.heap.size + 1) (fun i => if i < 4 * r + j then cstF f (i / 4) (i % 4) else 0) wr) ∧ Hid (On w2 wr)) (fun _ vi _ => 4 - (intOf vi).toNat)
      case atStart => exact ⟨0, by omega, rfl, rfl, HM, HO⟩
      case round =>
        obtain ⟨j, hj, rfl, rfl, HM', HO'⟩ := hrel
        by_cases hj4 : j < 4
        · have hcg := HC1.out wr HO'.out
          have hpb := HPB.out (4 * r + j)
          have hpb1 := HPB.out (4 * r + j + 1)
          have hps := HPS.out (4 * r + j)
          have hcs := HCS.out r j
          have hcell : wr.cell? ⟨w1.heap.size + 1, 4 + r * 4 + j, none⟩ = some (.int .u64 0) := by
            have := HM'.out.cell (r * 4 + j) (by omega)
            rw [if_neg (by omega), ← Nat.add_assoc] at this; exact this
          have hfrz : wr.frozen? ⟨w1.heap.size + 1, 4 + r * 4 + j, none⟩ = false := HM'.out.fr _ (by omega)
          have HM2 : Hid (∀ v, v = cstF f r j → Mp f P (expOf f) S (w1.heap.size + 1) (fun i => if i < 4 * r + (j + 1) then cstF f (i / 4) (i % 4) else 0) (wr.setCell ⟨w1.heap.size + 1, 4 + r * 4 + j, none⟩ (.int .u64 ((v : Nat) : Int)))) := fun v hv => by
            have := HM'.out.put (r * 4 + j) v (by omega)
            rw [← Nat.add_assoc] at this
            refine this.ext fun i hi => ?_
            by_cases h1 : i = r * 4 + j
            · subst h1; rw [if_pos rfl, if_pos (by omega), hv, show (r * 4 + j) / 4 = r by omega, show (r * 4 + j) % 4 = j by omega]
            · by_cases h2 : i < 4 * r + j
              · rw [if_neg h1, if_pos h2, if_pos (by omega)]
              · rw [if_neg h1, if_neg h2, if_neg (by omega)]
          have HO2' : Hid (∀ u, On w2 (wr.setCell ⟨w1.heap.size + 1, 4 + r * 4 + j, none⟩ u)) := fun u => HO'.out.setCell (by simp; omega) u
          generalize powF f (gOf f) (4 * r + j) = A at *
          generalize hB : powF f (gOf f) (4 * r + j + 1) = B at *
          have HB := Lib.hid hB
          clear hB
          obtain ⟨X, hX⟩ : ∃ X, X = A * gOf f := ⟨_, rfl⟩
          have hXl : X ≤ 10980687883 := by rw [hX]; exact Nat.le_trans (Nat.mul_le_mul hpb hg) (by decide)
          have hX1 : IntKind.u64.wrap ((A : Int) * ((gOf f : Nat) : Int)) = (X : Int) := by rw [← Int.natCast_mul, ← hX]; exact IntWalk.u64_in _ (by omega)
          have hX2 : (A : Int) * ((gOf f : Nat) : Int) = (X : Int) := by rw [← Int.natCast_mul, ← hX]
          rw [← hX] at hps
          have HPS' := Lib.hid hps
          have HCS' := Lib.hid hcs
          clear hX hps hcs
          go_wp2_with fail
          with_reducible refine (HRD.out _ _ X HM'.out ?_).mono ?_
          · omega
          rintro e w' ⟨rfl, rfl⟩
          rw [HPS'.out]
          obtain ⟨Y, hY⟩ : ∃ Y, Y = B + 7 := ⟨_, rfl⟩
          have hYl : Y ≤ 998244360 := by omega
          have hY1 : IntKind.u64.wrap ((B : Int) + 7) = (Y : Int) := by rw [hY]; exact IntWalk.u64_in _ (by omega)
          have hm : Y % P = cstF f r j := by rw [hY]; exact HCS'.out
          have HRQ : Hid (∀ n, Calls Tryd.prog 54 #[.pointer (some ⟨w1.heap.size + 1, 0, none⟩), .int .u64 (Y : Int)] (wr.drewN n) fun e w' => e = .returned (.int .u64 ((cstF f r j : Nat) : Int)) ∧ wr.drewN n = w') := fun n => by
            have h := HRD.out (wr.drewN n) _ Y (HM'.out.drewN n) (by omega)
            rw [hm] at h; exact h
          clear hY hm
          have hr1 : (0 : Int) ≤ (r : Int) := by omega
          have hr2 : (r : Int) < 8 := by omega
          have hj1 : (0 : Int) ≤ (j : Int) := by omega
          have hj2 : (j : Int) < 4 := by omega
          go_wp2_with fail
          refine region_quiet_tail 8 (by kernel_rfl) (by kernel_rfl) ?_
          simp only [List.take_succ_cons, List.take_zero, List.drop_succ_cons, List.drop_zero]
          repeat (quiet_step ((go_at_call 54; exact quiet_of_eq (HRQ.out _))))
          refine wpQuiet_nil ?_
          intro _ hw'
          obtain ⟨nq, hw''⟩ := hw'
          subst hw''
          have hca2 : (wr.drewN nq).cell? ⟨w1.heap.size + 1, 4 + r * 4 + j, none⟩ = _ := hcell
          have hfa2 : (wr.drewN nq).frozen? ⟨w1.heap.size + 1, 4 + r * 4 + j, none⟩ = false := hfrz
          go_wp2_with fail
          go_roundw
          case rel => exact ⟨j + 1, by omega, by go_num, by rw [← HB.out]; rfl, (HM2.out _ rfl).drewN nq, (HO2'.out _).drewN nq⟩
          case measure => simp [intOf]; omega
        · obtain rfl : j = 4 := by omega
          go_wp2_with fail
          go_roundw
          case rel => exact ⟨r + 1, by omega, by go_num, rfl, HM', HO'⟩
          case measure => simp [intOf]; omega
    · obtain rfl : r = 8 := by omega
      have HM8 := Lib.hid (HM.out.ext (C' := fun i => cstF f (i / 4) (i % 4)) fun i hi => by rw [if_pos (by omega)])
      have HT5 := Lib.hid (there_on HT2.out HO.out (by omega))
      clear HM HT2 HM3 HO3 HRD HPS HCS
      go_upto_region 16 with (fail)
      obtain ⟨V, hV⟩ : ∃ V, V = mixV f P (expOf f) S fun i => cstF f (i / 4) (i % 4) := ⟨_, rfl⟩
      have hVl : V.length = 36 := by rw [hV]; rfl
      have HVo : Hid (V.toArray.all (·.oneCell') = true) := by rw [hV]; exact mixV_one _ _ _ _ _
      have HR8 := Lib.hid HM8.out.rg
      rw [← hV] at HR8
      have HVE := Lib.hid hV
      have HVL := Lib.hid hVl
      clear hV hVl
      refine wp_region_lit ?_
      refine wpList_load_mid rfl 85 (.tmp 6) rfl (w1.heap.size + 1) 0 rfl V _ HR8.out Tryd.underlying85 rfl (by rw [HVL.out]; exact info_mix) ?_
      refine wpList_store_mid rfl 85 (.tmp 2) (.tmp 48) rfl w.heap.size 0 V.toArray rfl rfl (by show wr.there w.heap.size 0 V.length; rw [HVL.out]; exact HT5.out) (by show _ = some V.length; rw [HVL.out]; exact info_mix) HVo.out ?_
      go_wp2
      have hl := run_loadVar_mid (P := Tryd.prog) _ w.heap.size 0 85 V _ (World.rangeAt_setCells_same wr w.heap.size 0 V (by rw [HVL.out]; exact HT5.out)) Tryd.underlying85 rfl (by rw [HVL.out]; exact info_mix)
      refine bodyPost_ret (results_cell2 rfl _ rfl hl) rfl ⟨by rw [HVE.out, HP.out, HS.out]; rfl, On.setCells (Nat.le_refl _) _ _ _ (HO2.out.trans HO.out)⟩
end Go.Proofs.YthepmahjpejmdaaDoor

/- The sponge's unround and inverse: what the calls return. -/
namespace Go.Proofs.YthepmahjpejmdaaDoor
open Go.RowKit
set_option linter.unusedVariables false

/-- An element under way back. -/
def unAt (f : Int) (r : Nat) (t : Nat → Nat) (i : Nat) : Nat := offF f (powF f (rowB (pOf f) (t i) (t ((i + 1) % 4)) (t ((i + 2) % 4)) (t ((i + 3) % 4)) % pOf f * part35 f % pOf f) (backN f)) (cstF f r i)
theorem un_at (f : Int) (r : Nat) (t : St) : fl4 (unAt f r (ix t)) = fl4 (ix (unS f r t)) := by
  refine fl4_ext fun i hi => ?_
  unfold unAt
  rw [Nat.mod_mul_mod]
  rcases lt4 hi with rfl | rfl | rfl | rfl <;> rfl
theorem unAt_lt (f : Int) (r : Nat) (t : Nat → Nat) (i : Nat) (hp : 0 < pOf f) : unAt f r t i < pOf f := Nat.mod_lt _ hp

end Go.Proofs.YthepmahjpejmdaaDoor

/- The sponge's inverse of elements; Perm and Inverse: what the calls return. -/
namespace Go.Proofs.YthepmahjpejmdaaDoor
open Go.RowKit
set_option linter.unusedVariables false

end Go.Proofs.YthepmahjpejmdaaDoor

/- The sponge's Perm, Inverse and Round: what the calls return. -/
namespace Go.Proofs.YthepmahjpejmdaaDoor
open Go.RowKit
set_option linter.unusedVariables false

/-- The cells that mixerOf hands out. -/
def mixL (f : Int) : List Value := if validB f = true then mixV f (pOf f) (expOf f) (shareF (pOf f)) (fun i => cstF f (i / 4) (i % 4)) else mixV 0 0 0 0 fun _ => 0
theorem mixL_len (f : Int) : (mixL f).length = 36 := by unfold mixL; split <;> rfl
theorem mixL_one (f : Int) : (mixL f).toArray.all (·.oneCell') = true := by unfold mixL; split <;> exact mixV_one _ _ _ _ _
theorem mixer_any (f : Int) (w : World) (hT : Tab w) : Calls Tryd.prog 51 #[.int .i64 f] w fun e w' => e = .returned (.tuple #[.agg (mixL f).toArray, .bool (validB f)]) ∧ On w w' := by
  cases hv : validB f
  · have e : mixL f = mixV 0 0 0 0 fun _ => 0 := by unfold mixL; rw [hv]; rfl
    rw [e]; exact mixer_no f w hT hv
  · have e : mixL f = mixV f (pOf f) (expOf f) (shareF (pOf f)) fun i => cstF f (i / 4) (i % 4) := by unfold mixL; rw [hv]; rfl
    rw [e]; exact mixer_yes f w hT hv
theorem Blk.zero4 {B : Nat} {w : World} {g : Nat → Nat} (h : Blk B w (fl4 g)) :
    let w' := (((w.setCell ⟨B, 0, none⟩ (.int .u64 0)).setCell ⟨B, 1, none⟩ (.int .u64 0)).setCell ⟨B, 2, none⟩ (.int .u64 0)).setCell ⟨B, 3, none⟩ (.int .u64 0)
    w'.cell? ⟨B, 0, none⟩ = some (.int .u64 0) ∧ w'.cell? ⟨B, 1, none⟩ = some (.int .u64 0) ∧ w'.cell? ⟨B, 2, none⟩ = some (.int .u64 0) ∧ w'.cell? ⟨B, 3, none⟩ = some (.int .u64 0) := (h.store4 ⟨0, 0, 0, 0⟩).cells4
/-- A state, or zeros where there is no field. -/
def okS (f : Int) (s : St) : St := if validB f = true then s else ⟨0, 0, 0, 0⟩
theorem okS_yes {f : Int} {s : St} (h : validB f = true) : okS f s = s := if_pos h
theorem okS_no {f : Int} {s : St} (h : validB f = false) : okS f s = ⟨0, 0, 0, 0⟩ := if_neg (by simp [h])
theorem elements_m (f : Int) (B : Nat) (s y : St) (w : World) (hy : y = modS f s) (hT : Tab w) (hM : Mx f B w) (hs : Sm s) :
    Calls Tryd.prog 52 #[.pointer (some ⟨B, 0, none⟩), .agg #[.int .u64 (s.a : Int), .int .u64 (s.b : Int), .int .u64 (s.c : Int), .int .u64 (s.d : Int)]] w fun e w' =>
      e = .returned (.agg #[.int .u64 (y.a : Int), .int .u64 (y.b : Int), .int .u64 (y.c : Int), .int .u64 (y.d : Int)]) ∧ On w w' := by subst hy; exact elements_s f B s w hT hM hs
/-- The mixer that has been stored in a new block. -/
theorem mx_new {f : Int} {w : World} (hT : Tab w) (Z : Array Value) (t : TypeId) (hZ : Z.size = 36) (N : Nat) (hN : N = w.heap.size) : (w.alloc (.cells Z t)).there N 0 36 ∧ On w ((w.alloc (.cells Z t)).setCells N 0 (mixL f)) ∧ (validB f = true → Mx f N ((w.alloc (.cells Z t)).setCells N 0 (mixL f))) := by
  subst hN
  have h1 : (w.alloc (.cells Z t)).there w.heap.size 0 36 := hZ ▸ there_new w Z t
  refine ⟨h1, On.setCells (Nat.le_refl _) _ _ _ ((On.refl hT).alloc _), fun hv => ?_⟩
  have e : mixL f = mixV f (pOf f) (expOf f) (shareF (pOf f)) fun i => cstF f (i / 4) (i % 4) := by unfold mixL; rw [hv]; rfl
  rw [e]
  exact (mp_stored (by simp) h1).mx ((valid_iff f).1 hv)
/-- The zeros of a new mixer's block. -/
def zerM : Array Value := #[.int .i64 0, .int .u64 0, .int .u64 0, .int .u64 0, .int .u64 0, .int .u64 0, .int .u64 0, .int .u64 0, .int .u64 0, .int .u64 0, .int .u64 0, .int .u64 0, .int .u64 0, .int .u64 0, .int .u64 0, .int .u64 0, .int .u64 0, .int .u64 0,
  .int .u64 0, .int .u64 0, .int .u64 0, .int .u64 0, .int .u64 0, .int .u64 0, .int .u64 0, .int .u64 0, .int .u64 0, .int .u64 0, .int .u64 0, .int .u64 0, .int .u64 0, .int .u64 0, .int .u64 0, .int .u64 0, .int .u64 0, .int .u64 0]
theorem zerM_size : zerM.size = 36 := rfl

end Go.Proofs.YthepmahjpejmdaaDoor

/- The sponge's Inverse and Round: what the calls return. -/
namespace Go.Proofs.YthepmahjpejmdaaDoor
open Go.RowKit
set_option linter.unusedVariables false

/-- A round's state, or zeros where there is no field or no round. -/
def okR (f r : Int) (s : St) : St := if validB f = true ∧ 0 ≤ r ∧ r < 8 then rndS f r.toNat s else ⟨0, 0, 0, 0⟩
theorem okR_yes {f : Int} {r : Nat} {s : St} (h : validB f = true) (hr : r < 8) : okR f (r : Int) s = rndS f r s := if_pos ⟨h, by omega, by omega⟩
theorem okR_no {f r : Int} {s : St} (h : ¬ (validB f = true ∧ 0 ≤ r ∧ r < 8)) : okR f r s = ⟨0, 0, 0, 0⟩ := if_neg h
end Go.Proofs.YthepmahjpejmdaaDoor

/- The sponge's Constant and Node: what the calls return. -/
namespace Go.Proofs.YthepmahjpejmdaaDoor
open Go.RowKit
set_option linter.unusedVariables false

/-- A constant, or 0 where there is no field, no round or no place. -/
def okC (f r j : Int) : Nat := if validB f = true ∧ (0 ≤ r ∧ r < 8) ∧ 0 ≤ j ∧ j < 4 then cstF f r.toNat j.toNat else 0
theorem okC_no {f r j : Int} (h : ¬ (validB f = true ∧ (0 ≤ r ∧ r < 8) ∧ 0 ≤ j ∧ j < 4)) : okC f r j = 0 := if_neg h
theorem okC_yes {f : Int} {r j : Nat} (h : validB f = true) (hr : r < 8) (hj : j < 4) : okC f (r : Int) (j : Int) = cstF f r j := if_pos ⟨h, by omega, by omega⟩
def okN (f : Int) (x : Nat) : Nat := if validB f = true then x else 0
theorem okN_yes {f : Int} {x : Nat} (h : validB f = true) : okN f x = x := if_pos h
theorem okN_no {f : Int} {x : Nat} (h : validB f = false) : okN f x = 0 := if_neg (by simp [h])
theorem blk_new2 (w : World) (a b : Nat) (t : TypeId) : Blk w.heap.size (w.alloc (.cells #[.int .u64 (a : Int), .int .u64 (b : Int)] t)) [a, b] := by
  refine ⟨by simp, fun i hi => ?_, fun i => World.frozen?_alloc_new ..⟩
  have hi' : i = 0 ∨ i = 1 := by simp at hi; omega
  rw [World.cell?_alloc_new]
  rcases hi' with rfl | rfl <;> rfl
/-- The three boxes of Node. -/
theorem box3 {w : World} (hT : Tab w) (a b c d : Nat) (t : TypeId) : ∃ W0, W0 = (((w.alloc (.cells #[.int .u64 (a : Int), .int .u64 (b : Int)] t)).alloc (.cells #[.int .u64 (c : Int), .int .u64 (d : Int)] t)).alloc (.cells #[.int .u64 0, .int .u64 0] t)) ∧
    Blk w.heap.size W0 [a, b] ∧ Blk (w.heap.size + 1) W0 [c, d] ∧ Blk (w.heap.size + 1 + 1) W0 [0, 0] ∧ On w W0 := by
  refine ⟨_, rfl, ?_, ?_, ?_, ?_⟩
  · exact ((blk_new2 w a b t).on ((On.refl ((On.refl hT).alloc _).tab).alloc _)).on ((On.refl (((On.refl hT).alloc _).alloc _).tab).alloc _)
  · have := (blk_new2 (w.alloc (.cells #[.int .u64 (a : Int), .int .u64 (b : Int)] t)) c d t).on ((On.refl (((On.refl hT).alloc _).alloc _).tab).alloc (.cells #[.int .u64 0, .int .u64 0] t))
    simpa using this
  · have := blk_new2 ((w.alloc (.cells #[.int .u64 (a : Int), .int .u64 (b : Int)] t)).alloc (.cells #[.int .u64 (c : Int), .int .u64 (d : Int)] t)) 0 0 t
    simpa using this
  · exact (((On.refl hT).alloc _).alloc _).alloc _
theorem Blk.cells2 {B a b : Nat} {w : World} (h : Blk B w [a, b]) : w.cell? ⟨B, 0, none⟩ = some (.int .u64 (a : Int)) ∧ w.cell? ⟨B, 1, none⟩ = some (.int .u64 (b : Int)) := ⟨h.cell 0 (by simp), h.cell 1 (by simp)⟩
theorem Blk.store2 {B a b : Nat} {w : World} (h : Blk B w [a, b]) (x y : Nat) : Blk B ((w.setCell ⟨B, 0, none⟩ (.int .u64 (x : Int))).setCell ⟨B, 1, none⟩ (.int .u64 (y : Int))) [x, y] := ((h.set 0 x (by simp)).set 1 y (by simp))
theorem Blk.zero2 {B a b : Nat} {w : World} (h : Blk B w [a, b]) : let w' := (w.setCell ⟨B, 0, none⟩ (.int .u64 0)).setCell ⟨B, 1, none⟩ (.int .u64 0)
    w'.cell? ⟨B, 0, none⟩ = some (.int .u64 0) ∧ w'.cell? ⟨B, 1, none⟩ = some (.int .u64 0) := (h.store2 0 0).cells2
theorem On.store2 {C : Nat} {W w : World} (h : On W w) (hC : W.heap.size ≤ C) (u0 u1 : Value) : On W ((w.setCell ⟨C, 0, none⟩ u0).setCell ⟨C, 1, none⟩ u1) := (h.setCell hC _).setCell hC _

set_option maxHeartbeats 1000000 in
set_option maxRecDepth 100000 in
theorem node_any (f : Int) (a b c d : Nat) (w : World) (hT : Tab w) (ha : a ≤ 18446744073709551615) (hb : b ≤ 18446744073709551615) (hc : c ≤ 18446744073709551615) (hd : d ≤ 18446744073709551615) :
    Calls Tryd.prog 46 #[.int .i64 f, .agg #[.int .u64 (a : Int), .int .u64 (b : Int)], .agg #[.int .u64 (c : Int), .int .u64 (d : Int)]] w fun e w' =>
      e = .returned (.agg #[.int .u64 ((okN f (nodeA f a b c d) : Nat) : Int), .int .u64 ((okN f (nodeB f a b c d) : Nat) : Int)]) ∧ On w w' := by
  have HE : Hid (Sm ⟨a, b, c, d⟩) := ⟨ha, hb, hc, hd⟩
  obtain ⟨W0, hW0, hB⟩ := box3 hT a b c d 36
  have HB := Lib.hid hB
  have HW0 := Lib.hid hW0
  clear hW0 hB hT
  go_enter Tryd.func46, Tryd.ntmps46
  go_wp2_with fail
  rw [← HW0.out]
  with_reducible refine (mixer_any f W0 HB.out.2.2.2.tab).mono ?_
  rintro e w1 ⟨rfl, hO1⟩
  have HO1 := Lib.hid (HB.out.2.2.2.trans hO1)
  have HA := Lib.hid (HB.out.1.on hO1)
  have HC := Lib.hid (HB.out.2.1.on hO1)
  have HR := Lib.hid (HB.out.2.2.1.on hO1)
  have HN := Lib.hid (mx_new (f := f) HO1.out.tab zerM 85 zerM_size w1.heap.size rfl)
  clear hO1
  obtain ⟨V, hV⟩ : ∃ V, V = mixL f := ⟨_, rfl⟩
  have HV1 : Hid (V.toArray.all (·.oneCell') = true) := by rw [hV]; exact mixL_one f
  have HV2 : Hid (V.length = 36) := by rw [hV]; exact mixL_len f
  rw [← hV] at HN ⊢
  clear hV
  go_upto_region 2 with (refine wpList_store_mid rfl 85 (.tmp 7) (.tmp 14) rfl w1.heap.size 0 V.toArray rfl rfl (by show World.there _ _ _ V.length; rw [HV2.out]; exact HN.out.1) (by show _ = some V.length; rw [HV2.out]; exact info_mix) HV1.out ?_)
  show Code.wp _ _ _ _ ((w1.alloc (.cells zerM 85)).setCells w1.heap.size 0 V)
  have HON := Lib.hid HN.out.2.1
  have HMX := Lib.hid HN.out.2.2
  have hN1 : w.heap.size + 1 + 1 < w1.heap.size := HR.out.1
  clear HN
  generalize (w1.alloc (.cells zerM 85)).setCells w1.heap.size 0 V = w2 at *
  have HA := Lib.hid (HA.out.on HON.out)
  have HC := Lib.hid (HC.out.on HON.out)
  have HR := Lib.hid (HR.out.on HON.out)
  have HO := Lib.hid (HO1.out.trans HON.out)
  clear HO1 HON HB HW0
  generalize w1.heap.size = N at *
  cases hv : validB f
  · have HVF := Lib.hid hv; clear hv
    obtain ⟨r0, r1⟩ := HR.out.cells2
    have f0 := HR.out.free 0
    have f1 := HR.out.free 1
    have HP := Lib.hid HR.out.zero2
    clear HA HMX HC
    go_wp2
    obtain ⟨p0, p1⟩ := HP.out
    refine bodyPost_ret (v := .agg #[.int .u64 0, .int .u64 0]) (by simp [results, Tryd.results46, go_sem, p0, p1]; try rfl) rfl ?_
    exact ⟨by rw [okN_no HVF.out, okN_no HVF.out]; rfl, HO.out.store2 (by omega) _ _⟩
  · have HM := Lib.hid (HMX.out hv)
    have hp := (valid_iff f).1 hv
    have hle := pOf_le f
    have HVF := Lib.hid hv; clear hv
    obtain ⟨c0, c1⟩ := HA.out.cells2
    obtain ⟨c2, c3⟩ := HC.out.cells2
    obtain ⟨y, hy⟩ : ∃ y, y = modS f ⟨a, b, c, d⟩ := ⟨_, rfl⟩
    have HEL : Hid (Calls Tryd.prog 52 #[.pointer (some ⟨N, 0, none⟩), .agg #[.int .u64 (a : Int), .int .u64 (b : Int), .int .u64 (c : Int), .int .u64 (d : Int)]] w2 fun e w' =>
      e = .returned (.agg #[.int .u64 (y.a : Int), .int .u64 (y.b : Int), .int .u64 (y.c : Int), .int .u64 (y.d : Int)]) ∧ On w2 w') := elements_m f N ⟨a, b, c, d⟩ y w2 hy HO.out.tab HM.out HE.out
    have hye : Els f y := by rw [hy]; exact modS_els f _ hp
    have HY := Lib.hid hy
    clear hy
    go_wp2_with fail
    with_reducible refine HEL.out.mono ?_
    rintro e w3 ⟨rfl, hO3⟩
    have HO3 := Lib.hid (HO.out.trans hO3)
    have HR3 := Lib.hid (HR.out.on hO3)
    have HM3 := Lib.hid (HM.out.on hO3)
    clear hO3 HR HO HM HMX c0 c1 c2 c3 HA HC
    go_wp2_with fail
    have HY4 := Lib.hid (blk_new4 w3 y.a y.b y.c y.d 67)
    have HO34 : Hid (On w3 (w3.alloc (.cells #[.int .u64 (y.a : Int), .int .u64 (y.b : Int), .int .u64 (y.c : Int), .int .u64 (y.d : Int)] 67))) := (On.refl HO3.out.tab).alloc _
    generalize hw4 : w3.alloc (.cells #[.int .u64 (y.a : Int), .int .u64 (y.b : Int), .int .u64 (y.c : Int), .int .u64 (y.d : Int)] 67) = w4 at *
    clear hw4
    have HP := Lib.hid (perm_s f N y w4 HO34.out.tab (HM3.out.on HO34.out) hye)
    with_reducible refine HP.out.mono ?_
    rintro e w5 ⟨rfl, hO5⟩
    have HO5 := Lib.hid ((HO3.out.trans HO34.out).trans hO5)
    have HR5 := Lib.hid ((HR3.out.on HO34.out).on hO5)
    have HM5 := Lib.hid ((HM3.out.on HO34.out).on hO5)
    have HY5 := Lib.hid (HY4.out.on hO5)
    clear hO5 HO34 HR3 HM3 HY4 HP
    obtain ⟨z, hz⟩ : ∃ z, z = upS f y 8 := ⟨_, rfl⟩
    rw [← hz]
    have hze : Els f z := by rw [hz]; exact upS_els f y 8 hp hye
    have HZ := Lib.hid hz
    clear hz
    go_upto_region 6 with (fail)
    have HZ6 := Lib.hid (blk_new4 w5 z.a z.b z.c z.d 67)
    have HO56 : Hid (On w5 (w5.alloc (.cells #[.int .u64 (z.a : Int), .int .u64 (z.b : Int), .int .u64 (z.c : Int), .int .u64 (z.d : Int)] 67))) := (On.refl HO5.out.tab).alloc _
    generalize hw6 : w5.alloc (.cells #[.int .u64 (z.a : Int), .int .u64 (z.b : Int), .int .u64 (z.c : Int), .int .u64 (z.d : Int)] 67) = w6 at *
    clear hw6
    have HO6 := Lib.hid (HO5.out.trans HO56.out)
    have HR6 := Lib.hid (HR5.out.on HO56.out)
    have HM6 := Lib.hid (HM5.out.on HO56.out)
    have HY6 := Lib.hid (HY5.out.on HO56.out)
    clear HO5 HR5 HM5 HY5 HO56
    have y0 : w6.cell? ⟨w3.heap.size, 0, none⟩ = some (.int .u64 (y.a : Int)) := HY6.out.at4 0 (by omega)
    have y1 : w6.cell? ⟨w3.heap.size, 1, none⟩ = some (.int .u64 (y.b : Int)) := HY6.out.at4 1 (by omega)
    have z0 : w6.cell? ⟨w5.heap.size, 0, none⟩ = some (.int .u64 (z.a : Int)) := HZ6.out.at4 0 (by omega)
    have z1 : w6.cell? ⟨w5.heap.size, 1, none⟩ = some (.int .u64 (z.b : Int)) := HZ6.out.at4 1 (by omega)
    obtain ⟨r0, r1⟩ := HR6.out.cells2
    have f0 := HR6.out.free 0
    have f1 := HR6.out.free 1
    have ly := hye.1; have lyb := hye.2.1; have lz := hze.1; have lzb := hze.2.1
    obtain ⟨X, hX⟩ : ∃ X, X = z.a + y.a := ⟨_, rfl⟩
    obtain ⟨Y, hYY⟩ : ∃ Y, Y = z.b + y.b := ⟨_, rfl⟩
    have hX1 : IntKind.u64.wrap ((z.a : Int) + (y.a : Int)) = (X : Int) := by rw [hX]; exact IntWalk.u64_in _ (by omega)
    have hY1 : IntKind.u64.wrap ((z.b : Int) + (y.b : Int)) = (Y : Int) := by rw [hYY]; exact IntWalk.u64_in _ (by omega)
    obtain ⟨U, hU⟩ : ∃ U, U = X % pOf f := ⟨_, rfl⟩
    obtain ⟨V', hV'⟩ : ∃ V, V = Y % pOf f := ⟨_, rfl⟩
    have HU : Hid (U = nodeA f a b c d) := by rw [hU, hX, HZ.out, HY.out]; unfold nodeA; rw [show permS f ⟨a, b, c, d⟩ = upS f (modS f ⟨a, b, c, d⟩) 8 from rfl]; exact Nat.add_mod_mod _ _ _
    have HV' : Hid (V' = nodeB f a b c d) := by rw [hV', hYY, HZ.out, HY.out]; unfold nodeB; rw [show permS f ⟨a, b, c, d⟩ = upS f (modS f ⟨a, b, c, d⟩) 8 from rfl]; exact Nat.add_mod_mod _ _ _
    have HR1 : Hid (∀ n, Calls Tryd.prog 54 #[.pointer (some ⟨N, 0, none⟩), .int .u64 (X : Int)] (w6.drewN n) fun e w' => e = .returned (.int .u64 (U : Int)) ∧ w6.drewN n = w') := fun n => by
      have h := (HM6.out.drewN n).reduce X (by omega); rw [← hU] at h; exact h
    have HR2 : Hid (∀ n, Calls Tryd.prog 54 #[.pointer (some ⟨N, 0, none⟩), .int .u64 (Y : Int)] (w6.drewN n) fun e w' => e = .returned (.int .u64 (V' : Int)) ∧ w6.drewN n = w') := fun n => by
      have h := (HM6.out.drewN n).reduce Y (by omega); rw [← hV'] at h; exact h
    clear hX hYY hU hV'
    refine region_quiet_tail 13 (by kernel_rfl) (by kernel_rfl) ?_
    simp only [List.take_succ_cons, List.take_zero, List.drop_succ_cons, List.drop_zero]
    repeat (quiet_step ((first | (go_at_call 54; with_reducible exact quiet_of_eq (HR1.out _)) | (go_at_call 54; with_reducible exact quiet_of_eq (HR2.out _)))))
    refine wpQuiet_nil ?_
    intro _ hw'
    obtain ⟨nq, hw''⟩ := hw'
    subst hw''
    have HP := Lib.hid (Blk.cells2 ((HR6.out.drewN nq).store2 U V'))
    have r0' : (w6.drewN nq).cell? ⟨w.heap.size + 1 + 1, 0, none⟩ = _ := r0
    have r1' : (w6.drewN nq).cell? ⟨w.heap.size + 1 + 1, 1, none⟩ = _ := r1
    have f0' : (w6.drewN nq).frozen? ⟨w.heap.size + 1 + 1, 0, none⟩ = false := f0
    have f1' : (w6.drewN nq).frozen? ⟨w.heap.size + 1 + 1, 1, none⟩ = false := f1
    go_wp2
    obtain ⟨p0, p1⟩ := HP.out
    refine bodyPost_ret (v := .agg #[.int .u64 (U : Int), .int .u64 (V' : Int)]) (by simp [results, Tryd.results46, go_sem, p0, p1]; try rfl) rfl ?_
    exact ⟨by rw [okN_yes HVF.out, okN_yes HVF.out, HU.out, HV'.out], (HO6.out.drewN nq).store2 (by omega) _ _⟩
end Go.Proofs.YthepmahjpejmdaaDoor

/- Package tree: proper, nodeOver, nodes, Clone, climber: what each call returns. -/
namespace Go.Proofs.YthepmahjpejmdaaDoor
open Go.RowKit
set_option linter.unusedVariables false

theorem nodeF_eq (f : Int) (l r : Dg) : nodeF f l r = (okN f (nodeA f l.1 l.2 r.1 r.2), okN f (nodeB f l.1 l.2 r.1 r.2)) := by
  unfold nodeF okN nodeA nodeB zD
  split <;> rfl
theorem node_dg (f : Int) (l r : Dg) (w : World) (hT : Tab w) (hl : SmD l) (hr : SmD r) :
    Calls Tryd.prog 46 #[.int .i64 f, dgV l, dgV r] w fun e w' => e = .returned (dgV (nodeF f l r)) ∧ On w w' := by
  have h := node_any f l.1 l.2 r.1 r.2 w hT hl.1 hl.2 hr.1 hr.2
  rw [nodeF_eq]; exact h
theorem okA_snoc (f : Int) (l : List Dg) (k : Nat) (hk : k < l.length) (h : okA f (l.take k) = true) (hd : okD f (l.getD k zD) = true) : okA f (l.take (k + 1)) = true := by
  rw [List.take_add_one, List.getElem?_eq_getElem hk]
  unfold okA at h ⊢
  rw [List.all_append, h]
  rw [List.getD_eq_getElem?_getD, List.getElem?_eq_getElem hk] at hd
  simpa using hd
theorem okA_not (f : Int) (l : List Dg) (k : Nat) (hk : k < l.length) (hd : okD f (l.getD k zD) = false) : okA f l = false := by
  cases h : okA f l
  · rfl
  · exact absurd (okA_get h k hk) (by rw [hd]; simp)
set_option maxHeartbeats 1000000 in
theorem proper_any (f : Int) (l : List Dg) (v : Value) (w : World) (hT : Tab w) (hR : DR w v l) :
    Calls Tryd.prog 25 #[.int .i64 f, v] w fun e w' => e = .returned (.bool (okA f l)) ∧ On w w' := by
  obtain ⟨a, cap, rfl⟩ := hR.shape
  have HR := Lib.hid hR
  have HT := Lib.hid hT
  have HC := Lib.hid hR.cells
  have hL := hR.2.1
  have hp := pOf_le f
  clear hR hT
  go_enter Tryd.func25, Tryd.ntmps25
  go_wp2_with (go_at_call 39; refine (p_any _ _ HT.out).mono ?_; rintro e w' ⟨rfl, rfl⟩)
  go_loopw [12] (fun vi wr => ∃ k : Nat, k ≤ l.length ∧ vi = .int .i64 k ∧ Hid (okA f (l.take k) = true) ∧ Hid (On w wr)) (fun vi _ => l.length - (intOf vi).toNat)
  case atStart => exact ⟨0, Nat.zero_le _, rfl, Lib.hid rfl, Lib.hid (On.refl HT.out)⟩
  case round =>
    obtain ⟨k, hk, rfl, HK, HO⟩ := hrel
    by_cases hlt : k < l.length
    · obtain ⟨b, off, rfl, c0, c1⟩ := HC.out k hlt
      have hb0 := cell_size c0
      have hb1 := cell_size c1
      have c0' := (HO.out.cell (p := ⟨b, off + k * 2, none⟩) hb0).trans c0
      have c1' := (HO.out.cell (p := ⟨b, off + k * 2 + 1, none⟩) hb1).trans c1
      have hs := HR.out.sm k
      have hlt' : (k : Int) < (l.length : Int) := by omega
      have HN1 : Hid (okD f (l.getD k zD) = true → okA f (l.take (k + 1)) = true) := fun h => okA_snoc f l k hlt HK.out h
      have HN0 : Hid (okD f (l.getD k zD) = false → okA f l = false) := fun h => okA_not f l k hlt h
      have HX : Hid (∀ o, On w (wr.alloc o)) := fun o => HO.out.alloc o
      clear c0 c1 hb0 hb1 HK
      generalize l.getD k zD = d at *
      obtain ⟨x, y⟩ := d
      obtain ⟨hx, hy⟩ := hs
      simp only at c0' c1' hx hy
      by_cases h0 : x < pOf f
      · have h0' : ¬ ((pOf f : Nat) : Int) ≤ (x : Int) := by omega
        by_cases h1 : y < pOf f
        · have h1' : ¬ ((pOf f : Nat) : Int) ≤ (y : Int) := by omega
          have HG : Hid (okA f (l.take (k + 1)) = true) := HN1.out (okD_iff.2 ⟨h0, h1⟩)
          clear HN0 HN1 h0 h1
          go_wp2
          go_roundw
          case rel => exact ⟨k + 1, by omega, by simp, HG, Lib.hid (HX.out _)⟩
          case measure => simp [intOf]; omega
        · have h1' : ((pOf f : Nat) : Int) ≤ (y : Int) := by omega
          have HG : Hid (okA f l = false) := HN0.out (by cases h : okD f (x, y); · rfl
                                                         · exact absurd (okD_iff.1 h).2 h1)
          clear HN0 HN1 h0 h1
          go_wp2
          go_ret
          exact ⟨by rw [HG.out]; rfl, HX.out _⟩
      · have h0' : ((pOf f : Nat) : Int) ≤ (x : Int) := by omega
        have HG : Hid (okA f l = false) := HN0.out (by cases h : okD f (x, y); · rfl
                                                       · exact absurd (okD_iff.1 h).1 h0)
        clear HN0 HN1 h0
        go_wp2
        go_ret
        exact ⟨by rw [HG.out]; rfl, HX.out _⟩
    · obtain rfl : k = l.length := by omega
      have HG : Hid (okA f l = true) := by have := HK.out; rw [List.take_length] at this; exact this
      clear HK
      go_wp2
      go_ret
      exact ⟨by rw [HG.out]; rfl, HO.out⟩
-- GEN
theorem node_dgE (f : Int) (l r D : Dg) (w : World) (hT : Tab w) (hl : SmD l) (hr : SmD r) (hD : nodeF f l r = D) :
    Calls Tryd.prog 46 #[.int .i64 f, dgV l, dgV r] w fun e w' => e = .returned (dgV D) ∧ On w w' := by
  subst hD; exact node_dg f l r w hT hl hr
set_option maxHeartbeats 1000000 in
set_option maxRecDepth 100000 in
theorem nodeOver_any (f : Int) (l : List Dg) (v : Value) (i : Nat) (w : World) (hT : Tab w) (hR : DR w v l) (hi : 2 * i + 1 < l.length) :
    Calls Tryd.prog 36 #[.int .i64 f, v, .int .i64 (i : Int)] w fun e w' => e = .returned (dgV (nodeF f (l.getD (2 * i) zD) (l.getD (2 * i + 1) zD))) ∧ On w w' := by
  obtain ⟨a, cap, rfl⟩ := hR.shape
  obtain ⟨b, off, rfl, c0, c1⟩ := hR.cells (2 * i) (by omega)
  obtain ⟨b', off', hbb, c2, c3⟩ := hR.cells (2 * i + 1) (by omega)
  simp only [Option.some.injEq, Addr.mk.injEq, and_true] at hbb
  obtain ⟨rfl, rfl⟩ := hbb
  have hL := hR.2.1
  have hX := hR.sm (2 * i)
  have hY := hR.sm (2 * i + 1)
  generalize hJ : 2 * i = iL at *
  generalize hIR : iL + 1 = iR at *
  generalize l.getD iL zD = X at *
  generalize l.getD iR zD = Y at *
  generalize hD : nodeF f X Y = D at *
  obtain ⟨u, hu⟩ : ∃ u, u = w.alloc (.cells #[.int .u64 0, .int .u64 0] 36) := ⟨_, rfl⟩
  have HU := Lib.hid hu
  have HO0 : Hid (On w u) := by refine Lib.hid ?_; rw [hu]; exact (On.refl hT).alloc _
  have HR0 : Hid (Blk w.heap.size u [0, 0]) := by refine Lib.hid ?_; rw [hu]; exact blk_new2 w 0 0 _
  have HK : Hid (∀ wq, On u wq → wq.cell? ⟨b, off + iL * 2, none⟩ = some (.int .u64 ((X.1 : Nat) : Int)) ∧ wq.cell? ⟨b, off + iL * 2 + 1, none⟩ = some (.int .u64 ((X.2 : Nat) : Int)) ∧ wq.cell? ⟨b, off + iR * 2, none⟩ = some (.int .u64 ((Y.1 : Nat) : Int)) ∧ wq.cell? ⟨b, off + iR * 2 + 1, none⟩ = some (.int .u64 ((Y.2 : Nat) : Int))) := fun wq hq => by
    have hO := HO0.out.trans hq
    exact ⟨(hO.cell (p := ⟨b, off + iL * 2, none⟩) (cell_size c0)).trans c0, (hO.cell (p := ⟨b, off + iL * 2 + 1, none⟩) (cell_size c1)).trans c1, (hO.cell (p := ⟨b, off + iR * 2, none⟩) (cell_size c2)).trans c2, (hO.cell (p := ⟨b, off + iR * 2 + 1, none⟩) (cell_size c3)).trans c3⟩
  have HN : Hid (∀ wq, On u wq → Calls Tryd.prog 46 #[.int .i64 f, dgV X, dgV Y] wq fun e w' => e = .returned (dgV D) ∧ On u w') := fun wq h => (node_dgE f X Y D wq h.tab hX hY hD).mono fun e w' ⟨he, ho⟩ => ⟨he, h.trans ho⟩
  have hJ1 : (2 : Int) * (i : Int) = (iL : Int) := by omega
  have hK1 : (iL : Int) + 1 = (iR : Int) := by omega
  have hJl : (iL : Int) < (l.length : Int) := by omega
  have hKl : (iR : Int) < (l.length : Int) := by omega
  have hJw : IntKind.i64.wrap (iL : Int) = (iL : Int) := by rw [IntKind.wrap_i64]; omega
  have hKw : IntKind.i64.wrap (iR : Int) = (iR : Int) := by rw [IntKind.wrap_i64]; omega
  have hJn : ¬ (iL : Int) < 0 := by omega
  have hKn : ¬ (iR : Int) < 0 := by omega
  clear hT hR hi hX hY hJ hIR hD hu c0 c1 c2 c3 hL
  go_enter Tryd.func36, Tryd.ntmps36
  go_upto_region 1 with fail
  rw [← HU.out]
  refine region_keep_tail (fun wq => On u wq) 13 (by kernel_rfl) (by kernel_rfl) (On.refl HO0.out.tab).drew ?_
  simp only [List.take_succ_cons, List.take_zero, List.drop_succ_cons, List.drop_zero]
  refine BigFrame.wpQuiet_want (by rfl) (fun K hK => ?_)
  refine ⟨?qv0, fun wq hwq => ?qy0, hK _ ?qr0⟩
  case qy0 => (go_simp; try with_reducible rfl)
  clear hK K
  try simp only [Act.put, List.setIfInBounds_toArray, List.set_cons_zero, List.set_cons_succ]
  refine BigFrame.wpQuiet_want (by rfl) (fun K hK => ?_)
  refine ⟨?qv1, fun wq hwq => ?qy1, hK _ ?qr1⟩
  case qy1 => (go_simp; try with_reducible rfl)
  clear hK K
  try simp only [Act.put, List.setIfInBounds_toArray, List.set_cons_zero, List.set_cons_succ]
  refine BigFrame.wpQuiet_want (by rfl) (fun K hK => ?_)
  refine ⟨?qv2, fun wq hwq => ?qy2, hK _ ?qr2⟩
  case qy2 => (go_simp; try with_reducible rfl)
  clear hK K
  try simp only [Act.put, List.setIfInBounds_toArray, List.set_cons_zero, List.set_cons_succ]
  refine BigFrame.wpQuiet_want (by rfl) (fun K hK => ?_)
  refine ⟨.int .i64 (iL : Int), fun wq hwq => ?qy3, hK _ ?qr3⟩
  case qy3 => (go_simp; try with_reducible rfl)
  clear hK K
  try simp only [Act.put, List.setIfInBounds_toArray, List.set_cons_zero, List.set_cons_succ]
  refine BigFrame.wpQuiet_want (by rfl) (fun K hK => ?_)
  refine ⟨.pointer (some ⟨b, off + iL * 2, none⟩), fun wq hwq => ?qy4, hK _ ?qr4⟩
  case qy4 => (go_simp; try with_reducible rfl)
  clear hK K
  try simp only [Act.put, List.setIfInBounds_toArray, List.set_cons_zero, List.set_cons_succ]
  refine BigFrame.wpQuiet_want (by rfl) (fun K hK => ?_)
  refine ⟨dgV X, fun wq hwq => ?qy5, hK _ ?qr5⟩
  case qy5 => (obtain ⟨a0, a1, b0, b1⟩ := HK.out wq hwq; go_simp; try with_reducible rfl)
  clear hK K
  try simp only [Act.put, List.setIfInBounds_toArray, List.set_cons_zero, List.set_cons_succ]
  refine BigFrame.wpQuiet_want (by rfl) (fun K hK => ?_)
  refine ⟨?qv6, fun wq hwq => ?qy6, hK _ ?qr6⟩
  case qy6 => (go_simp; try with_reducible rfl)
  clear hK K
  try simp only [Act.put, List.setIfInBounds_toArray, List.set_cons_zero, List.set_cons_succ]
  refine BigFrame.wpQuiet_want (by rfl) (fun K hK => ?_)
  refine ⟨?qv7, fun wq hwq => ?qy7, hK _ ?qr7⟩
  case qy7 => (go_simp; try with_reducible rfl)
  clear hK K
  try simp only [Act.put, List.setIfInBounds_toArray, List.set_cons_zero, List.set_cons_succ]
  refine BigFrame.wpQuiet_want (by rfl) (fun K hK => ?_)
  refine ⟨.int .i64 (iL : Int), fun wq hwq => ?qy8, hK _ ?qr8⟩
  case qy8 => (go_simp; try with_reducible rfl)
  clear hK K
  try simp only [Act.put, List.setIfInBounds_toArray, List.set_cons_zero, List.set_cons_succ]
  refine BigFrame.wpQuiet_want (by rfl) (fun K hK => ?_)
  refine ⟨.int .i64 (iR : Int), fun wq hwq => ?qy9, hK _ ?qr9⟩
  case qy9 => (go_simp; try with_reducible rfl)
  clear hK K
  try simp only [Act.put, List.setIfInBounds_toArray, List.set_cons_zero, List.set_cons_succ]
  refine BigFrame.wpQuiet_want (by rfl) (fun K hK => ?_)
  refine ⟨.pointer (some ⟨b, off + iR * 2, none⟩), fun wq hwq => ?qy10, hK _ ?qr10⟩
  case qy10 => (go_simp; try with_reducible rfl)
  clear hK K
  try simp only [Act.put, List.setIfInBounds_toArray, List.set_cons_zero, List.set_cons_succ]
  refine BigFrame.wpQuiet_want (by rfl) (fun K hK => ?_)
  refine ⟨dgV Y, fun wq hwq => ?qy11, hK _ ?qr11⟩
  case qy11 => (obtain ⟨a0, a1, b0, b1⟩ := HK.out wq hwq; go_simp; try with_reducible rfl)
  clear hK K
  try simp only [Act.put, List.setIfInBounds_toArray, List.set_cons_zero, List.set_cons_succ]
  refine BigFrame.wpQuiet_want (by rfl) (fun K hK => ?_)
  refine ⟨dgV D, fun wq hwq => ?qy12, hK _ ?qr12⟩
  case qy12 => (go_simp; go_at_call 46; exact HN.out wq hwq)
  clear hK K
  try simp only [Act.put, List.setIfInBounds_toArray, List.set_cons_zero, List.set_cons_succ]
  refine wpQuiet_nil ?_
  intro wz HOz
  have HRz := Lib.hid (HR0.out.on HOz)
  have HOz := Lib.hid (HO0.out.trans HOz)
  obtain ⟨r0, r1⟩ := HRz.out.cells2
  have f0 := HRz.out.free 0
  have f1 := HRz.out.free 1
  have HP := Lib.hid (Blk.cells2 (HRz.out.store2 D.1 D.2))
  go_wp2
  obtain ⟨p0, p1⟩ := HP.out
  refine bodyPost_ret (v := dgV D) (by simp [results, Tryd.results36, go_sem, p0, p1]; try rfl) rfl ?_
  exact ⟨rfl, HOz.out.store2 (Nat.le_refl _) _ _⟩
end Go.Proofs.YthepmahjpejmdaaDoor
