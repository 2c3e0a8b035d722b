/- The document's Grind and Search: what the calls return. -/
import Derived.Test.YtcbmeegmdgllkaaDoorHrab
import Derived.Test.YtcbmeegmdgllkaaDoorHsea
namespace Go.Proofs.YtcbmeegmdgllkaaDoor
open Go.RowKit
set_option linter.unusedVariables false

theorem rgrind_no (f b : Int) (s : St) (n : Nat) (w : World) (hT : Tab w) (h : (validB f && bitB b) = false) :
    Calls Tryd.prog 16 #[.agg #[.int .i64 f, .int .u64 (s.a : Int), .int .u64 (s.b : Int), .int .u64 (s.c : Int), .int .u64 (s.d : Int)], .int .u64 (n : Int), .int .i64 b] w fun e w' => e = .returned (.tuple #[.agg #[.int .i64 0, .int .u64 0, .int .u64 0, .int .u64 0, .int .u64 0], .bool false]) ∧ On w w' := by
  obtain ⟨W0, hW0, hA, hR, hO⟩ := boxC hT f s
  have HO := Lib.hid hO
  have HW0 := Lib.hid hW0
  have HV : Hid (∀ w, Tab w → Calls Tryd.prog 31 #[.agg #[.int .i64 f, .int .u64 (s.a : Int), .int .u64 (s.b : Int), .int .u64 (s.c : Int), .int .u64 (s.d : Int)], .int .i64 b] w fun e w' => e = .returned (.bool false) ∧ On w w') := fun w hw => by have h2 := bounded_any f b s w hw; rw [h] at h2; exact h2
  have HR := Lib.hid hR
  obtain ⟨c0, c1, c2, c3, c4⟩ := hA.cells5
  clear hW0 hA hR hO hT h
  go_enter Tryd.func16, Tryd.ntmps16
  go_upto_region 1 with fail
  rw [← HW0.out]
  go_wp2_with fail
  with_reducible refine (HV.out _ HO.out.tab).mono ?_
  rintro e w2 ⟨rfl, hO2⟩
  have HR2 := Lib.hid (HR.out.on hO2)
  have HO2 := Lib.hid (HO.out.trans hO2)
  clear hO2 c0 c1 c2 c3 c4
  have HP := Lib.hid HR2.out.zero5
  obtain ⟨r0, r1, r2, r3, r4⟩ := HR2.out.cells5
  obtain ⟨g0, g1, g2, g3, g4⟩ := HR2.out.free5
  go_wp2
  obtain ⟨p0, p1, p2, p3, p4⟩ := HP.out.cells5
  simp only [z4] at p0 p1 p2 p3 p4
  refine bodyPost_ret (v := .tuple #[.agg #[.int .i64 0, .int .u64 0, .int .u64 0, .int .u64 0, .int .u64 0], .bool false]) (by simp [results, Tryd.results16, go_sem, p0, p1, p2, p3, p4]; try rfl) rfl ?_
  exact ⟨rfl, HO2.out.store5 (by omega) _ _ _ _ _⟩
set_option maxHeartbeats 2000000 in
set_option maxRecDepth 100000 in
theorem rgrind_yes (f : Int) (k : Nat) (s : St) (n : Nat) (w : World) (hT : Tab w) (hv : validB f = true) (hk : k ≤ 24) (hs : Sm s) (hn : n ≤ 18446744073709551615) :
    Calls Tryd.prog 16 #[.agg #[.int .i64 f, .int .u64 (s.a : Int), .int .u64 (s.b : Int), .int .u64 (s.c : Int), .int .u64 (s.d : Int)], .int .u64 (n : Int), .int .i64 (k : Int)] w fun e w' => e = .returned (.tuple #[.agg #[.int .i64 f, .int .u64 ((grdS f s n).a : Int), .int .u64 ((grdS f s n).b : Int), .int .u64 ((grdS f s n).c : Int), .int .u64 ((grdS f s n).d : Int)], .bool (gdB f s n (k : Int))]) ∧ On w w' := by
  rw [gdB_yes hv hk]
  obtain ⟨W0, hW0, hA, hR, hO⟩ := boxC hT f s
  obtain ⟨Y, hY⟩ : ∃ Y, Y = absL f (modS f s) [n] := ⟨_, rfl⟩
  obtain ⟨Z, hZ⟩ : ∃ Z, Z = grdS f s n := ⟨_, rfl⟩
  have hZY : drwS f Y = Z := by rw [hZ, hY]; rfl
  have hYs : Sm Y := by rw [hY]; exact (absT_els f (modS f s) [n] _ ((valid_iff f).1 hv) (modS_els f s ((valid_iff f).1 hv))).sm
  have HV : Hid (∀ w, Tab w → Calls Tryd.prog 31 #[.agg #[.int .i64 f, .int .u64 (s.a : Int), .int .u64 (s.b : Int), .int .u64 (s.c : Int), .int .u64 (s.d : Int)], .int .i64 (k : Int)] w fun e w' => e = .returned (.bool true) ∧ On w w') := fun w hw => by have h := bounded_any f (k : Int) s w hw; rw [hv, show bitB (k : Int) = true by unfold bitB; simp; omega] at h; exact h
  have HAB : Hid (∀ u a, Tab u → Reads u (.slice a 1 1) [n] → Calls Tryd.prog 32 #[.agg #[.int .i64 f, .int .u64 (s.a : Int), .int .u64 (s.b : Int), .int .u64 (s.c : Int), .int .u64 (s.d : Int)], .slice a 1 1] u fun e w' => e = .returned (.agg #[.int .i64 f, .int .u64 (Y.a : Int), .int .u64 (Y.b : Int), .int .u64 (Y.c : Int), .int .u64 (Y.d : Int)]) ∧ On u w') := fun u a hu hr => by rw [hY]; exact rabsorb_yes f s [n] a 1 u hu hv hs hr (by simp)
  have HC : Hid (∀ u, Tab u → Calls Tryd.prog 11 #[.agg #[.int .i64 f, .int .u64 (Y.a : Int), .int .u64 (Y.b : Int), .int .u64 (Y.c : Int), .int .u64 (Y.d : Int)]] u fun e w' => e = .returned (.tuple #[.agg #[.int .i64 f, .int .u64 (Z.a : Int), .int .u64 (Z.b : Int), .int .u64 (Z.c : Int), .int .u64 (Z.d : Int)], .int .u64 (Z.a : Int)]) ∧ On u w') := fun u hu => by rw [← hZY]; exact rdraw_yes f Y u hu hv hYs
  have HRD : Hid (∀ (u : World) (t : TypeId), Reads (u.alloc (.cells #[.int .u64 (n : Int)] t)) (.slice (some ⟨u.heap.size, 0, none⟩) 1 1) [n]) := fun u t => reads_one u n t hn
  obtain ⟨q, hq⟩ : ∃ q, q = 2 ^ k := ⟨_, rfl⟩
  obtain ⟨hsh, hq0, hqm⟩ := shl_u64 k q hk hq
  rw [← hq, ← hZ]
  obtain ⟨y, hy⟩ : ∃ y, y = Z.a % q := ⟨_, rfl⟩
  rw [← hy]
  have hyl : y < q := by rw [hy]; exact Nat.mod_lt _ hq0
  have hqt : Int.tmod (Z.a : Int) (q : Int) = (y : Int) := by rw [Int.tmod_eq_emod_of_nonneg (by omega), hy]; rfl
  have hq1 := eq0_pos hq0
  obtain ⟨G, hG⟩ : ∃ G, ((y : Int) == 0) = G := ⟨_, rfl⟩
  have hG2 : decide (y = 0) = G := by rw [← hG, Bool.eq_iff_iff]; simp
  rw [hG2]
  have HG := Lib.hid hG
  have HSH := Lib.hid hsh
  have HQ1 := Lib.hid hq1
  have HQT := Lib.hid hqt
  obtain ⟨c0, c1, c2, c3, c4⟩ := hA.cells5
  have HO := Lib.hid hO
  have HW0 := Lib.hid hW0
  have HA := Lib.hid hA
  have HR := Lib.hid hR
  clear hW0 hA hR hO hT hZ hs hsh hq1 hqt hy hq hv hY hZY hYs hG hG2 hn
  go_enter Tryd.func16, Tryd.ntmps16
  go_upto_region 1 with fail
  rw [← HW0.out]
  go_wp2_with fail
  with_reducible refine (HV.out _ HO.out.tab).mono ?_
  rintro e w1 ⟨rfl, hO1⟩
  have HA1 := Lib.hid (HA.out.on hO1)
  have HR1 := Lib.hid (HR.out.on hO1)
  have HO1 := Lib.hid (HO.out.trans hO1)
  clear c0 c1 c2 c3 c4 hO1
  obtain ⟨c0, c1, c2, c3, c4⟩ := HA1.out.cells5
  go_wp2_with fail
  with_reducible refine (HAB.out _ _ (HO1.out.alloc _).tab (HRD.out _ _)).mono ?_
  rintro e w2 ⟨rfl, hO2⟩
  have HO2 := Lib.hid (((On.refl HO1.out.tab).alloc _).trans hO2)
  clear hO2 c0 c1 c2 c3 c4
  go_wp2_with fail
  with_reducible refine (HC.out _ (HO1.out.trans HO2.out).tab).mono ?_
  rintro e w3 ⟨rfl, hO3⟩
  have HO3 := Lib.hid (HO2.out.trans hO3)
  have HA2 := Lib.hid ((HA1.out.on HO3.out).store5 f Z)
  have HR2 := Lib.hid ((HR1.out.on HO3.out).other5 (C := w.heap.size) (by omega) (.int .i64 f) (.int .u64 (Z.a : Int)) (.int .u64 (Z.b : Int)) (.int .u64 (Z.c : Int)) (.int .u64 (Z.d : Int)))
  obtain ⟨c0, c1, c2, c3, c4⟩ := (HA1.out.on HO3.out).cells5
  obtain ⟨f0, f1, f2, f3, f4⟩ := (HA1.out.on HO3.out).free5
  have HO2 := Lib.hid ((HO1.out.trans HO3.out).store5 (C := w.heap.size) (by omega) (.int .i64 f) (.int .u64 (Z.a : Int)) (.int .u64 (Z.b : Int)) (.int .u64 (Z.c : Int)) (.int .u64 (Z.d : Int)))
  clear hO3 HO HA HR HV HAB HC HRD HO3 HW0 HA1 HR1 HO1
  go_upto_region 4 with fail
  generalize (((((w3.setCell ⟨w.heap.size, 0, none⟩ (.int .i64 f)).setCell ⟨w.heap.size, 1, none⟩ (.int .u64 (Z.a : Int))).setCell ⟨w.heap.size, 2, none⟩ (.int .u64 (Z.b : Int))).setCell ⟨w.heap.size, 3, none⟩ (.int .u64 (Z.c : Int))).setCell ⟨w.heap.size, 4, none⟩ (.int .u64 (Z.d : Int))) = u at *
  clear c0 c1 c2 c3 c4 f0 f1 f2 f3 f4
  have hsh := HSH.out
  have hq1 := HQ1.out
  have hqt := HQT.out
  have hG := HG.out
  have hne : ¬ (q = 0) := by omega
  have hqw : IntKind.u64.wrap (y : Int) = (y : Int) := IntWalk.u64_in _ (by omega)
  obtain ⟨c0, c1, c2, c3, c4⟩ := HA2.out.cells5
  obtain ⟨r0, r1, r2, r3, r4⟩ := HR2.out.cells5
  obtain ⟨g0, g1, g2, g3, g4⟩ := HR2.out.free5
  have HP : Hid (VB (w.heap.size + 1) (((((u.setCell ⟨(w.heap.size + 1), 0, none⟩ (.int .i64 f)).setCell ⟨(w.heap.size + 1), 1, none⟩ (.int .u64 (Z.a : Int))).setCell ⟨(w.heap.size + 1), 2, none⟩ (.int .u64 (Z.b : Int))).setCell ⟨(w.heap.size + 1), 3, none⟩ (.int .u64 (Z.c : Int))).setCell ⟨(w.heap.size + 1), 4, none⟩ (.int .u64 (Z.d : Int))) (chL f Z)) := HR2.out.store5 f Z
  go_region_with (fail)
  all_goals clear hsh hq1 hqt hqw hne hG
  all_goals go_wp2
  all_goals obtain ⟨p0, p1, p2, p3, p4⟩ := HP.out.cells5
  all_goals refine bodyPost_ret (v := .tuple #[.agg #[.int .i64 f, .int .u64 (Z.a : Int), .int .u64 (Z.b : Int), .int .u64 (Z.c : Int), .int .u64 (Z.d : Int)], .bool G]) (by simp [results, Tryd.results16, go_sem, p0, p1, p2, p3, p4]; try rfl) rfl ?_
  all_goals exact ⟨rfl, (HO2.out.store5 (by omega) _ _ _ _ _).drew⟩
theorem rgrind_any (f b : Int) (s : St) (n : Nat) (w : World) (hT : Tab w) (hs : Sm s) (hn : n ≤ 18446744073709551615) :
    Calls Tryd.prog 16 #[.agg #[.int .i64 f, .int .u64 (s.a : Int), .int .u64 (s.b : Int), .int .u64 (s.c : Int), .int .u64 (s.d : Int)], .int .u64 (n : Int), .int .i64 b] w fun e w' => e = .returned (.tuple #[.agg #[.int .i64 (ifF (validB f && bitB b) f), .int .u64 ((ifS (validB f && bitB b) (grdS f s n)).a : Int), .int .u64 ((ifS (validB f && bitB b) (grdS f s n)).b : Int), .int .u64 ((ifS (validB f && bitB b) (grdS f s n)).c : Int), .int .u64 ((ifS (validB f && bitB b) (grdS f s n)).d : Int)], .bool (gdB f s n b)]) ∧ On w w' := by
  cases hv : validB f && bitB b
  · have h := rgrind_no f b s n w hT hv
    have e : gdB f s n b = false := by unfold gdB; rw [hv]; rfl
    rw [e]; exact h
  · simp only [Bool.and_eq_true] at hv
    obtain ⟨k, rfl, hk⟩ := bit_nat hv.2
    exact rgrind_yes f k s n w hT hv.1 hk hs hn
theorem rsearch_no (f b m : Int) (s : St) (w : World) (hT : Tab w) (h : (validB f && bitB b) = false) :
    Calls Tryd.prog 18 #[.agg #[.int .i64 f, .int .u64 (s.a : Int), .int .u64 (s.b : Int), .int .u64 (s.c : Int), .int .u64 (s.d : Int)], .int .i64 b, .int .i64 m] w fun e w' => e = .returned (.tuple #[.int .u64 0, .bool false]) ∧ On w w' := by
  have HO : Hid (On w (w.alloc (.cells #[.int .i64 f, .int .u64 (s.a : Int), .int .u64 (s.b : Int), .int .u64 (s.c : Int), .int .u64 (s.d : Int)] 25))) := (On.refl hT).alloc _
  have HV : Hid (∀ w, Tab w → Calls Tryd.prog 31 #[.agg #[.int .i64 f, .int .u64 (s.a : Int), .int .u64 (s.b : Int), .int .u64 (s.c : Int), .int .u64 (s.d : Int)], .int .i64 b] w fun e w' => e = .returned (.bool false) ∧ On w w') := fun w hw => by have h2 := bounded_any f b s w hw; rw [h] at h2; exact h2
  clear hT h
  go_enter Tryd.func18, Tryd.ntmps18
  go_wp2_with fail
  with_reducible refine (HV.out _ HO.out.tab).mono ?_
  rintro e w2 ⟨rfl, hO2⟩
  have HO2 := Lib.hid (HO.out.trans hO2)
  clear hO2
  go_wp2
  go_ret2
  exact ⟨rfl, HO2.out⟩
set_option maxHeartbeats 2000000 in
set_option maxRecDepth 100000 in
theorem rsearch_yes (f b m : Int) (s : St) (w : World) (hT : Tab w) (hv : (validB f && bitB b) = true) (hs : Sm s) (hm : m ≤ 9223372036854775807) (hm0 : -9223372036854775808 ≤ m) :
    Calls Tryd.prog 18 #[.agg #[.int .i64 f, .int .u64 (s.a : Int), .int .u64 (s.b : Int), .int .u64 (s.c : Int), .int .u64 (s.d : Int)], .int .i64 b, .int .i64 m] w fun e w' => e = .returned (.tuple #[.int .u64 (optN (srch f s b m) : Int), .bool (optB (srch f s b m))]) ∧ On w w' := by
  have hA0 := vb_new w #[.int .i64 f, .int .u64 (s.a : Int), .int .u64 (s.b : Int), .int .u64 (s.c : Int), .int .u64 (s.d : Int)] 25
  obtain ⟨W0, hW0⟩ : ∃ W0, W0 = w.alloc (.cells #[.int .i64 f, .int .u64 (s.a : Int), .int .u64 (s.b : Int), .int .u64 (s.c : Int), .int .u64 (s.d : Int)] 25) := ⟨_, rfl⟩
  rw [← hW0] at hA0
  have HA : Hid (VB w.heap.size W0 (chL f s)) := hA0
  have HO : Hid (On w W0) := by rw [hW0]; exact (On.refl hT).alloc _
  have HW0 := Lib.hid hW0
  have HV : Hid (∀ w, Tab w → Calls Tryd.prog 31 #[.agg #[.int .i64 f, .int .u64 (s.a : Int), .int .u64 (s.b : Int), .int .u64 (s.c : Int), .int .u64 (s.d : Int)], .int .i64 b] w fun e w' => e = .returned (.bool true) ∧ On w w') := fun w hw => by have h2 := bounded_any f b s w hw; rw [hv] at h2; exact h2
  obtain ⟨p, hp⟩ : ∃ p, p = pOf f := ⟨_, rfl⟩
  have hple : p ≤ 998244353 := by rw [hp]; exact pOf_le f
  obtain ⟨N, hN⟩ : ∃ N, N = bndS f m := ⟨_, rfl⟩
  have hNle : N ≤ 1048576 := by rw [hN]; exact bndS_le f m
  have hNm : ∀ k : Nat, k < N → (k : Int) < m ∧ (k : Int) < 1048576 ∧ (k : Int) < (p : Int) := fun k hk => by rw [hN] at hk; unfold bndS at hk; rw [← hp] at hk; omega
  have hNn : ¬ ((N : Int) < m ∧ (N : Int) < 1048576 ∧ (N : Int) < (p : Int)) := by rw [hN]; unfold bndS; rw [← hp]; omega
  have HP : Hid (∀ w, Calls Tryd.prog 20 #[.int .i64 f] w fun e w' => e = .returned (.int .u64 (p : Int)) ∧ w = w') := fun w => by rw [hp]; exact rp_any f w
  have HGD : Hid (∀ u n, Tab u → n ≤ 18446744073709551615 → Calls Tryd.prog 16 #[.agg #[.int .i64 f, .int .u64 (s.a : Int), .int .u64 (s.b : Int), .int .u64 (s.c : Int), .int .u64 (s.d : Int)], .int .u64 ((n : Nat) : Int), .int .i64 b] u fun e w' => e = .returned (.tuple #[.agg #[.int .i64 (ifF (validB f && bitB b) f), .int .u64 ((ifS (validB f && bitB b) (grdS f s n)).a : Int), .int .u64 ((ifS (validB f && bitB b) (grdS f s n)).b : Int), .int .u64 ((ifS (validB f && bitB b) (grdS f s n)).c : Int), .int .u64 ((ifS (validB f && bitB b) (grdS f s n)).d : Int)], .bool (gdB f s n b)]) ∧ On u w') := fun u n hu hn => rgrind_any f b s n u hu hs hn
  have HSOME : Hid (∀ k, k < N → gdB f s k b = true → (∀ j, j < k → gdB f s j b = false) → srch f s b m = some k) := fun k hk hg h => srch_some (hN ▸ hk) hg h
  have HNONE : Hid ((∀ j, j < N → gdB f s j b = false) → srch f s b m = none) := fun h => srch_none (hN ▸ h)
  have HNM := Lib.hid hNm
  have HNN := Lib.hid hNn
  obtain ⟨c0, c1, c2, c3, c4⟩ := HA.out.cells5
  clear hW0 hT hv hp hN hs hm hm0 hA0 hNm hNn
  go_enter Tryd.func18, Tryd.ntmps18
  go_upto_region 1 with fail
  rw [← HW0.out]
  go_wp2_with fail
  with_reducible refine (HV.out _ HO.out.tab).mono ?_
  rintro e w1 ⟨rfl, hO1⟩
  have HA1 := Lib.hid (HA.out.on hO1)
  have HO1 := Lib.hid (HO.out.trans hO1)
  clear hO1 c0 c1 c2 c3 c4 HA HO HV HW0
  go_upto_region 4 with fail
  go_loopw [8] (fun vi wr => ∃ k : Nat, k ≤ N ∧ vi = .int .i64 (k : Int) ∧ Hid (∀ j, j < k → gdB f s j b = false) ∧ Hid (VB w.heap.size wr (chL f s)) ∧ Hid (On w wr)) (fun vi _ => N - (intOf vi).toNat)
  case atStart => exact ⟨0, by omega, rfl, fun j hj => absurd hj (by omega), HA1.out, HO1.out⟩
  case round =>
    clear HA1 HO1
    obtain ⟨k, hk, rfl, HJ, HA2, HO2⟩ := hrel
    obtain ⟨c0, c1, c2, c3, c4⟩ := HA2.out.cells5
    by_cases hkN : k < N
    · obtain ⟨l1, l2, l3⟩ := HNM.out k hkN
      have hwk : IntKind.u64.wrap (k : Int) = (k : Int) := IntWalk.u64_in _ (by omega)
      have HG := Lib.hid (HGD.out wr k HO2.out.tab (by omega))
      generalize ifF (validB f && bitB b) f = F2 at *
      generalize ifS (validB f && bitB b) (grdS f s k) = Z at *
      cases hg : gdB f s k b
      · have HK : Hid (∀ j, j < k + 1 → gdB f s j b = false) := fun j hj => by
          rcases Nat.lt_or_ge j k with h | h
          · exact HJ.out j h
          · obtain rfl : j = k := by omega
            exact hg
        rw [hg] at HG
        clear hg
        go_wp2_with fail
        with_reducible refine (HP.out _).mono ?_
        rintro e w' ⟨rfl, rfl⟩
        go_wp2_with fail
        with_reducible refine HG.out.mono ?_
        rintro e w2 ⟨rfl, hO2⟩
        have HA3 := Lib.hid ((HA2.out.on hO2).on ((On.refl (HO2.out.trans hO2).tab).alloc (.cells #[.int .i64 F2, .int .u64 (Z.a : Int), .int .u64 (Z.b : Int), .int .u64 (Z.c : Int), .int .u64 (Z.d : Int)] 25)))
        have HO3 := Lib.hid ((HO2.out.trans hO2).alloc (.cells #[.int .i64 F2, .int .u64 (Z.a : Int), .int .u64 (Z.b : Int), .int .u64 (Z.c : Int), .int .u64 (Z.d : Int)] 25))
        clear hO2 c0 c1 c2 c3 c4
        go_wp2
        go_roundw
        case rel => exact ⟨k + 1, by omega, by go_num, HK.out, HA3.out, HO3.out⟩
        case measure => simp [intOf]; omega
      · have HS := Lib.hid (HSOME.out k hkN hg HJ.out)
        rw [hg] at HG
        clear hg
        go_wp2_with fail
        with_reducible refine (HP.out _).mono ?_
        rintro e w' ⟨rfl, rfl⟩
        go_wp2_with fail
        with_reducible refine HG.out.mono ?_
        rintro e w2 ⟨rfl, hO2⟩
        have HO3 := Lib.hid ((HO2.out.trans hO2).alloc (.cells #[.int .i64 F2, .int .u64 (Z.a : Int), .int .u64 (Z.b : Int), .int .u64 (Z.c : Int), .int .u64 (Z.d : Int)] 25))
        clear hO2 c0 c1 c2 c3 c4
        go_wp2
        go_ret2
        exact ⟨by rw [HS.out]; rfl, HO3.out⟩
    · obtain rfl : k = N := by omega
      have HS := Lib.hid (HNONE.out HJ.out)
      have hNn := HNN.out
      have hwk : IntKind.u64.wrap (k : Int) = (k : Int) := IntWalk.u64_in _ (by omega)
      by_cases d1 : (k : Int) < m
      · by_cases d2 : (k : Int) < 1048576
        · have d3 : ¬ ((k : Int) < (p : Int)) := fun h => hNn ⟨d1, d2, h⟩
          have d3' : decide (k < p) = false := by simp; omega
          clear hNn
          go_wp2_with fail
          with_reducible refine (HP.out _).mono ?_
          rintro e w' ⟨rfl, rfl⟩
          go_wp2
          go_ret2
          exact ⟨by rw [HS.out]; rfl, HO2.out⟩
        · have d2' : decide ((k : Int) < 1048576) = false := by simpa using d2
          clear hNn
          go_wp2
          go_ret2
          exact ⟨by rw [HS.out]; rfl, HO2.out⟩
      · have d1' : decide ((k : Int) < m) = false := by simpa using d1
        clear hNn
        go_wp2
        go_ret2
        exact ⟨by rw [HS.out]; rfl, HO2.out⟩
theorem srch_no {f : Int} {s : St} {b m : Int} (h : (validB f && bitB b) = false) : srch f s b m = none := srch_none fun j _ => by unfold gdB; rw [h]; rfl
/-- What the document's Search returns, in all cases. -/
theorem rsearch_any (f b m : Int) (s : St) (w : World) (hT : Tab w) (hs : Sm s) (hm : m ≤ 9223372036854775807) (hm0 : -9223372036854775808 ≤ m) :
    Calls Tryd.prog 18 #[.agg #[.int .i64 f, .int .u64 (s.a : Int), .int .u64 (s.b : Int), .int .u64 (s.c : Int), .int .u64 (s.d : Int)], .int .i64 b, .int .i64 m] w fun e w' => e = .returned (.tuple #[.int .u64 (optN (srch f s b m) : Int), .bool (optB (srch f s b m))]) ∧ On w w' := by
  cases hv : validB f && bitB b
  · rw [srch_no hv]; exact rsearch_no f b m s w hT hv
  · exact rsearch_yes f b m s w hT hv hs hm hm0
end Go.Proofs.YtcbmeegmdgllkaaDoor
