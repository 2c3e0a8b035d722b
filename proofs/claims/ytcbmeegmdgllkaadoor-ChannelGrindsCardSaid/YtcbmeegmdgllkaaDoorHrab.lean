/- The document's Absorb: what the call returns. -/
import Derived.Test.YtcbmeegmdgllkaaDoorHrdr
namespace Go.Proofs.YtcbmeegmdgllkaaDoor
open Go.RowKit
set_option linter.unusedVariables false

theorem rabsorb_no (f : Int) (s : St) (v : Value) (w : World) (hT : Tab w) (hv : validB f = false) :
    Calls Tryd.prog 32 #[.agg #[.int .i64 f, .int .u64 (s.a : Int), .int .u64 (s.b : Int), .int .u64 (s.c : Int), .int .u64 (s.d : Int)], v] w fun e w' => e = .returned (.agg #[.int .i64 0, .int .u64 0, .int .u64 0, .int .u64 0, .int .u64 0]) ∧ On w w' := by
  obtain ⟨W0, hW0, hA, hR, hO⟩ := boxC hT f s
  have HO := Lib.hid hO
  have HW0 := Lib.hid hW0
  have HV : Hid (∀ w, Calls Tryd.prog 27 #[.int .i64 f] w fun e w' => e = .returned (.bool false) ∧ w = w') := fun w => by have h := rvalid_any f w; rw [hv] at h; exact h
  have HP := Lib.hid hR.zero5
  obtain ⟨r0, r1, r2, r3, r4⟩ := hR.cells5
  obtain ⟨g0, g1, g2, g3, g4⟩ := hR.free5
  obtain ⟨c0, c1, c2, c3, c4⟩ := hA.cells5
  clear hW0 hA hR hO hv hT
  go_enter Tryd.func32, Tryd.ntmps32
  go_upto_region 1 with fail
  rw [← HW0.out]
  go_wp2_with fail
  with_reducible refine (HV.out _).mono ?_
  rintro e w' ⟨rfl, rfl⟩
  go_wp2
  obtain ⟨p0, p1, p2, p3, p4⟩ := HP.out.cells5
  simp only [z4] at p0 p1 p2 p3 p4
  refine bodyPost_ret (v := .agg #[.int .i64 0, .int .u64 0, .int .u64 0, .int .u64 0, .int .u64 0]) (by simp [results, Tryd.results32, go_sem, p0, p1, p2, p3, p4]; try rfl) rfl ?_
  exact ⟨rfl, HO.out.store5 (by omega) _ _ _ _ _⟩
set_option maxHeartbeats 4000000 in
set_option maxRecDepth 100000 in
theorem rabsorb_yes (f : Int) (s : St) (l : List Nat) (a : Option Addr) (cap : Nat) (w : World) (hT : Tab w) (hv : validB f = true) (hs : Sm s) (hRd : Reads w (.slice a l.length cap) l) (hln : l.length ≤ 9223372036854775800) :
    Calls Tryd.prog 32 #[.agg #[.int .i64 f, .int .u64 (s.a : Int), .int .u64 (s.b : Int), .int .u64 (s.c : Int), .int .u64 (s.d : Int)], .slice a l.length cap] w fun e w' => e = .returned (.agg #[.int .i64 f, .int .u64 ((absL f (modS f s) l).a : Int), .int .u64 ((absL f (modS f s) l).b : Int), .int .u64 ((absL f (modS f s) l).c : Int), .int .u64 ((absL f (modS f s) l).d : Int)]) ∧ On w w' := by
  obtain ⟨W0, hW0, hA, hR, hO⟩ := boxC hT f s
  have hp := (valid_iff f).1 hv
  have hle := pOf_le f
  have HO := Lib.hid hO
  have HW0 := Lib.hid hW0
  have HRD := Lib.hid hRd
  have HU : Hid (∀ k, k < l.length → l.getD k 0 ≤ 18446744073709551615) := fun k hk => hRd.1 _ (by rw [List.getD_eq_getElem?_getD, List.getElem?_eq_getElem hk]; exact List.getElem_mem _)
  have HV : Hid (∀ w, Calls Tryd.prog 27 #[.int .i64 f] w fun e w' => e = .returned (.bool true) ∧ w = w') := fun w => by have h := rvalid_any f w; rw [hv] at h; exact h
  have HVV := Lib.hid hv
  have HS : Hid (∀ i, ix s i ≤ 18446744073709551615) := fun i => by unfold ix; obtain ⟨h1, h2, h3, h4⟩ := hs; (repeat' split) <;> assumption
  have HAA := Lib.hid hA
  have HRR := Lib.hid hR
  obtain ⟨c0, c1, c2, c3, c4⟩ := hA.cells5
  have HLN := Lib.hid hln
  clear hW0 hA hR hO hv hT hRd hs
  go_enter Tryd.func32, Tryd.ntmps32
  go_upto_region 1 with fail
  rw [← HW0.out]
  go_wp2_with fail
  with_reducible refine (HV.out _).mono ?_
  rintro e w' ⟨rfl, rfl⟩
  clear c0 c1 c2 c3 c4
  go_upto_region 4 with fail
  go_loopw [5] (fun vi wr => ∃ k : Nat, k ≤ 4 ∧ vi = .int .i64 (k : Int) ∧ Hid (VB w.heap.size wr (chL f (redS f s k))) ∧ Hid (VB (w.heap.size + 1) wr (chL 0 z4)) ∧ Hid (On w wr)) (fun vi _ => 4 - (intOf vi).toNat)
  case atStart => exact ⟨0, by omega, rfl, (redS_zero f s).symm ▸ HAA.out, HRR.out, HO.out⟩
  case round =>
    obtain ⟨k, hk, rfl, HA, HR, HO2⟩ := hrel
    by_cases hk4 : k < 4
    · have hca := HA.out.2.1 _ _ (redS_get f s k hk4)
      have hfa := HA.out.2.2 (1 + k)
      have hc0 : wr.cell? ⟨w.heap.size, 0, none⟩ = some (.int .i64 f) := HA.out.2.1 0 _ rfl
      have hx := HS.out k
      have HA2 : Hid (∀ v, v = ix s k % pOf f → VB w.heap.size (wr.setCell ⟨w.heap.size, 1 + k, none⟩ (.int .u64 ((v : Nat) : Int))) (chL f (redS f s (k + 1)))) := fun v hv => by
        have := HA.out.set (1 + k) (.int .u64 ((v : Nat) : Int)) (by simp [chL]; omega)
        rw [redS_step f s k v hk4 hv] at this; exact this
      have HR2 : Hid (∀ u, VB (w.heap.size + 1) (wr.setCell ⟨w.heap.size, 1 + k, none⟩ u) (chL 0 z4)) := fun u => HR.out.other _ (by simp) u
      have HO3 : Hid (∀ u, On w (wr.setCell ⟨w.heap.size, 1 + k, none⟩ u)) := fun u => HO2.out.setCell (by simp) u
      generalize ix s k = x at *
      obtain ⟨u, hu⟩ : ∃ u, u = x % pOf f := ⟨_, rfl⟩
      have HUU := Lib.hid hu
      have HP : Hid (∀ n, Calls Tryd.prog 28 #[.int .i64 f, .int .u64 (x : Int), .int .u64 0] (wr.drewN n) fun e w' => e = .returned (.int .u64 (u : Int)) ∧ Drawn (wr.drewN n) w') := fun n => by
        have h := radd_any f x 0 (wr.drewN n) hx (by decide)
        rw [addF_zeroR f x hp, ← hu] at h; exact h
      have l0 : (0 : Int) ≤ (k : Int) := by omega
      have l1 : (k : Int) < 4 := by omega
      clear hu
      go_wp2
      refine region_quiet_tail 10 (by kernel_rfl) (by kernel_rfl) ?_
      simp only [List.take_succ_cons, List.take_zero, List.drop_succ_cons, List.drop_zero]
      repeat (quiet_step ((go_at_call 28; exact quiet_of_drawn (HP.out _))))
      refine wpQuiet_nil ?_
      intro _ hw'
      obtain ⟨nq, hw''⟩ := hw'
      subst hw''
      have hca2 : (wr.drewN nq).cell? ⟨w.heap.size, 1 + k, none⟩ = _ := hca
      have hfa2 : (wr.drewN nq).frozen? ⟨w.heap.size, 1 + k, none⟩ = false := hfa
      go_wp2
      go_roundw
      case rel => exact ⟨k + 1, by omega, by go_num, (HA2.out _ HUU.out).drewN nq, (HR2.out _).drewN nq, (HO3.out _).drewN nq⟩
      case measure => simp [intOf]; omega
    · obtain rfl : k = 4 := by omega
      rw [redS_four] at HA
      have HME := Lib.hid (modS_els f s hp)
      go_upto_region 8 with fail
      try rw [show ((4 : Nat) : Int) = 4 from rfl]
      go_loopw [6] (fun vi wr => ∃ k : Nat, k ≤ l.length ∧ vi = .int .i64 (k : Int) ∧ Hid (VB w.heap.size wr (chL f (absT f (modS f s) l k))) ∧ Hid (VB (w.heap.size + 1) wr (chL 0 z4)) ∧ Hid (On w wr)) (fun vi _ => l.length - (intOf vi).toNat)
      case atStart => exact ⟨0, by omega, rfl, HA.out, HR.out, HO2.out⟩
      case round =>
        clear HA HR HO2 HS HV
        obtain ⟨k, hk, rfl, HA, HR, HO2⟩ := hrel
        have hln : l.length ≤ 9223372036854775800 := HLN.out
        by_cases hkl : k < l.length
        · obtain ⟨b, off, rfl, hcl⟩ := (HRD.out.on HO2.out).spot k hkl
          have hxb := HU.out k hkl
          obtain ⟨Z, hZ⟩ : ∃ Z, Z = absT f (modS f s) l (k + 1) := ⟨_, rfl⟩
          have HN : Hid (absS f (absT f (modS f s) l k) (l.getD k 0) = Z) := hZ.symm
          have HZ := Lib.hid hZ
          clear hZ
          have hzm := (absT_els f (modS f s) l k hp HME.out).sm
          have HCL := Lib.hid hcl
          clear hcl
          obtain ⟨c0, c1, c2, c3, c4⟩ := HA.out.cells5
          generalize absT f (modS f s) l k = z at *
          have hcl := HCL.out
          generalize l.getD k 0 = x at *
          have hza := hzm.1
          have hzb := hzm.2.1
          obtain ⟨P0, hP0⟩ : ∃ Q, Q = addF f z.a x := ⟨_, rfl⟩
          obtain ⟨Q0, hQ0⟩ : ∃ Q, Q = addF f z.b 1 := ⟨_, rfl⟩
          have hP0l : P0 ≤ 18446744073709551615 := by rw [hP0]; have := addF_le f z.a x; omega
          have hQ0l : Q0 ≤ 18446744073709551615 := by rw [hQ0]; have := addF_le f z.b 1; omega
          have HA1 : Hid (∀ n, Calls Tryd.prog 28 #[.int .i64 f, .int .u64 (z.a : Int), .int .u64 (x : Int)] (wr.drewN n) fun e w' => e = .returned (.int .u64 (P0 : Int)) ∧ Drawn (wr.drewN n) w') := fun n => by rw [hP0]; exact radd_any f z.a x (wr.drewN n) hza hxb
          have HA2 : Hid (∀ w, Calls Tryd.prog 28 #[.int .i64 f, .int .u64 (z.b : Int), .int .u64 1] w fun e w' => e = .returned (.int .u64 (Q0 : Int)) ∧ Drawn w w') := fun w => by rw [hQ0]; exact radd_any f z.b 1 w hzb (by decide)
          have HC : Hid (∀ u, Tab u → Calls Tryd.prog 29 #[.int .i64 f, .agg #[.int .u64 ((⟨P0, Q0, z.c, z.d⟩ : St).a : Int), .int .u64 ((⟨P0, Q0, z.c, z.d⟩ : St).b : Int), .int .u64 ((⟨P0, Q0, z.c, z.d⟩ : St).c : Int), .int .u64 ((⟨P0, Q0, z.c, z.d⟩ : St).d : Int)]] u fun e w' => e = .returned (.agg #[.int .u64 (Z.a : Int), .int .u64 (Z.b : Int), .int .u64 (Z.c : Int), .int .u64 (Z.d : Int)]) ∧ On u w') := fun u hu => by
            have h := rperm_any f ⟨P0, Q0, z.c, z.d⟩ u hu ⟨hP0l, hQ0l, hzm.2.2.1, hzm.2.2.2⟩
            rw [okS_yes HVV.out, hP0, hQ0, show permS f ⟨addF f z.a x, addF f z.b 1, z.c, z.d⟩ = Z from HN.out, ← hP0, ← hQ0] at h; exact h
          have hf1 := HA.out.2.2 1
          have l0 : (0 : Int) ≤ (k : Int) := by omega
          have l1 : (k : Int) < (l.length : Int) := by omega
          clear hP0 hQ0 hP0l hQ0l hzm hza hzb HN
          go_upto_region 10 with fail
          refine region_quiet_tail 12 (by kernel_rfl) (by kernel_rfl) ?_
          simp only [List.take_succ_cons, List.take_zero, List.drop_succ_cons, List.drop_zero]
          repeat (quiet_step ((go_at_call 28; exact quiet_of_drawn (HA1.out _))))
          refine wpQuiet_nil ?_
          intro _ hw'
          obtain ⟨nq, hw''⟩ := hw'
          subst hw''
          have hB0 : VB w.heap.size (wr.drewN nq) (chL f z) := HA.out.drewN nq
          have HB1 := Lib.hid (hB0.set 1 (.int .u64 (P0 : Int)) (by simp [chL]))
          have HR1 := Lib.hid ((HR.out.drewN nq).other ⟨w.heap.size, 1, none⟩ (by simp) (.int .u64 (P0 : Int)))
          have HO1 := Lib.hid ((HO2.out.drewN nq).setCell (p := ⟨w.heap.size, 1, none⟩) (Nat.le_refl _) (.int .u64 (P0 : Int)))
          clear c0 c1 c2 c3 c4 hcl HCL hf1
          obtain ⟨c0, c1, c2, c3, c4⟩ := hB0.cells5
          obtain ⟨f0, f1, f2, f3, f4⟩ := hB0.free5
          clear hB0
          go_upto_region 11 with fail
          clear c0 c1 c2 c3 c4 f0 f1 f2 f3 f4
          generalize (wr.drewN nq).setCell ⟨w.heap.size, 1, none⟩ (.int .u64 (P0 : Int)) = w1 at *
          have HB1 : Hid (VB w.heap.size w1 (chL f ⟨P0, z.b, z.c, z.d⟩)) := HB1.out
          obtain ⟨c0, c1, c2, c3, c4⟩ := HB1.out.cells5
          simp only at c1 c2 c3 c4
          go_wp2_with fail
          with_reducible refine (HA2.out _).mono ?_
          rintro e w2 ⟨rfl, hd2⟩
          have hO2 : On w1 w2 := hd2.on (On.refl HO1.out.tab)
          have HB2 := Lib.hid ((HB1.out.on hO2).set 2 (.int .u64 (Q0 : Int)) (by simp [chL]))
          have HR2 := Lib.hid ((HR1.out.on hO2).other ⟨w.heap.size, 2, none⟩ (by simp) (.int .u64 (Q0 : Int)))
          have HO3 := Lib.hid ((HO1.out.trans hO2).setCell (p := ⟨w.heap.size, 2, none⟩) (Nat.le_refl _) (.int .u64 (Q0 : Int)))
          clear c0 c1 c2 c3 c4
          obtain ⟨c0, c1, c2, c3, c4⟩ := (HB1.out.on hO2).cells5
          obtain ⟨f0, f1, f2, f3, f4⟩ := (HB1.out.on hO2).free5
          clear hd2 hO2
          go_upto_region 12 with fail
          clear c0 c1 c2 c3 c4 f0 f1 f2 f3 f4
          generalize w2.setCell ⟨w.heap.size, 2, none⟩ (.int .u64 (Q0 : Int)) = w3 at *
          have HB2 : Hid (VB w.heap.size w3 (chL f ⟨P0, Q0, z.c, z.d⟩)) := HB2.out
          obtain ⟨c0, c1, c2, c3, c4⟩ := HB2.out.cells5
          simp only at c1 c2 c3 c4
          go_wp2_with fail
          with_reducible refine (HC.out _ HO3.out.tab).mono ?_
          rintro e w4 ⟨rfl, hO4⟩
          have HB3 := Lib.hid ((HB2.out.on hO4).storeS Z)
          have HR3 := Lib.hid ((HR2.out.on hO4).otherS (C := w.heap.size) (by omega) (.int .u64 (Z.a : Int)) (.int .u64 (Z.b : Int)) (.int .u64 (Z.c : Int)) (.int .u64 (Z.d : Int)))
          have HO4 := Lib.hid ((HO3.out.trans hO4).storeS (C := w.heap.size) (Nat.le_refl _) (.int .u64 (Z.a : Int)) (.int .u64 (Z.b : Int)) (.int .u64 (Z.c : Int)) (.int .u64 (Z.d : Int)))
          clear c0 c1 c2 c3 c4
          obtain ⟨c0, c1, c2, c3, c4⟩ := (HB2.out.on hO4).cells5
          obtain ⟨f0, f1, f2, f3, f4⟩ := (HB2.out.on hO4).free5
          clear hO4 HA HR HO2 HB1 HR1 HO1 HB2 HR2 HO3 HC HA1 HA2
          go_wp2
          go_roundw
          case rel => exact ⟨k + 1, by omega, by go_num, (by rw [← HZ.out]; exact HB3.out), HR3.out, HO4.out⟩
          case measure => simp [intOf]; omega
        · obtain rfl : k = l.length := by omega
          obtain ⟨Z, hZ⟩ : ∃ Z, Z = absL f (modS f s) l := ⟨_, rfl⟩
          have HA2 : Hid (VB w.heap.size wr (chL f Z)) := by rw [hZ]; exact HA.out
          have HZ := Lib.hid hZ
          clear HA hZ
          obtain ⟨r0, r1, r2, r3, r4⟩ := HR.out.cells5
          obtain ⟨g0, g1, g2, g3, g4⟩ := HR.out.free5
          obtain ⟨c0, c1, c2, c3, c4⟩ := HA2.out.cells5
          have HP := Lib.hid (HR.out.store5 f Z)
          go_wp2
          obtain ⟨p0, p1, p2, p3, p4⟩ := HP.out.cells5
          refine bodyPost_ret (v := .agg #[.int .i64 f, .int .u64 (Z.a : Int), .int .u64 (Z.b : Int), .int .u64 (Z.c : Int), .int .u64 (Z.d : Int)]) (by simp [results, Tryd.results32, go_sem, p0, p1, p2, p3, p4]; try rfl) rfl ?_
          exact ⟨by rw [HZ.out], HO2.out.store5 (by omega) _ _ _ _ _⟩
end Go.Proofs.YtcbmeegmdgllkaaDoor
