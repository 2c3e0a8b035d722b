/- The laws' own calls: lives, reduced: what each returns. -/
import Derived.Test.YtcbmeegmdgllkaaDoorHsea
import Derived.Test.YtcbmeegmdgllkaaDoorHeq
import Derived.Test.YtcbmeegmdgllkaaDoorPrefA
namespace Go.Proofs.YtcbmeegmdgllkaaDoor
open Go.RowKit
set_option linter.unusedVariables false

theorem k_new (w : World) (hT : Tab w) : Calls Tryd.prog 24 #[.int .i64 0] w fun e w' => e = .returned (.agg #[.int .i64 0, .int .u64 0, .int .u64 0, .int .u64 0, .int .u64 0]) ∧ On w w' := new_any 0 w hT
theorem z4_sm : Sm z4 := ⟨by decide, by decide, by decide, by decide⟩
theorem k_drwS : drwS 0 z4 = ⟨22, 69, 88, 87⟩ := by
  have e0 : (drwS 0 z4).a = 22 := by decide +kernel
  have e1 : (drwS 0 z4).b = 69 := by decide +kernel
  have e2 : (drwS 0 z4).c = 88 := by decide +kernel
  have e3 : (drwS 0 z4).d = 87 := by decide +kernel
  rw [show drwS 0 z4 = ⟨(drwS 0 z4).a, (drwS 0 z4).b, (drwS 0 z4).c, (drwS 0 z4).d⟩ from rfl, e0, e1, e2, e3]
theorem k_draw (w : World) (hT : Tab w) : Calls Tryd.prog 10 #[.agg #[.int .i64 0, .int .u64 0, .int .u64 0, .int .u64 0, .int .u64 0]] w fun e w' => e = .returned (.tuple #[.agg #[.int .i64 0, .int .u64 22, .int .u64 69, .int .u64 88, .int .u64 87], .int .u64 22]) ∧ On w w' := by
  have h := draw_yes 0 z4 w hT rfl z4_sm
  rw [k_drwS] at h; exact h
theorem k_pos (w : World) (hT : Tab w) : Calls Tryd.prog 12 #[.agg #[.int .i64 0, .int .u64 0, .int .u64 0, .int .u64 0, .int .u64 0], .int .i64 3] w fun e w' => e = .returned (.tuple #[.agg #[.int .i64 0, .int .u64 22, .int .u64 69, .int .u64 88, .int .u64 87], .int .i64 6]) ∧ On w w' := by
  have h := pos_yes 0 3 z4 w hT (by decide) z4_sm
  rw [show validB 0 = true from rfl, show ifS true (drwS 0 z4) = drwS 0 z4 from rfl, k_drwS] at h; exact h
theorem k_search (w : World) (hT : Tab w) : Calls Tryd.prog 17 #[.agg #[.int .i64 0, .int .u64 0, .int .u64 0, .int .u64 0, .int .u64 0], .int .i64 0, .int .i64 5] w fun e w' => e = .returned (.tuple #[.int .u64 0, .bool true]) ∧ On w w' := by
  have h := search_any 0 0 5 z4 w hT z4_sm (by decide) (by decide)
  rw [srch_some (k := 0) (by decide +kernel) (by decide +kernel) (fun j hj => absurd hj (by omega))] at h; exact h
set_option maxHeartbeats 2000000 in
set_option maxRecDepth 100000 in
theorem hlives_any (w : World) (hT : Tab w) : Calls Tryd.prog 14 #[] w fun e w' => e = .returned (.bool true) ∧ On w w' := by
  have HT := Lib.hid hT
  clear hT
  have h5 := heq5
  go_enter Tryd.func14, Tryd.ntmps14
  go_wp2_with fail
  with_reducible refine (k_new _ HT.out).mono ?_
  rintro e w1 ⟨rfl, hO1⟩
  have HO1 := Lib.hid hO1
  clear hO1
  go_wp2_with fail
  with_reducible refine (k_draw _ HO1.out.tab).mono ?_
  rintro e w2 ⟨rfl, hO2⟩
  have HO2 := Lib.hid (HO1.out.trans hO2)
  clear hO2
  go_upto_region 2 with fail
  have HV : Hid (VB w2.heap.size (w2.alloc (.cells #[.int .i64 0, .int .u64 22, .int .u64 69, .int .u64 88, .int .u64 87] 25)) (chL 0 ⟨22, 69, 88, 87⟩)) := vb_new _ _ _
  have HO3 : Hid (On w (w2.alloc (.cells #[.int .i64 0, .int .u64 22, .int .u64 69, .int .u64 88, .int .u64 87] 25))) := HO2.out.alloc _
  generalize w2.alloc (.cells #[.int .i64 0, .int .u64 22, .int .u64 69, .int .u64 88, .int .u64 87] 25) = w3 at *
  go_wp2_with fail
  with_reducible refine (k_new _ HO3.out.tab).mono ?_
  rintro e w4 ⟨rfl, hO4⟩
  have HO4 := Lib.hid (HO3.out.trans hO4)
  have HV4 := Lib.hid (HV.out.on hO4)
  clear hO4
  go_wp2_with fail
  with_reducible refine (k_pos _ HO4.out.tab).mono ?_
  rintro e w5 ⟨rfl, hO5⟩
  have HO5 := Lib.hid (HO4.out.trans hO5)
  have HV5 := Lib.hid (HV4.out.on hO5)
  clear hO5
  go_upto_region 3 with fail
  have HO6 : Hid (On w (w5.alloc (.cells #[.int .i64 0, .int .u64 22, .int .u64 69, .int .u64 88, .int .u64 87] 25))) := HO5.out.alloc _
  have HV6 : Hid (VB w2.heap.size (w5.alloc (.cells #[.int .i64 0, .int .u64 22, .int .u64 69, .int .u64 88, .int .u64 87] 25)) (chL 0 ⟨22, 69, 88, 87⟩)) := HV5.out.on ((On.refl HO5.out.tab).alloc _)
  generalize w5.alloc (.cells #[.int .i64 0, .int .u64 22, .int .u64 69, .int .u64 88, .int .u64 87] 25) = w6 at *
  go_wp2_with fail
  with_reducible refine (k_new _ HO6.out.tab).mono ?_
  rintro e w7 ⟨rfl, hO7⟩
  have HO7 := Lib.hid (HO6.out.trans hO7)
  have HV7 := Lib.hid (HV6.out.on hO7)
  clear hO7
  go_wp2_with fail
  with_reducible refine (k_search _ HO7.out.tab).mono ?_
  rintro e w8 ⟨rfl, hO8⟩
  have HO8 := Lib.hid (HO7.out.trans hO8)
  have HV8 := Lib.hid (HV7.out.on hO8)
  clear hO8 HV HV4 HV5 HV6 HV7
  obtain ⟨c0, c1, c2, c3, c4⟩ := HV8.out.cells5
  simp only [Int.cast_ofNat_Int] at c1 c2 c3 c4
  have hq : ∀ w, (Op.equalIn 10000 25 (.agg #[.int .i64 0, .int .u64 22, .int .u64 69, .int .u64 88, .int .u64 87]) (.agg #[.int .i64 0, .int .u64 22, .int .u64 69, .int .u64 88, .int .u64 87])).run Tryd.prog w = .ok true w := fun w => by rw [h5]; rfl
  clear h5
  go_wp2
  go_ret
  exact ⟨rfl, HO8.out⟩
set_option maxHeartbeats 2000000 in
set_option maxRecDepth 100000 in
theorem reduced8 (n : Nat) (F : Nat) (s : St) (w : World) (hT : Tab w) (hn : n ≤ 255) (hF : F = n % 4) (hs : Sm s) :
    Calls Tryd.prog 19 #[.int .u8 (n : Int), .agg #[.int .u64 (s.a : Int), .int .u64 (s.b : Int), .int .u64 (s.c : Int), .int .u64 (s.d : Int)]] w fun e w' => e = .returned (.agg #[.int .i64 (F : Int), .int .u64 ((modS (F : Int) s).a : Int), .int .u64 ((modS (F : Int) s).b : Int), .int .u64 ((modS (F : Int) s).c : Int), .int .u64 ((modS (F : Int) s).d : Int)]) ∧ On w w' := by
  have hv : validB (F : Int) = true := by unfold validB; simp; omega
  have hp := (valid_iff (F : Int)).1 hv
  have hle := pOf_le (F : Int)
  have hF2 : (n : Int) % 4 = (F : Int) := by omega
  obtain ⟨W0, hW0⟩ : ∃ W0, W0 = (w.alloc (.cells #[.int .u64 (s.a : Int), .int .u64 (s.b : Int), .int .u64 (s.c : Int), .int .u64 (s.d : Int)] 23)).alloc (.cells #[.int .i64 0, .int .u64 0, .int .u64 0, .int .u64 0, .int .u64 0] 25) := ⟨_, rfl⟩
  have hO : On w W0 := by rw [hW0]; exact ((On.refl hT).alloc _).alloc _
  have hA : VB w.heap.size W0 [.int .u64 (s.a : Int), .int .u64 (s.b : Int), .int .u64 (s.c : Int), .int .u64 (s.d : Int)] := by rw [hW0]; exact (vb_new w _ _).on ((On.refl ((On.refl hT).alloc _).tab).alloc _)
  have hR : VB (w.heap.size + 1) W0 (chL 0 z4) := by
    rw [hW0]
    have := vb_new (w.alloc (.cells #[.int .u64 (s.a : Int), .int .u64 (s.b : Int), .int .u64 (s.c : Int), .int .u64 (s.d : Int)] 23)) #[.int .i64 0, .int .u64 0, .int .u64 0, .int .u64 0, .int .u64 0] 25
    rw [show (w.alloc (.cells #[.int .u64 (s.a : Int), .int .u64 (s.b : Int), .int .u64 (s.c : Int), .int .u64 (s.d : Int)] 23)).heap.size = w.heap.size + 1 by simp] at this
    exact this
  have hz : W0.heap.size = w.heap.size + 2 := by rw [hW0]; simp
  have HC : Hid (VB W0.heap.size (W0.alloc (.cells #[.int .i64 (F : Int), .int .u64 (s.a : Int), .int .u64 (s.b : Int), .int .u64 (s.c : Int), .int .u64 (s.d : Int)] 25)) (chL (F : Int) s)) := vb_new W0 _ _
  have HO1 : Hid (On W0 (W0.alloc (.cells #[.int .i64 (F : Int), .int .u64 (s.a : Int), .int .u64 (s.b : Int), .int .u64 (s.c : Int), .int .u64 (s.d : Int)] 25))) := (On.refl hO.tab).alloc _
  rw [hz] at HC
  have HA := Lib.hid hA
  have HR := Lib.hid hR
  have HO := Lib.hid hO
  have HW0 := Lib.hid hW0
  have HZ := Lib.hid hz
  have HS : Hid (∀ i, ix s i ≤ 18446744073709551615) := fun i => by unfold ix; obtain ⟨h1, h2, h3, h4⟩ := hs; (repeat' split) <;> assumption
  have c0 := hA.2.1 0 _ rfl
  have c1 := hA.2.1 1 _ rfl
  have c2 := hA.2.1 2 _ rfl
  have c3 := hA.2.1 3 _ rfl
  have HF2 := Lib.hid hF2
  have hw : IntKind.i64.wrap (F : Int) = (F : Int) := IntWalk.i64_in _ (by omega)
  clear hW0 hA hR hO hz hT hs hF hv
  go_enter Tryd.func19, Tryd.ntmps19
  go_upto_region 1 with fail
  rw [← HW0.out]
  go_upto_region 3 with fail
  rw [HZ.out]
  have HAs : Hid (On w (W0.alloc (.cells #[.int .i64 (F : Int), .int .u64 (s.a : Int), .int .u64 (s.b : Int), .int .u64 (s.c : Int), .int .u64 (s.d : Int)] 25))) := HO.out.trans HO1.out
  have HA2 := Lib.hid (HA.out.on HO1.out)
  have HR2 := Lib.hid (HR.out.on HO1.out)
  generalize W0.alloc (.cells #[.int .i64 (F : Int), .int .u64 (s.a : Int), .int .u64 (s.b : Int), .int .u64 (s.c : Int), .int .u64 (s.d : Int)] 25) = w1 at *
  simp only [hF2]
  clear c0 c1 c2 c3 HA HR HO HO1 HW0 HZ HF2 hw hF2
  go_loopw [6] (fun vi wr => ∃ k : Nat, k ≤ 4 ∧ vi = .int .i64 (k : Int) ∧ Hid (VB (w.heap.size + 2) wr (chL (F : Int) (redS (F : Int) s k))) ∧ Hid (VB (w.heap.size + 1) wr (chL 0 z4)) ∧ Hid (VB w.heap.size wr [.int .u64 (s.a : Int), .int .u64 (s.b : Int), .int .u64 (s.c : Int), .int .u64 (s.d : Int)]) ∧ Hid (On w wr)) (fun vi _ => 4 - (intOf vi).toNat)
  case atStart => exact ⟨0, by omega, rfl, (redS_zero (F : Int) s).symm ▸ HC.out, HR2.out, HA2.out, HAs.out⟩
  case round =>
    clear HC HR2 HA2 HAs
    obtain ⟨k, hk, rfl, HC, HR, HA, HO⟩ := hrel
    by_cases hk4 : k < 4
    · have hc0 : wr.cell? ⟨w.heap.size + 2, 0, none⟩ = some (.int .i64 (F : Int)) := HC.out.2.1 0 _ rfl
      have hcc := HC.out.2.1 _ _ (redS_get (F : Int) s k hk4)
      have hfc := HC.out.2.2 (1 + k)
      have hca : wr.cell? ⟨w.heap.size, k, none⟩ = some (.int .u64 ((ix s k : Nat) : Int)) := HA.out.2.1 k _ (by rcases lt4 hk4 with rfl | rfl | rfl | rfl <;> rfl)
      have hx := HS.out k
      have HC2 : Hid (∀ v, v = ix s k % pOf (F : Int) → VB (w.heap.size + 2) (wr.setCell ⟨w.heap.size + 2, 1 + k, none⟩ (.int .u64 ((v : Nat) : Int))) (chL (F : Int) (redS (F : Int) s (k + 1)))) := fun v hv => by
        have := HC.out.set (1 + k) (.int .u64 ((v : Nat) : Int)) (by simp [chL]; omega)
        rw [redS_step (F : Int) s k v hk4 hv] at this; exact this
      have HR2 : Hid (∀ u, VB (w.heap.size + 1) (wr.setCell ⟨w.heap.size + 2, 1 + k, none⟩ u) (chL 0 z4)) := fun u => HR.out.other _ (by simp) u
      have HA2 : Hid (∀ u, VB w.heap.size (wr.setCell ⟨w.heap.size + 2, 1 + k, none⟩ u) [.int .u64 (s.a : Int), .int .u64 (s.b : Int), .int .u64 (s.c : Int), .int .u64 (s.d : Int)]) := fun u => HA.out.other _ (by simp) u
      have HO2 : Hid (∀ u, On w (wr.setCell ⟨w.heap.size + 2, 1 + k, none⟩ u)) := fun u => HO.out.setCell (by simp) u
      generalize ix s k = x at *
      obtain ⟨u, hu⟩ : ∃ u, u = x % pOf (F : Int) := ⟨_, rfl⟩
      have hq0 := eq0_pos hp
      have hne : ¬ (pOf (F : Int) = 0) := by omega
      have hul : u < pOf (F : Int) := by rw [hu]; exact Nat.mod_lt _ hp
      have hqt : Int.tmod (x : Int) ((pOf (F : Int) : Nat) : Int) = (u : Int) := by rw [Int.tmod_eq_emod_of_nonneg (by omega), hu]; rfl
      have hqw : IntKind.u64.wrap (u : Int) = (u : Int) := IntWalk.u64_in _ (by omega)
      have HUU := Lib.hid hu
      have HP := Lib.hid (fun n => rp_any (F : Int) (wr.drewN n))
      have l0 : (0 : Int) ≤ (k : Int) := by omega
      have l1 : (k : Int) < 4 := by omega
      clear hu
      go_wp2
      refine region_quiet_tail 10 (by kernel_rfl) (by kernel_rfl) ?_
      simp only [List.take_succ_cons, List.take_zero, List.drop_succ_cons, List.drop_zero]
      repeat (quiet_step ((go_at_call 20; exact quiet_of_eq (HP.out _))))
      refine wpQuiet_nil ?_
      intro _ hw'
      obtain ⟨nq, hw''⟩ := hw'
      subst hw''
      have hca2 : (wr.drewN nq).cell? ⟨w.heap.size + 2, 1 + k, none⟩ = _ := hcc
      have hfa2 : (wr.drewN nq).frozen? ⟨w.heap.size + 2, 1 + k, none⟩ = false := hfc
      go_wp2
      go_roundw
      case rel => exact ⟨k + 1, by omega, by go_num, (HC2.out _ HUU.out).drewN nq, (HR2.out _).drewN nq, (HA2.out _).drewN nq, (HO2.out _).drewN nq⟩
      case measure => simp [intOf]; omega
    · obtain rfl : k = 4 := by omega
      rw [redS_four] at HC
      obtain ⟨z, hz⟩ : ∃ z, z = modS (F : Int) s := ⟨_, rfl⟩
      rw [← hz] at HC
      have HZ := Lib.hid hz
      clear hz
      obtain ⟨c0, c1, c2, c3, c4⟩ := HC.out.cells5
      obtain ⟨r0, r1, r2, r3, r4⟩ := HR.out.cells5
      obtain ⟨g0, g1, g2, g3, g4⟩ := HR.out.free5
      have HP := Lib.hid (HR.out.store5 (F : Int) z)
      go_wp2
      obtain ⟨p0, p1, p2, p3, p4⟩ := HP.out.cells5
      refine bodyPost_ret (v := .agg #[.int .i64 (F : Int), .int .u64 (z.a : Int), .int .u64 (z.b : Int), .int .u64 (z.c : Int), .int .u64 (z.d : Int)]) (by simp [results, Tryd.results19, go_sem, p0, p1, p2, p3, p4]; try rfl) rfl ?_
      exact ⟨by rw [HZ.out], HO.out.store5 (by omega) _ _ _ _ _⟩
end Go.Proofs.YtcbmeegmdgllkaaDoor
