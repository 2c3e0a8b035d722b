/- The sponge's Inverse and Round: what the calls return. -/
import Derived.Test.YtbmieoedpgdlpaaDoorSpubb
namespace Go.Proofs.YtbmieoedpgdlpaaDoor
open Go.RowKit
set_option linter.unusedVariables false

set_option maxHeartbeats 1000000 in
set_option maxRecDepth 100000 in
theorem inverse_any (f : Int) (s : St) (w : World) (hT : Tab w) (hU : TabU w) (hs : Sm s) :
    Calls Tryd.prog 19 #[.int .i64 f, .agg #[.int .u64 (s.a : Int), .int .u64 (s.b : Int), .int .u64 (s.c : Int), .int .u64 (s.d : Int)]] w fun e w' =>
      e = .returned (.agg #[.int .u64 (((okS f (invS f s)).a : Nat) : Int), .int .u64 (((okS f (invS f s)).b : Nat) : Int), .int .u64 (((okS f (invS f s)).c : Nat) : Int), .int .u64 (((okS f (invS f s)).d : Nat) : Int)]) ∧ On w w' := by
  have HE := Lib.hid hs
  have HU := Lib.hid hU
  have HB := Lib.hid (box2 hT s 23 23)
  clear hs hT hU
  obtain ⟨W0, hW0⟩ : ∃ W0, W0 = ((w.alloc (.cells #[.int .u64 (s.a : Int), .int .u64 (s.b : Int), .int .u64 (s.c : Int), .int .u64 (s.d : Int)] 23)).alloc (.cells #[.int .u64 0, .int .u64 0, .int .u64 0, .int .u64 0] 23)) := ⟨_, rfl⟩
  rw [← hW0] at HB
  have HW0 := Lib.hid hW0
  clear hW0
  go_enter Tryd.func19, Tryd.ntmps19
  go_wp2_with fail
  rw [← HW0.out]
  with_reducible refine (mixer_any f W0 HB.out.2.2.tab).mono ?_
  rintro e w1 ⟨rfl, hO1⟩
  have HO1 := Lib.hid (HB.out.2.2.trans hO1)
  have HA := Lib.hid (HB.out.1.on hO1)
  have HR := Lib.hid (HB.out.2.1.on hO1)
  have HN := Lib.hid (mx_new (f := f) HO1.out.tab zerM 43 zerM_size w1.heap.size rfl)
  clear hO1
  obtain ⟨V, hV⟩ : ∃ V, V = mixL f := ⟨_, rfl⟩
  have HV1 : Hid (V.toArray.all (·.oneCell') = true) := by rw [hV]; exact mixL_one f
  have HV2 : Hid (V.length = 36) := by rw [hV]; exact mixL_len f
  rw [← hV] at HN ⊢
  clear hV
  go_upto_region 2 with (refine wpList_store_mid rfl 43 (.tmp 5) (.tmp 10) rfl w1.heap.size 0 V.toArray rfl rfl (by show World.there _ _ _ V.length; rw [HV2.out]; exact HN.out.1) (by show _ = some V.length; rw [HV2.out]; exact info_mix) HV1.out ?_)
  show Code.wp _ _ _ _ ((w1.alloc (.cells zerM 43)).setCells w1.heap.size 0 V)
  have HON := Lib.hid HN.out.2.1
  have HMX := Lib.hid HN.out.2.2
  have hN1 : w.heap.size + 1 < w1.heap.size := HR.out.1
  clear HN
  generalize (w1.alloc (.cells zerM 43)).setCells w1.heap.size 0 V = w2 at *
  have HA := Lib.hid (HA.out.on HON.out)
  have HR := Lib.hid (HR.out.on HON.out)
  have HO := Lib.hid (HO1.out.trans HON.out)
  clear HO1 HON HB HW0
  generalize w1.heap.size = N at *
  cases hv : validB f
  · have HVF := Lib.hid hv; clear hv
    obtain ⟨r0, r1, r2, r3⟩ := HR.out.cells4
    obtain ⟨f0, f1, f2, f3⟩ := HR.out.free4
    have HP := Lib.hid HR.out.zero4
    clear HA HMX
    go_wp2
    obtain ⟨p0, p1, p2, p3⟩ := HP.out
    refine bodyPost_ret (v := .agg #[.int .u64 0, .int .u64 0, .int .u64 0, .int .u64 0]) (by simp [results, Tryd.results19, go_sem, p0, p1, p2, p3]; try rfl) rfl ?_
    exact ⟨by rw [okS_no HVF.out]; rfl, HO.out.store4 (by omega) _ _ _ _⟩
  · have HM := Lib.hid (HMX.out hv)
    have hp := (valid_iff f).1 hv
    have HVF := Lib.hid hv
    obtain ⟨F, hF⟩ : ∃ F : Nat, f = F := ⟨f.toNat, by unfold validB at hv; simp at hv; omega⟩
    clear hv
    obtain ⟨c0, c1, c2, c3⟩ := HA.out.cells4
    obtain ⟨y, hy⟩ : ∃ y, y = modS f s := ⟨_, rfl⟩
    have HEL := Lib.hid (elements_m f N s y w2 hy HO.out.tab HM.out HE.out)
    have hye : Els f y := by rw [hy]; exact modS_els f s hp
    have HY := Lib.hid hy
    clear hy
    go_wp2_with fail
    with_reducible refine HEL.out.mono ?_
    rintro e w3 ⟨rfl, hO3⟩
    have HP := Lib.hid (inverse_s F N y w3 (HO.out.trans hO3).tab (HU.out.on (HO.out.trans hO3)) (by rw [← hF]; exact HM.out.on hO3) (by rw [← hF]; exact hye))
    rw [← hF] at HP
    have HF := Lib.hid hF
    clear hF
    have HR3 := Lib.hid (HR.out.on hO3)
    have HO3 := Lib.hid (HO.out.trans hO3)
    clear hO3 HR HO c0 c1 c2 c3
    go_wp2_with fail
    with_reducible refine HP.out.mono ?_
    rintro e w4 ⟨rfl, hO4⟩
    have HR4 := Lib.hid (HR3.out.on hO4)
    have HO4 := Lib.hid (HO3.out.trans hO4)
    clear hO4 HR3 HO3 HP HMX
    obtain ⟨z, hz⟩ : ∃ z, z = downS f y 8 := ⟨_, rfl⟩
    rw [← hz]
    have HZ := Lib.hid hz
    clear hz
    obtain ⟨r0, r1, r2, r3⟩ := HR4.out.cells4
    obtain ⟨f0, f1, f2, f3⟩ := HR4.out.free4
    have HP := Lib.hid (HR4.out.store4 z)
    go_wp2
    obtain ⟨p0, p1, p2, p3⟩ := HP.out.cells4
    refine bodyPost_ret (v := .agg #[.int .u64 (z.a : Int), .int .u64 (z.b : Int), .int .u64 (z.c : Int), .int .u64 (z.d : Int)]) (by simp [results, Tryd.results19, go_sem, p0, p1, p2, p3]; try rfl) rfl ?_
    exact ⟨by rw [okS_yes HVF.out, HZ.out, HY.out]; rfl, HO4.out.store4 (by omega) _ _ _ _⟩

theorem isRound_yes (r : Nat) (w : World) (hr : r < 8) : Calls Tryd.prog 29 #[.int .i64 (r : Int)] w fun e w' => e = .returned (.bool true) ∧ w = w' := by
  have h1 : (0 : Int) ≤ (r : Int) := by omega
  have h2 : (r : Int) < 8 := by omega
  go_enter Tryd.func29, Tryd.ntmps29
  go_wp2
  go_ret
  exact ⟨by simp, rfl⟩
theorem isRound_no (r : Int) (w : World) (hr : ¬ (0 ≤ r ∧ r < 8)) : Calls Tryd.prog 29 #[.int .i64 r] w fun e w' => e = .returned (.bool false) ∧ w = w' := by
  have h2 : ¬ (0 ≤ r) ∨ (0 ≤ r ∧ ¬ r < 8) := by omega
  rcases h2 with h2 | ⟨h2, h3⟩
  all_goals
    go_enter Tryd.func29, Tryd.ntmps29
    go_wp2
    go_ret
    exact ⟨by simp <;> omega, rfl⟩
/-- A round's state, or zeros where there is no field or no round. -/
def okR (f r : Int) (s : St) : St := if validB f = true ∧ 0 ≤ r ∧ r < 8 then rndS f r.toNat s else ⟨0, 0, 0, 0⟩
theorem okR_yes {f : Int} {r : Nat} {s : St} (h : validB f = true) (hr : r < 8) : okR f (r : Int) s = rndS f r s := if_pos ⟨h, by omega, by omega⟩
theorem okR_no {f r : Int} {s : St} (h : ¬ (validB f = true ∧ 0 ≤ r ∧ r < 8)) : okR f r s = ⟨0, 0, 0, 0⟩ := if_neg h
set_option maxHeartbeats 1000000 in
set_option maxRecDepth 100000 in
theorem round_any (f r : Int) (s : St) (w : World) (hT : Tab w) (hs : Sm s) :
    Calls Tryd.prog 14 #[.int .i64 f, .int .i64 r, .agg #[.int .u64 (s.a : Int), .int .u64 (s.b : Int), .int .u64 (s.c : Int), .int .u64 (s.d : Int)]] w fun e w' =>
      e = .returned (.agg #[.int .u64 (((okR f r s).a : Nat) : Int), .int .u64 (((okR f r s).b : Nat) : Int), .int .u64 (((okR f r s).c : Nat) : Int), .int .u64 (((okR f r s).d : Nat) : Int)]) ∧ On w w' := by
  have HE := Lib.hid hs
  have HB := Lib.hid (box2 hT s 23 23)
  clear hs hT
  obtain ⟨W0, hW0⟩ : ∃ W0, W0 = ((w.alloc (.cells #[.int .u64 (s.a : Int), .int .u64 (s.b : Int), .int .u64 (s.c : Int), .int .u64 (s.d : Int)] 23)).alloc (.cells #[.int .u64 0, .int .u64 0, .int .u64 0, .int .u64 0] 23)) := ⟨_, rfl⟩
  rw [← hW0] at HB
  have HW0 := Lib.hid hW0
  clear hW0
  go_enter Tryd.func14, Tryd.ntmps14
  go_wp2_with fail
  rw [← HW0.out]
  with_reducible refine (mixer_any f W0 HB.out.2.2.tab).mono ?_
  rintro e w1 ⟨rfl, hO1⟩
  have HO1 := Lib.hid (HB.out.2.2.trans hO1)
  have HA := Lib.hid (HB.out.1.on hO1)
  have HR := Lib.hid (HB.out.2.1.on hO1)
  have HN := Lib.hid (mx_new (f := f) HO1.out.tab zerM 43 zerM_size w1.heap.size rfl)
  clear hO1
  obtain ⟨V, hV⟩ : ∃ V, V = mixL f := ⟨_, rfl⟩
  have HV1 : Hid (V.toArray.all (·.oneCell') = true) := by rw [hV]; exact mixL_one f
  have HV2 : Hid (V.length = 36) := by rw [hV]; exact mixL_len f
  rw [← hV] at HN ⊢
  clear hV
  go_upto_region 2 with (refine wpList_store_mid rfl 43 (.tmp 7) (.tmp 12) rfl w1.heap.size 0 V.toArray rfl rfl (by show World.there _ _ _ V.length; rw [HV2.out]; exact HN.out.1) (by show _ = some V.length; rw [HV2.out]; exact info_mix) HV1.out ?_)
  show Code.wp _ _ _ _ ((w1.alloc (.cells zerM 43)).setCells w1.heap.size 0 V)
  have HON := Lib.hid HN.out.2.1
  have HMX := Lib.hid HN.out.2.2
  have hN1 : w.heap.size + 1 < w1.heap.size := HR.out.1
  clear HN
  generalize (w1.alloc (.cells zerM 43)).setCells w1.heap.size 0 V = w2 at *
  have HA := Lib.hid (HA.out.on HON.out)
  have HR := Lib.hid (HR.out.on HON.out)
  have HO := Lib.hid (HO1.out.trans HON.out)
  clear HO1 HON HB HW0
  generalize w1.heap.size = N at *
  cases hv : validB f
  · have HVF := Lib.hid hv; clear hv
    obtain ⟨r0, r1, r2, r3⟩ := HR.out.cells4
    obtain ⟨f0, f1, f2, f3⟩ := HR.out.free4
    have HP := Lib.hid HR.out.zero4
    clear HA HMX
    go_wp2
    obtain ⟨p0, p1, p2, p3⟩ := HP.out
    refine bodyPost_ret (v := .agg #[.int .u64 0, .int .u64 0, .int .u64 0, .int .u64 0]) (by simp [results, Tryd.results14, go_sem, p0, p1, p2, p3]; try rfl) rfl ?_
    exact ⟨by rw [okR_no (by rw [HVF.out]; simp)]; rfl, HO.out.store4 (by omega) _ _ _ _⟩
  · have HM := Lib.hid (HMX.out hv)
    have hp := (valid_iff f).1 hv
    have HVF := Lib.hid hv; clear hv
    by_cases hr : 0 ≤ r ∧ r < 8
    rotate_left
    · have HIR := Lib.hid (fun w => isRound_no r w hr)
      have HRN := Lib.hid hr
      clear hr
      obtain ⟨r0, r1, r2, r3⟩ := HR.out.cells4
      obtain ⟨f0, f1, f2, f3⟩ := HR.out.free4
      have HP := Lib.hid HR.out.zero4
      clear HA HMX
      go_wp2_with (go_at_call 29; with_reducible refine (HIR.out _).mono ?_; rintro e w3 ⟨rfl, rfl⟩)
      obtain ⟨p0, p1, p2, p3⟩ := HP.out
      refine bodyPost_ret (v := .agg #[.int .u64 0, .int .u64 0, .int .u64 0, .int .u64 0]) (by simp [results, Tryd.results14, go_sem, p0, p1, p2, p3]; try rfl) rfl ?_
      exact ⟨by rw [okR_no (fun h => HRN.out h.2)]; rfl, HO.out.store4 (by omega) _ _ _ _⟩

    obtain ⟨R, rfl⟩ : ∃ R : Nat, r = R := ⟨r.toNat, by omega⟩
    have hR8 : R < 8 := by omega
    have HIR := Lib.hid (fun w => isRound_yes R w hR8)
    clear hr
    obtain ⟨c0, c1, c2, c3⟩ := HA.out.cells4
    obtain ⟨y, hy⟩ : ∃ y, y = modS f s := ⟨_, rfl⟩
    have HEL := Lib.hid (elements_m f N s y w2 hy HO.out.tab HM.out HE.out)
    have hye : Els f y := by rw [hy]; exact modS_els f s hp
    have HY := Lib.hid hy
    clear hy
    go_wp2_with (go_at_call 29; with_reducible refine (HIR.out _).mono ?_; rintro e w3 ⟨rfl, rfl⟩)
    with_reducible refine HEL.out.mono ?_
    rintro e w3 ⟨rfl, hO3⟩
    have HP := Lib.hid (round_s f N R y w3 (HO.out.trans hO3).tab (HM.out.on hO3) hR8 hye)
    have HR3 := Lib.hid (HR.out.on hO3)
    have HO3 := Lib.hid (HO.out.trans hO3)
    clear hO3 HR HO c0 c1 c2 c3
    go_wp2_with fail
    with_reducible refine HP.out.mono ?_
    rintro e w4 ⟨rfl, hO4⟩
    have HR4 := Lib.hid (HR3.out.on hO4)
    have HO4 := Lib.hid (HO3.out.trans hO4)
    clear hO4 HR3 HO3 HP HMX
    obtain ⟨z, hz⟩ : ∃ z, z = rndS f R y := ⟨_, rfl⟩
    rw [← hz]
    have HZ := Lib.hid hz
    clear hz
    obtain ⟨r0, r1, r2, r3⟩ := HR4.out.cells4
    obtain ⟨f0, f1, f2, f3⟩ := HR4.out.free4
    have HP := Lib.hid (HR4.out.store4 z)
    go_wp2
    obtain ⟨p0, p1, p2, p3⟩ := HP.out.cells4
    refine bodyPost_ret (v := .agg #[.int .u64 (z.a : Int), .int .u64 (z.b : Int), .int .u64 (z.c : Int), .int .u64 (z.d : Int)]) (by simp [results, Tryd.results14, go_sem, p0, p1, p2, p3]; try rfl) rfl ?_
    exact ⟨by rw [okR_yes HVF.out hR8, HZ.out, HY.out, rndS_mod], HO4.out.store4 (by omega) _ _ _ _⟩
end Go.Proofs.YtbmieoedpgdlpaaDoor
