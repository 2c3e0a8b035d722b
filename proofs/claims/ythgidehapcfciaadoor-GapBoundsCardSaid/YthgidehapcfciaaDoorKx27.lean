/- Bound, EqualBound and FoundBound of package gap: what the calls return (own work). -/
import Derived.Test.YthgidehapcfciaaDoorKx03
import Derived.Test.YthgidehapcfciaaDoorKx26
import Derived.Deep.DeepCutAuto
import Derived.Test.YthgidehapcfciaaDoorKx06
set_option linter.unusedSimpArgs false
set_option linter.unusedVariables false
/- Bound, EqualBound and FoundBound of package gap: what the calls return (own work). -/
namespace Go.Proofs.YthgidehapcfciaaDoor
open Go.RowKit
set_option linter.unusedVariables false
set_option linter.unusedSimpArgs false
set_option maxRecDepth 100000

set_option maxHeartbeats 1000000 in
theorem allin_any (t N q : Nat) (P2 Q2 P3 Q3 : Nat) (c2 c3 : Int) (w : World) (ht : t ≤ 1000) (hN : N ≤ 1000) (hq : q ≤ 1000)
    (hof : ∀ w, Rt.AnsF Tryd.prog 34 #[.int .u64 (t : Int), .int .u64 (N : Int)] w P2 Q2 c2)
    (hpow : ∀ v w, Rt.Fv w v P2 Q2 → Rt.AnsF Tryd.prog 77 #[v, .int .i64 (q : Int)] w P3 Q3 c3) :
    Calls Tryd.prog 36 #[.int .i64 (t : Int), .int .i64 (N : Int), .int .i64 (q : Int)] w fun e w' => (∃ v, e = .returned v ∧ Rt.Fv w' v P3 Q3) ∧ Rt.On w w' := by
  have HF := Lib.hid hof; have HP := Lib.hid hpow
  have hw1 : IntKind.u64.wrap (t : Int) = (t : Int) := IntWalk.u64_in _ (by omega)
  have hw2 : IntKind.u64.wrap (N : Int) = (N : Int) := IntWalk.u64_in _ (by omega)
  clear hof hpow
  go_enter Tryd.func36, Tryd.ntmps36
  go_wp2_with fail
  with_reducible refine (HF.out _).mono ?_
  rintro e w2 ⟨⟨v, rfl, ⟨vp, vz, rfl, hp, hz⟩⟩, hO2⟩
  have HO2 := Lib.hid hO2
  have HV2 : Hid (Rt.Fv (w2.alloc (.cells #[vp, vz] 26)) (.agg #[vp, vz]) P2 Q2) := ⟨_, _, rfl, hp.on ((Rt.On.refl w2).alloc _), hz.on ((Rt.On.refl w2).alloc _)⟩
  obtain ⟨o1, c1, rfl, -, -, -⟩ := hp
  obtain ⟨o2, c2, rfl, -, -, -⟩ := hz
  clear hO2
  go_wp2_with fail
  with_reducible refine (HP.out _ _ HV2.out).mono ?_
  rintro e w3 ⟨⟨v, rfl, ⟨vp, vz, rfl, hp, hz⟩⟩, hO3⟩
  have HO3 := Lib.hid ((HO2.out.alloc (.cells #[.slice o1 (Rt.nl P2) c1, .slice o2 (Rt.nl Q2) c2] 26)).trans hO3)
  have HP3 := Lib.hid hp; have HZ3 := Lib.hid hz
  obtain ⟨o3, c3, rfl, -, -, -⟩ := hp
  obtain ⟨o4, c4, rfl, -, -, -⟩ := hz
  clear hO3 HV2
  have HO4 : Hid (Rt.On (w.alloc (.cells #[.slice none 0 0, .slice none 0 0] 26)) (w3.alloc (.cells #[.slice o3 (Rt.nl P3) c3, .slice o4 (Rt.nl Q3) c4] 26))) := HO3.out.alloc _
  have HP4 := Lib.hid (HP3.out.on ((Rt.On.refl w3).alloc (.cells #[.slice o3 (Rt.nl P3) c3, .slice o4 (Rt.nl Q3) c4] 26)))
  have HZ4 := Lib.hid (HZ3.out.on ((Rt.On.refl w3).alloc (.cells #[.slice o3 (Rt.nl P3) c3, .slice o4 (Rt.nl Q3) c4] 26)))
  obtain ⟨k1, k2, k3, k4, k5, k6, k7⟩ := Rt.res_facts HO4.out (.slice o3 (Rt.nl P3) c3) (.slice o4 (Rt.nl Q3) c4)
  go_wp2
  (try simp only [Exit.inBlock, Exit.then])
  refine bodyPost_ret (by simp [results, Tryd.results36, go_sem, k6, k7]; try rfl) rfl ?_
  exact ⟨⟨_, rfl, (Rt.res_end HO4.out HP4.out HZ4.out).1⟩, (Rt.res_end HO4.out HP4.out HZ4.out).2⟩
/-- BOTH -/
def bothMark : Unit := ()
set_option maxHeartbeats 1000000 in
theorem most_any (P Q : Nat) (z : Int) (vx : Value) (w : World) (hx : Rt.Fv w vx P Q)
    (hone : ∀ w, Rt.AnsF Tryd.prog 34 #[.int .u64 1, .int .u64 1] w 1 1 0)
    (hord : ∀ v v' w, Rt.Fv w v P Q → Rt.Fv w v' 1 1 → Rt.AnsE Tryd.prog 68 #[v, v'] w (.int .i64 z)) :
    Calls Tryd.prog 38 #[vx] w fun e w' => (∃ v, e = .returned v ∧ Rt.Fv w' v (if 0 < z then 1 else P) (if 0 < z then 1 else Q)) ∧ Rt.On w w' := by
  obtain ⟨A, hA⟩ : ∃ A, A = (if 0 < z then 1 else P) := ⟨_, rfl⟩
  obtain ⟨B, hB⟩ : ∃ B, B = (if 0 < z then 1 else Q) := ⟨_, rfl⟩
  rw [← hA, ← hB]
  have HA := Lib.hid hA; have HB := Lib.hid hB
  clear hA hB
  have HX := Lib.hid hx
  have HONE := Lib.hid hone; have HORD := Lib.hid hord
  obtain ⟨vxp, vxq, rfl, hxp, hxq⟩ := hx
  obtain ⟨o1, c1, rfl, -, -, -⟩ := hxp
  obtain ⟨o2, c2, rfl, -, -, -⟩ := hxq
  clear hone hord
  obtain ⟨u, hu⟩ : ∃ u, u = w.alloc (.cells #[.slice o1 (Rt.nl P) c1, .slice o2 (Rt.nl Q) c2] 26) := ⟨_, rfl⟩
  have HU := Lib.hid hu
  have hsz : u.heap.size = w.heap.size + 1 := by rw [hu]; simp
  have hOu : Rt.On w u := by rw [hu]; exact (Rt.On.refl w).alloc _
  have b0 : u.cell? ⟨w.heap.size, 0, none⟩ = some (.slice o1 (Rt.nl P) c1) ∧ u.cell? ⟨w.heap.size, 1, none⟩ = some (.slice o2 (Rt.nl Q) c2) := by rw [hu]; exact Rt.box_at _ _ _
  have HSZ := Lib.hid hsz; have HOu := Lib.hid hOu; have HB0 := Lib.hid b0
  have HUA : Hid (Rt.On u (u.alloc (.cells #[.slice none 0 0, .slice none 0 0] 26))) := (Rt.On.refl u).alloc _
  clear hu hsz hOu b0
  go_enter Tryd.func38, Tryd.ntmps38
  go_upto_region 1 with fail
  rw [← HU.out]
  go_wp2_with fail
  with_reducible refine (HONE.out _).mono ?_
  rintro e w2 ⟨⟨v, rfl, ⟨vp, vz, rfl, hp, hz⟩⟩, hO2⟩
  have HO2 := Lib.hid hO2
  obtain ⟨w3, hw3⟩ : ∃ w3, w3 = w2.alloc (.cells #[vp, vz] 26) := ⟨_, rfl⟩
  have hO3 : Rt.On w2 w3 := by rw [hw3]; exact (Rt.On.refl w2).alloc _
  have HV1 : Hid (Rt.Fv w3 (.agg #[vp, vz]) 1 1) := ⟨_, _, rfl, hp.on hO3, hz.on hO3⟩
  have hb3 : w3.cell? ⟨w2.heap.size, 0, none⟩ = some vp ∧ w3.cell? ⟨w2.heap.size, 1, none⟩ = some vz := by rw [hw3]; exact Rt.box_at _ _ _
  have HB3 := Lib.hid hb3
  have HW3 := Lib.hid hw3
  have HO3 : Hid (Rt.On (u.alloc (.cells #[.slice none 0 0, .slice none 0 0] 26)) w3) := hO2.trans hO3
  have HOX : Hid (Rt.On u w3) := HUA.out.trans HO3.out
  have HXV : Hid (Rt.Fv w3 (.agg #[.slice o1 (Rt.nl P) c1, .slice o2 (Rt.nl Q) c2]) P Q) := HX.out.on (HOu.out.trans HOX.out)
  obtain ⟨x1, x2⟩ := Rt.two_keep HB0.out HOX.out
  obtain ⟨o3, c3, rfl, -, -, -⟩ := hp
  obtain ⟨o4, c4, rfl, -, -, -⟩ := hz
  obtain ⟨y1, y2⟩ := HB3.out
  clear hO2 hO3 hw3 hb3
  go_upto_region 2 with fail
  rw [← HW3.out]
  go_wp2_with fail
  with_reducible refine (HORD.out _ _ _ HXV.out HV1.out).mono ?_
  rintro e w4 ⟨rfl, hO4⟩
  have HO4 := Lib.hid (HO3.out.trans hO4)
  have HO5 := Lib.hid (HOX.out.trans hO4)
  have HV5 := Lib.hid (HV1.out.on hO4)
  have HX5 := Lib.hid (HXV.out.on hO4)
  obtain ⟨x3, x4⟩ := Rt.two_keep HB0.out HO5.out
  obtain ⟨y3, y4⟩ := Rt.two_keep HB3.out hO4
  clear hO4 x1 x2 y1 y2
  by_cases hz : 0 < z
  · have hA : A = 1 := HA.out.trans (if_pos hz)
    have hB : B = 1 := HB.out.trans (if_pos hz)
    clear HA HB
    subst hA; subst hB
    have hk := Rt.res_facts HO4.out (.slice o3 (Rt.nl 1) c3) (.slice o4 (Rt.nl 1) c4)
    rw [HSZ.out] at hk
    obtain ⟨k1, k2, k3, k4, k5, k6, k7⟩ := hk
    obtain ⟨ve1, ve2, hvv, hp5, hq5⟩ := HV5.out
    simp only [Value.agg.injEq, Array.mk.injEq, List.cons.injEq, and_true] at hvv
    obtain ⟨rfl, rfl⟩ := hvv
    have HP5 := Lib.hid hp5; have HQ5 := Lib.hid hq5
    clear hp5 hq5
    go_wp2
    (try simp only [Exit.inBlock, Exit.then])
    refine bodyPost_ret (by simp [results, Tryd.results38, go_sem, k6, k7]; try rfl) rfl ?_
    have hE := Rt.res_end HO4.out HP5.out HQ5.out
    rw [HSZ.out] at hE
    exact ⟨⟨_, rfl, hE.1⟩, HOu.out.trans hE.2⟩
  · have hA : A = P := HA.out.trans (if_neg hz)
    have hB : B = Q := HB.out.trans (if_neg hz)
    clear HA HB
    subst hA; subst hB
    have hk := Rt.res_facts HO4.out (.slice o1 (Rt.nl A) c1) (.slice o2 (Rt.nl B) c2)
    rw [HSZ.out] at hk
    obtain ⟨k1, k2, k3, k4, k5, k6, k7⟩ := hk
    obtain ⟨ve1, ve2, hvv, hp5, hq5⟩ := HX5.out
    simp only [Value.agg.injEq, Array.mk.injEq, List.cons.injEq, and_true] at hvv
    obtain ⟨rfl, rfl⟩ := hvv
    have HP5 := Lib.hid hp5; have HQ5 := Lib.hid hq5
    clear hp5 hq5
    go_wp2
    (try simp only [Exit.inBlock, Exit.then])
    refine bodyPost_ret (by simp [results, Tryd.results38, go_sem, k6, k7]; try rfl) rfl ?_
    have hE := Rt.res_end HO4.out HP5.out HQ5.out
    rw [HSZ.out] at hE
    exact ⟨⟨_, rfl, hE.1⟩, HOu.out.trans hE.2⟩
set_option maxHeartbeats 1000000 in
theorem least_any (P Q : Nat) (z : Int) (vx : Value) (w : World) (hx : Rt.Fv w vx P Q)
    (hone : ∀ w, Rt.AnsF Tryd.prog 41 #[.int .u64 1, .int .u64 1] w 1 1 0)
    (hord : ∀ v v' w, Rt.Fv w v P Q → Rt.Fv w v' 1 1 → Rt.AnsE Tryd.prog 87 #[v, v'] w (.int .i64 z)) :
    Calls Tryd.prog 45 #[vx] w fun e w' => (∃ v, e = .returned v ∧ Rt.Fv w' v (if 0 < z then 1 else P) (if 0 < z then 1 else Q)) ∧ Rt.On w w' := by
  obtain ⟨A, hA⟩ : ∃ A, A = (if 0 < z then 1 else P) := ⟨_, rfl⟩
  obtain ⟨B, hB⟩ : ∃ B, B = (if 0 < z then 1 else Q) := ⟨_, rfl⟩
  rw [← hA, ← hB]
  have HA := Lib.hid hA; have HB := Lib.hid hB
  clear hA hB
  have HX := Lib.hid hx
  have HONE := Lib.hid hone; have HORD := Lib.hid hord
  obtain ⟨vxp, vxq, rfl, hxp, hxq⟩ := hx
  obtain ⟨o1, c1, rfl, -, -, -⟩ := hxp
  obtain ⟨o2, c2, rfl, -, -, -⟩ := hxq
  clear hone hord
  obtain ⟨u, hu⟩ : ∃ u, u = w.alloc (.cells #[.slice o1 (Rt.nl P) c1, .slice o2 (Rt.nl Q) c2] 26) := ⟨_, rfl⟩
  have HU := Lib.hid hu
  have hsz : u.heap.size = w.heap.size + 1 := by rw [hu]; simp
  have hOu : Rt.On w u := by rw [hu]; exact (Rt.On.refl w).alloc _
  have b0 : u.cell? ⟨w.heap.size, 0, none⟩ = some (.slice o1 (Rt.nl P) c1) ∧ u.cell? ⟨w.heap.size, 1, none⟩ = some (.slice o2 (Rt.nl Q) c2) := by rw [hu]; exact Rt.box_at _ _ _
  have HSZ := Lib.hid hsz; have HOu := Lib.hid hOu; have HB0 := Lib.hid b0
  have HUA : Hid (Rt.On u (u.alloc (.cells #[.slice none 0 0, .slice none 0 0] 26))) := (Rt.On.refl u).alloc _
  clear hu hsz hOu b0
  go_enter Tryd.func45, Tryd.ntmps45
  go_upto_region 1 with fail
  rw [← HU.out]
  go_wp2_with fail
  with_reducible refine (HONE.out _).mono ?_
  rintro e w2 ⟨⟨v, rfl, ⟨vp, vz, rfl, hp, hz⟩⟩, hO2⟩
  have HO2 := Lib.hid hO2
  obtain ⟨w3, hw3⟩ : ∃ w3, w3 = w2.alloc (.cells #[vp, vz] 26) := ⟨_, rfl⟩
  have hO3 : Rt.On w2 w3 := by rw [hw3]; exact (Rt.On.refl w2).alloc _
  have HV1 : Hid (Rt.Fv w3 (.agg #[vp, vz]) 1 1) := ⟨_, _, rfl, hp.on hO3, hz.on hO3⟩
  have hb3 : w3.cell? ⟨w2.heap.size, 0, none⟩ = some vp ∧ w3.cell? ⟨w2.heap.size, 1, none⟩ = some vz := by rw [hw3]; exact Rt.box_at _ _ _
  have HB3 := Lib.hid hb3
  have HW3 := Lib.hid hw3
  have HO3 : Hid (Rt.On (u.alloc (.cells #[.slice none 0 0, .slice none 0 0] 26)) w3) := hO2.trans hO3
  have HOX : Hid (Rt.On u w3) := HUA.out.trans HO3.out
  have HXV : Hid (Rt.Fv w3 (.agg #[.slice o1 (Rt.nl P) c1, .slice o2 (Rt.nl Q) c2]) P Q) := HX.out.on (HOu.out.trans HOX.out)
  obtain ⟨x1, x2⟩ := Rt.two_keep HB0.out HOX.out
  obtain ⟨o3, c3, rfl, -, -, -⟩ := hp
  obtain ⟨o4, c4, rfl, -, -, -⟩ := hz
  obtain ⟨y1, y2⟩ := HB3.out
  clear hO2 hO3 hw3 hb3
  go_upto_region 2 with fail
  rw [← HW3.out]
  go_wp2_with fail
  with_reducible refine (HORD.out _ _ _ HXV.out HV1.out).mono ?_
  rintro e w4 ⟨rfl, hO4⟩
  have HO4 := Lib.hid (HO3.out.trans hO4)
  have HO5 := Lib.hid (HOX.out.trans hO4)
  have HV5 := Lib.hid (HV1.out.on hO4)
  have HX5 := Lib.hid (HXV.out.on hO4)
  obtain ⟨x3, x4⟩ := Rt.two_keep HB0.out HO5.out
  obtain ⟨y3, y4⟩ := Rt.two_keep HB3.out hO4
  clear hO4 x1 x2 y1 y2
  by_cases hz : 0 < z
  · have hA : A = 1 := HA.out.trans (if_pos hz)
    have hB : B = 1 := HB.out.trans (if_pos hz)
    clear HA HB
    subst hA; subst hB
    have hk := Rt.res_facts HO4.out (.slice o3 (Rt.nl 1) c3) (.slice o4 (Rt.nl 1) c4)
    rw [HSZ.out] at hk
    obtain ⟨k1, k2, k3, k4, k5, k6, k7⟩ := hk
    obtain ⟨ve1, ve2, hvv, hp5, hq5⟩ := HV5.out
    simp only [Value.agg.injEq, Array.mk.injEq, List.cons.injEq, and_true] at hvv
    obtain ⟨rfl, rfl⟩ := hvv
    have HP5 := Lib.hid hp5; have HQ5 := Lib.hid hq5
    clear hp5 hq5
    go_wp2
    (try simp only [Exit.inBlock, Exit.then])
    refine bodyPost_ret (by simp [results, Tryd.results45, go_sem, k6, k7]; try rfl) rfl ?_
    have hE := Rt.res_end HO4.out HP5.out HQ5.out
    rw [HSZ.out] at hE
    exact ⟨⟨_, rfl, hE.1⟩, HOu.out.trans hE.2⟩
  · have hA : A = P := HA.out.trans (if_neg hz)
    have hB : B = Q := HB.out.trans (if_neg hz)
    clear HA HB
    subst hA; subst hB
    have hk := Rt.res_facts HO4.out (.slice o1 (Rt.nl A) c1) (.slice o2 (Rt.nl B) c2)
    rw [HSZ.out] at hk
    obtain ⟨k1, k2, k3, k4, k5, k6, k7⟩ := hk
    obtain ⟨ve1, ve2, hvv, hp5, hq5⟩ := HX5.out
    simp only [Value.agg.injEq, Array.mk.injEq, List.cons.injEq, and_true] at hvv
    obtain ⟨rfl, rfl⟩ := hvv
    have HP5 := Lib.hid hp5; have HQ5 := Lib.hid hq5
    clear hp5 hq5
    go_wp2
    (try simp only [Exit.inBlock, Exit.then])
    refine bodyPost_ret (by simp [results, Tryd.results45, go_sem, k6, k7]; try rfl) rfl ?_
    have hE := Rt.res_end HO4.out HP5.out HQ5.out
    rw [HSZ.out] at hE
    exact ⟨⟨_, rfl, hE.1⟩, HOu.out.trans hE.2⟩
end Go.Proofs.YthgidehapcfciaaDoor

/- Bound, EqualBound and FoundBound, the program's and the document's own (own work). -/
namespace Go.Proofs.YthgidehapcfciaaDoor
open Go.RowKit
set_option linter.unusedVariables false
set_option linter.unusedSimpArgs false
set_option maxRecDepth 100000

theorem on_rt {w w' : World} (h : Rt.On w w') (hT : Tab w) : On w w' := ⟨hT, h⟩
set_option maxHeartbeats 1000000 in
theorem bound_no (f n t c q : Int) (w : World) (hv : validB f = false) :
    Rt.AnsF Tryd.prog 8 #[.int .i64 f, .int .i64 n, .int .i64 t, .int .i64 c, .int .i64 q] w 0 0 1 := by
  have HV : Hid (∀ w, Calls Tryd.prog 31 #[.int .i64 f] w fun e w' => e = .returned (.bool false) ∧ w = w') := fun w => by have h := valid_any f w; rw [hv] at h; exact h
  have HO0 : Hid (Rt.On (w.alloc (.cells #[.slice none 0 0, .slice none 0 0] 26)) (w.alloc (.cells #[.slice none 0 0, .slice none 0 0] 26))) := Rt.On.refl _
  obtain ⟨k1, k2, k3, k4, k5, k6, k7⟩ := Rt.res_facts HO0.out (.slice none 0 0) (.slice none 0 0)
  clear hv
  go_enter Tryd.func8, Tryd.ntmps8
  go_wp2_with fail
  with_reducible refine (HV.out _).mono ?_
  rintro e w' ⟨rfl, rfl⟩
  go_wp2
  (try simp only [Exit.inBlock, Exit.then])
  refine bodyPost_ret (by simp [results, Tryd.results8, go_sem, k6, k7]; try rfl) rfl ?_
  exact ⟨⟨_, rfl, Rt.Fv.zero _⟩, (Rt.On.refl w).alloc _⟩
set_option maxHeartbeats 2000000 in
theorem bound_rng (f n t c q : Int) (w : World) (hv : validB f = true) (hr : ¬ ((1 ≤ n ∧ n ≤ 32) ∧ (0 ≤ t ∧ t ≤ n) ∧ (1 ≤ c ∧ c ≤ 64) ∧ (0 ≤ q ∧ q ≤ 64))) :
    Rt.AnsF Tryd.prog 8 #[.int .i64 f, .int .i64 n, .int .i64 t, .int .i64 c, .int .i64 q] w 0 0 2 := by
  have HV : Hid (∀ w, Calls Tryd.prog 31 #[.int .i64 f] w fun e w' => e = .returned (.bool true) ∧ w = w') := fun w => by have h := valid_any f w; rw [hv] at h; exact h
  have HO0 : Hid (Rt.On (w.alloc (.cells #[.slice none 0 0, .slice none 0 0] 26)) (w.alloc (.cells #[.slice none 0 0, .slice none 0 0] 26))) := Rt.On.refl _
  obtain ⟨k1, k2, k3, k4, k5, k6, k7⟩ := Rt.res_facts HO0.out (.slice none 0 0) (.slice none 0 0)
  clear hv
  by_cases h0 : 1 ≤ n ∧ n ≤ 32
  · have HF0 : Hid (∀ w, Calls Tryd.prog 32 #[.int .i64 n, .int .i64 1, .int .i64 32] w fun e w' => e = .returned (.bool true) ∧ w = w') := fun w => by have h := isfrom_any n 1 32 w; rw [decide_eq_true h0] at h; exact h
    by_cases h1 : 0 ≤ t ∧ t ≤ n
    · have HF1 : Hid (∀ w, Calls Tryd.prog 32 #[.int .i64 t, .int .i64 0, .int .i64 n] w fun e w' => e = .returned (.bool true) ∧ w = w') := fun w => by have h := isfrom_any t 0 n w; rw [decide_eq_true h1] at h; exact h
      by_cases h2 : 1 ≤ c ∧ c ≤ 64
      · have HF2 : Hid (∀ w, Calls Tryd.prog 32 #[.int .i64 c, .int .i64 1, .int .i64 64] w fun e w' => e = .returned (.bool true) ∧ w = w') := fun w => by have h := isfrom_any c 1 64 w; rw [decide_eq_true h2] at h; exact h
        by_cases h3 : 0 ≤ q ∧ q ≤ 64
        · exact absurd ⟨h0, h1, h2, h3⟩ hr
        · have HF3 : Hid (∀ w, Calls Tryd.prog 32 #[.int .i64 q, .int .i64 0, .int .i64 64] w fun e w' => e = .returned (.bool false) ∧ w = w') := fun w => by have h := isfrom_any q 0 64 w; rw [decide_eq_false h3] at h; exact h
          clear hr h0 h1 h2 h3
          go_enter Tryd.func8, Tryd.ntmps8
          go_wp2_with fail
          with_reducible refine (HV.out _).mono ?_
          rintro e w' ⟨rfl, rfl⟩
          go_wp2_with fail
          with_reducible refine (HF0.out _).mono ?_
          rintro e w' ⟨rfl, rfl⟩
          go_wp2_with fail
          with_reducible refine (HF1.out _).mono ?_
          rintro e w' ⟨rfl, rfl⟩
          go_wp2_with fail
          with_reducible refine (HF2.out _).mono ?_
          rintro e w' ⟨rfl, rfl⟩
          go_wp2_with fail
          with_reducible refine (HF3.out _).mono ?_
          rintro e w' ⟨rfl, rfl⟩
          go_wp2
          (try simp only [Exit.inBlock, Exit.then])
          refine bodyPost_ret (by simp [results, Tryd.results8, go_sem, k6, k7]; try rfl) rfl ?_
          exact ⟨⟨_, rfl, Rt.Fv.zero _⟩, (Rt.On.refl w).alloc _⟩
      · have HF2 : Hid (∀ w, Calls Tryd.prog 32 #[.int .i64 c, .int .i64 1, .int .i64 64] w fun e w' => e = .returned (.bool false) ∧ w = w') := fun w => by have h := isfrom_any c 1 64 w; rw [decide_eq_false h2] at h; exact h
        clear hr h0 h1 h2
        go_enter Tryd.func8, Tryd.ntmps8
        go_wp2_with fail
        with_reducible refine (HV.out _).mono ?_
        rintro e w' ⟨rfl, rfl⟩
        go_wp2_with fail
        with_reducible refine (HF0.out _).mono ?_
        rintro e w' ⟨rfl, rfl⟩
        go_wp2_with fail
        with_reducible refine (HF1.out _).mono ?_
        rintro e w' ⟨rfl, rfl⟩
        go_wp2_with fail
        with_reducible refine (HF2.out _).mono ?_
        rintro e w' ⟨rfl, rfl⟩
        go_wp2
        (try simp only [Exit.inBlock, Exit.then])
        refine bodyPost_ret (by simp [results, Tryd.results8, go_sem, k6, k7]; try rfl) rfl ?_
        exact ⟨⟨_, rfl, Rt.Fv.zero _⟩, (Rt.On.refl w).alloc _⟩
    · have HF1 : Hid (∀ w, Calls Tryd.prog 32 #[.int .i64 t, .int .i64 0, .int .i64 n] w fun e w' => e = .returned (.bool false) ∧ w = w') := fun w => by have h := isfrom_any t 0 n w; rw [decide_eq_false h1] at h; exact h
      clear hr h0 h1
      go_enter Tryd.func8, Tryd.ntmps8
      go_wp2_with fail
      with_reducible refine (HV.out _).mono ?_
      rintro e w' ⟨rfl, rfl⟩
      go_wp2_with fail
      with_reducible refine (HF0.out _).mono ?_
      rintro e w' ⟨rfl, rfl⟩
      go_wp2_with fail
      with_reducible refine (HF1.out _).mono ?_
      rintro e w' ⟨rfl, rfl⟩
      go_wp2
      (try simp only [Exit.inBlock, Exit.then])
      refine bodyPost_ret (by simp [results, Tryd.results8, go_sem, k6, k7]; try rfl) rfl ?_
      exact ⟨⟨_, rfl, Rt.Fv.zero _⟩, (Rt.On.refl w).alloc _⟩
  · have HF0 : Hid (∀ w, Calls Tryd.prog 32 #[.int .i64 n, .int .i64 1, .int .i64 32] w fun e w' => e = .returned (.bool false) ∧ w = w') := fun w => by have h := isfrom_any n 1 32 w; rw [decide_eq_false h0] at h; exact h
    clear hr h0
    go_enter Tryd.func8, Tryd.ntmps8
    go_wp2_with fail
    with_reducible refine (HV.out _).mono ?_
    rintro e w' ⟨rfl, rfl⟩
    go_wp2_with fail
    with_reducible refine (HF0.out _).mono ?_
    rintro e w' ⟨rfl, rfl⟩
    go_wp2
    (try simp only [Exit.inBlock, Exit.then])
    refine bodyPost_ret (by simp [results, Tryd.results8, go_sem, k6, k7]; try rfl) rfl ?_
    exact ⟨⟨_, rfl, Rt.Fv.zero _⟩, (Rt.On.refl w).alloc _⟩
set_option maxHeartbeats 4000000 in
theorem bound_yes (f : Int) (N T C Q P1 Q1 P2 Q2 P3 Q3 P4 Q4 : Nat) (c1 c2 c3 c4 z : Int) (w : World) (hT : Tab w) (hv : validB f = true) (hN0 : 1 ≤ N) (hN : N ≤ 32) (hTN : T ≤ N) (hC0 : 1 ≤ C) (hC : C ≤ 64) (hQ : Q ≤ 64)
    (hof : ∀ w, Rt.AnsF Tryd.prog 34 #[.int .u64 ((chR N (T + 1) * (C + 6) : Nat) : Int), .int .u64 ((pOf f : Nat) : Int)] w P1 Q1 c1)
    (hof2 : ∀ w, Rt.AnsF Tryd.prog 34 #[.int .u64 (T : Int), .int .u64 (N : Int)] w P2 Q2 c2)
    (hpow : ∀ v w, Rt.Fv w v P2 Q2 → Rt.AnsF Tryd.prog 77 #[v, .int .i64 (Q : Int)] w P3 Q3 c3)
    (hadd : ∀ v v' w, Rt.Fv w v P1 Q1 → Rt.Fv w v' P3 Q3 → Rt.AnsF Tryd.prog 37 #[v, v'] w P4 Q4 c4)
    (hone : ∀ w, Rt.AnsF Tryd.prog 34 #[.int .u64 1, .int .u64 1] w 1 1 0)
    (hord : ∀ v v' w, Rt.Fv w v P4 Q4 → Rt.Fv w v' 1 1 → Rt.AnsE Tryd.prog 68 #[v, v'] w (.int .i64 z)) :
    Rt.AnsF Tryd.prog 8 #[.int .i64 f, .int .i64 (N : Int), .int .i64 (T : Int), .int .i64 (C : Int), .int .i64 (Q : Int)] w (if 0 < z then 1 else P4) (if 0 < z then 1 else Q4) 0 := by
  have HV : Hid (∀ w, Calls Tryd.prog 31 #[.int .i64 f] w fun e w' => e = .returned (.bool true) ∧ w = w') := fun w => by have h := valid_any f w; rw [hv] at h; exact h
  have HF0 : Hid (∀ w, Calls Tryd.prog 32 #[.int .i64 (N : Int), .int .i64 1, .int .i64 32] w fun e w' => e = .returned (.bool true) ∧ w = w') := fun w => by have h := isfrom_any (N : Int) 1 32 w; rw [decide_eq_true (show (1 : Int) ≤ (N : Int) ∧ (N : Int) ≤ 32 by omega)] at h; exact h
  have HF1 : Hid (∀ w, Calls Tryd.prog 32 #[.int .i64 (T : Int), .int .i64 0, .int .i64 (N : Int)] w fun e w' => e = .returned (.bool true) ∧ w = w') := fun w => by have h := isfrom_any (T : Int) 0 (N : Int) w; rw [decide_eq_true (show (0 : Int) ≤ (T : Int) ∧ (T : Int) ≤ (N : Int) by omega)] at h; exact h
  have HF2 : Hid (∀ w, Calls Tryd.prog 32 #[.int .i64 (C : Int), .int .i64 1, .int .i64 64] w fun e w' => e = .returned (.bool true) ∧ w = w') := fun w => by have h := isfrom_any (C : Int) 1 64 w; rw [decide_eq_true (show (1 : Int) ≤ (C : Int) ∧ (C : Int) ≤ 64 by omega)] at h; exact h
  have HF3 : Hid (∀ w, Calls Tryd.prog 32 #[.int .i64 (Q : Int), .int .i64 0, .int .i64 64] w fun e w' => e = .returned (.bool true) ∧ w = w') := fun w => by have h := isfrom_any (Q : Int) 0 64 w; rw [decide_eq_true (show (0 : Int) ≤ (Q : Int) ∧ (Q : Int) ≤ 64 by omega)] at h; exact h
  have hSU := subsets_any N (T + 1)
  have HSUB : Hid (∀ w, Calls Tryd.prog 33 #[.int .i64 (N : Int), .int .i64 ((T : Int) + 1)] w fun e w' => e = .returned (.int .u64 ((chR N (T + 1) : Nat) : Int)) ∧ w = w') := fun w => hSU w hN (by omega)
  have hch := chR_le N (by omega) (T + 1) (by omega)
  obtain ⟨B, hB⟩ : ∃ B, B = chR N (T + 1) := ⟨_, rfl⟩
  rw [← hB] at HSUB hch hof
  obtain ⟨M, hM⟩ : ∃ M, M = B * (C + 6) := ⟨_, rfl⟩
  have hMl : M ≤ 601080390 * 70 := by rw [hM]; exact Nat.mul_le_mul hch (by omega)
  rw [← hM] at hof
  have HWM : Hid (IntKind.u64.wrap ((B : Int) * ((C : Int) - 1 + 7)) = (M : Int)) := by
    have h1 : ((C : Int) - 1 + 7) = ((C + 6 : Nat) : Int) := by omega
    have h2 : ((B : Int) * ((C + 6 : Nat) : Int)) = (M : Int) := by rw [hM]; rfl
    unfold Hid
    rw [h1, h2]
    exact IntWalk.u64_in _ (by omega)
  have HOF := Lib.hid hof
  have HALL : Hid (∀ w, Calls Tryd.prog 36 #[.int .i64 (T : Int), .int .i64 (N : Int), .int .i64 (Q : Int)] w fun e w' => (∃ v, e = .returned v ∧ Rt.Fv w' v P3 Q3) ∧ Rt.On w w') := fun w => allin_any T N Q P2 Q2 P3 Q3 c2 c3 w (by omega) (by omega) (by omega) hof2 hpow
  have HADD := Lib.hid hadd
  have HMOST : Hid (∀ v w, Rt.Fv w v P4 Q4 → Calls Tryd.prog 38 #[v] w fun e w' => (∃ v, e = .returned v ∧ Rt.Fv w' v (if 0 < z then 1 else P4) (if 0 < z then 1 else Q4)) ∧ Rt.On w w') := fun v w h => most_any P4 Q4 z v w h hone hord
  have HT := Lib.hid hT
  have HP : Hid (∀ w, Tab w → Calls Tryd.prog 35 #[.int .i64 f] w fun e w' => e = .returned (.int .u64 ((pOf f : Nat) : Int)) ∧ w = w') := fun w h => p_any f w h
  obtain ⟨P5, hP5⟩ : ∃ A, A = (if 0 < z then 1 else P4) := ⟨_, rfl⟩
  obtain ⟨Q5, hQ5⟩ : ∃ A, A = (if 0 < z then 1 else Q4) := ⟨_, rfl⟩
  rw [← hP5, ← hQ5] at HMOST ⊢
  obtain ⟨p, hp⟩ : ∃ p, p = pOf f := ⟨_, rfl⟩
  rw [← hp] at HOF HP
  have HOR : Hid (On w (w.alloc (.cells #[.slice none 0 0, .slice none 0 0] 26))) := (On.refl hT).alloc _
  clear hT hv hof hof2 hpow hadd hone hord hB hM hMl hch hSU hP5 hQ5 hp
  go_enter Tryd.func8, Tryd.ntmps8
  go_wp2_with fail
  with_reducible refine (HV.out _).mono ?_
  rintro e w' ⟨rfl, rfl⟩
  go_wp2_with fail
  with_reducible refine (HF0.out _).mono ?_
  rintro e w' ⟨rfl, rfl⟩
  go_wp2_with fail
  with_reducible refine (HF1.out _).mono ?_
  rintro e w' ⟨rfl, rfl⟩
  go_wp2_with fail
  with_reducible refine (HF2.out _).mono ?_
  rintro e w' ⟨rfl, rfl⟩
  go_wp2_with fail
  with_reducible refine (HF3.out _).mono ?_
  rintro e w' ⟨rfl, rfl⟩
  go_wp2_with fail
  with_reducible refine (HSUB.out _).mono ?_
  rintro e w' ⟨rfl, rfl⟩
  go_wp2_with fail
  with_reducible refine (HP.out _ HOR.out.tab).mono ?_
  rintro e w' ⟨rfl, rfl⟩
  go_wp2_with fail
  rw [HWM.out]
  with_reducible refine (HOF.out _).mono ?_
  rintro e w2 ⟨⟨v, rfl, ⟨vp, vz, rfl, hp, hz⟩⟩, hO2⟩
  have HO2 := Lib.hid hO2
  obtain ⟨w3, hw3⟩ : ∃ w3, w3 = w2.alloc (.cells #[vp, vz] 26) := ⟨_, rfl⟩
  have hO3 : Rt.On w2 w3 := by rw [hw3]; exact (Rt.On.refl w2).alloc _
  have HV1 : Hid (Rt.Fv w3 (.agg #[vp, vz]) P1 Q1) := ⟨_, _, rfl, hp.on hO3, hz.on hO3⟩
  have HB3 : Hid (w3.cell? ⟨w2.heap.size, 0, none⟩ = some vp ∧ w3.cell? ⟨w2.heap.size, 1, none⟩ = some vz) := by unfold Hid; rw [hw3]; exact Rt.box_at _ _ _
  have HW3 := Lib.hid hw3
  have HO3 : Hid (Rt.On (w.alloc (.cells #[.slice none 0 0, .slice none 0 0] 26)) w3) := HO2.out.trans hO3
  obtain ⟨o1, x1, rfl, -, -, -⟩ := hp
  obtain ⟨o2, x2, rfl, -, -, -⟩ := hz
  clear hO2 hO3 hw3
  go_upto_region 7 with fail
  rw [← HW3.out]
  go_wp2_with fail
  with_reducible refine (HALL.out _).mono ?_
  rintro e w4 ⟨⟨v, rfl, ⟨vp, vz, rfl, hp, hz⟩⟩, hO4⟩
  obtain ⟨w5, hw5⟩ : ∃ w5, w5 = w4.alloc (.cells #[vp, vz] 26) := ⟨_, rfl⟩
  have hO5 : Rt.On w4 w5 := by rw [hw5]; exact (Rt.On.refl w4).alloc _
  have HV3 : Hid (Rt.Fv w5 (.agg #[vp, vz]) P3 Q3) := ⟨_, _, rfl, hp.on hO5, hz.on hO5⟩
  have HV1b : Hid (Rt.Fv w5 _ P1 Q1) := HV1.out.on (hO4.trans hO5)
  have hb5 : w5.cell? ⟨w4.heap.size, 0, none⟩ = some vp ∧ w5.cell? ⟨w4.heap.size, 1, none⟩ = some vz := by rw [hw5]; exact Rt.box_at _ _ _
  obtain ⟨z1, z2⟩ := hb5
  have HW5 := Lib.hid hw5
  have HO5 : Hid (Rt.On (w.alloc (.cells #[.slice none 0 0, .slice none 0 0] 26)) w5) := (HO3.out.trans hO4).trans hO5
  obtain ⟨y1, y2⟩ := Rt.two_keep HB3.out (hO4.trans hO5)
  obtain ⟨o3, x3, rfl, -, -, -⟩ := hp
  obtain ⟨o4, x4, rfl, -, -, -⟩ := hz
  clear hO4 hO5 hw5 HV1
  go_upto_region 8 with fail
  rw [← HW5.out]
  go_wp2_with fail
  with_reducible refine (HADD.out _ _ _ HV1b.out HV3.out).mono ?_
  rintro e w6 ⟨⟨v, rfl, ⟨vp, vz, rfl, hp, hz⟩⟩, hO6⟩
  obtain ⟨w7, hw7⟩ : ∃ w7, w7 = w6.alloc (.cells #[vp, vz] 26) := ⟨_, rfl⟩
  have hO7 : Rt.On w6 w7 := by rw [hw7]; exact (Rt.On.refl w6).alloc _
  have HV4 : Hid (Rt.Fv w7 (.agg #[vp, vz]) P4 Q4) := ⟨_, _, rfl, hp.on hO7, hz.on hO7⟩
  have hb7 : w7.cell? ⟨w6.heap.size, 0, none⟩ = some vp ∧ w7.cell? ⟨w6.heap.size, 1, none⟩ = some vz := by rw [hw7]; exact Rt.box_at _ _ _
  have HO7 : Hid (Rt.On (w.alloc (.cells #[.slice none 0 0, .slice none 0 0] 26)) w7) := (HO5.out.trans hO6).trans hO7
  have HW7 := Lib.hid hw7
  clear z1 z2 y1 y2 HV1b HV3 hO6 hO7 hw7
  obtain ⟨o5, x5, rfl, -, -, -⟩ := hp
  obtain ⟨o6, x6, rfl, -, -, -⟩ := hz
  obtain ⟨z1, z2⟩ := hb7
  go_upto_region 9 with fail
  rw [← HW7.out]
  go_wp2_with fail
  with_reducible refine (HMOST.out _ _ HV4.out).mono ?_
  rintro e w8 ⟨⟨v, rfl, ⟨vp, vz, rfl, hp, hz⟩⟩, hO8⟩
  have HO8 := Lib.hid (HO7.out.trans hO8)
  have HP8 := Lib.hid hp; have HZ8 := Lib.hid hz
  obtain ⟨o7, x7, rfl, -, -, -⟩ := hp
  obtain ⟨o8, x8, rfl, -, -, -⟩ := hz
  obtain ⟨k1, k2, k3, k4, k5, k6, k7⟩ := Rt.res_facts HO8.out (.slice o7 (Rt.nl P5) x7) (.slice o8 (Rt.nl Q5) x8)
  clear z1 z2 hO8
  go_wp2
  (try simp only [Exit.inBlock, Exit.then])
  refine bodyPost_ret (by simp [results, Tryd.results8, go_sem, k6, k7]; try rfl) rfl ?_
  have hE := Rt.res_end HO8.out HP8.out HZ8.out
  exact ⟨⟨_, rfl, hE.1⟩, hE.2⟩
set_option maxHeartbeats 1000000 in
theorem tb_no (f n r g d : Int) (w : World) (hv : validB f = false) :
    Rt.AnsF Tryd.prog 47 #[.int .i64 f, .int .i64 n, .int .i64 r, .int .i64 g, .int .i64 d] w 0 0 1 := by
  have HV : Hid (∀ w, Calls Tryd.prog 31 #[.int .i64 f] w fun e w' => e = .returned (.bool false) ∧ w = w') := fun w => by have h := valid_any f w; rw [hv] at h; exact h
  have HO0 : Hid (Rt.On (w.alloc (.cells #[.slice none 0 0, .slice none 0 0] 26)) (w.alloc (.cells #[.slice none 0 0, .slice none 0 0] 26))) := Rt.On.refl _
  obtain ⟨k1, k2, k3, k4, k5, k6, k7⟩ := Rt.res_facts HO0.out (.slice none 0 0) (.slice none 0 0)
  clear hv
  go_enter Tryd.func47, Tryd.ntmps47
  go_wp2_with fail
  with_reducible refine (HV.out _).mono ?_
  rintro e w' ⟨rfl, rfl⟩
  go_wp2
  (try simp only [Exit.inBlock, Exit.then])
  refine bodyPost_ret (by simp [results, Tryd.results47, go_sem, k6, k7]; try rfl) rfl ?_
  exact ⟨⟨_, rfl, Rt.Fv.zero _⟩, (Rt.On.refl w).alloc _⟩
set_option maxHeartbeats 2000000 in
theorem tb_rng (f n r g d : Int) (w : World) (hv : validB f = true) (hr : ¬ ((0 ≤ n ∧ n ≤ 1000) ∧ (0 ≤ r ∧ r ≤ 1000) ∧ (1 ≤ d ∧ d ≤ 64))) :
    Rt.AnsF Tryd.prog 47 #[.int .i64 f, .int .i64 n, .int .i64 r, .int .i64 g, .int .i64 d] w 0 0 2 := by
  have HV : Hid (∀ w, Calls Tryd.prog 31 #[.int .i64 f] w fun e w' => e = .returned (.bool true) ∧ w = w') := fun w => by have h := valid_any f w; rw [hv] at h; exact h
  have HO0 : Hid (Rt.On (w.alloc (.cells #[.slice none 0 0, .slice none 0 0] 26)) (w.alloc (.cells #[.slice none 0 0, .slice none 0 0] 26))) := Rt.On.refl _
  obtain ⟨k1, k2, k3, k4, k5, k6, k7⟩ := Rt.res_facts HO0.out (.slice none 0 0) (.slice none 0 0)
  clear hv
  by_cases h0 : 0 ≤ n ∧ n ≤ 1000
  · have HF0 : Hid (∀ w, Calls Tryd.prog 32 #[.int .i64 n, .int .i64 0, .int .i64 1000] w fun e w' => e = .returned (.bool true) ∧ w = w') := fun w => by have h := isfrom_any n 0 1000 w; rw [decide_eq_true h0] at h; exact h
    by_cases h1 : 0 ≤ r ∧ r ≤ 1000
    · have HF1 : Hid (∀ w, Calls Tryd.prog 32 #[.int .i64 r, .int .i64 0, .int .i64 1000] w fun e w' => e = .returned (.bool true) ∧ w = w') := fun w => by have h := isfrom_any r 0 1000 w; rw [decide_eq_true h1] at h; exact h
      by_cases h2 : 1 ≤ d ∧ d ≤ 64
      · exact absurd ⟨h0, h1, h2⟩ hr
      · have HF2 : Hid (∀ w, Calls Tryd.prog 32 #[.int .i64 d, .int .i64 1, .int .i64 64] w fun e w' => e = .returned (.bool false) ∧ w = w') := fun w => by have h := isfrom_any d 1 64 w; rw [decide_eq_false h2] at h; exact h
        clear hr h0 h1 h2
        go_enter Tryd.func47, Tryd.ntmps47
        go_wp2_with fail
        with_reducible refine (HV.out _).mono ?_
        rintro e w' ⟨rfl, rfl⟩
        go_wp2_with fail
        with_reducible refine (HF0.out _).mono ?_
        rintro e w' ⟨rfl, rfl⟩
        go_wp2_with fail
        with_reducible refine (HF1.out _).mono ?_
        rintro e w' ⟨rfl, rfl⟩
        go_wp2_with fail
        with_reducible refine (HF2.out _).mono ?_
        rintro e w' ⟨rfl, rfl⟩
        go_wp2
        (try simp only [Exit.inBlock, Exit.then])
        refine bodyPost_ret (by simp [results, Tryd.results47, go_sem, k6, k7]; try rfl) rfl ?_
        exact ⟨⟨_, rfl, Rt.Fv.zero _⟩, (Rt.On.refl w).alloc _⟩
    · have HF1 : Hid (∀ w, Calls Tryd.prog 32 #[.int .i64 r, .int .i64 0, .int .i64 1000] w fun e w' => e = .returned (.bool false) ∧ w = w') := fun w => by have h := isfrom_any r 0 1000 w; rw [decide_eq_false h1] at h; exact h
      clear hr h0 h1
      go_enter Tryd.func47, Tryd.ntmps47
      go_wp2_with fail
      with_reducible refine (HV.out _).mono ?_
      rintro e w' ⟨rfl, rfl⟩
      go_wp2_with fail
      with_reducible refine (HF0.out _).mono ?_
      rintro e w' ⟨rfl, rfl⟩
      go_wp2_with fail
      with_reducible refine (HF1.out _).mono ?_
      rintro e w' ⟨rfl, rfl⟩
      go_wp2
      (try simp only [Exit.inBlock, Exit.then])
      refine bodyPost_ret (by simp [results, Tryd.results47, go_sem, k6, k7]; try rfl) rfl ?_
      exact ⟨⟨_, rfl, Rt.Fv.zero _⟩, (Rt.On.refl w).alloc _⟩
  · have HF0 : Hid (∀ w, Calls Tryd.prog 32 #[.int .i64 n, .int .i64 0, .int .i64 1000] w fun e w' => e = .returned (.bool false) ∧ w = w') := fun w => by have h := isfrom_any n 0 1000 w; rw [decide_eq_false h0] at h; exact h
    clear hr h0
    go_enter Tryd.func47, Tryd.ntmps47
    go_wp2_with fail
    with_reducible refine (HV.out _).mono ?_
    rintro e w' ⟨rfl, rfl⟩
    go_wp2_with fail
    with_reducible refine (HF0.out _).mono ?_
    rintro e w' ⟨rfl, rfl⟩
    go_wp2
    (try simp only [Exit.inBlock, Exit.then])
    refine bodyPost_ret (by simp [results, Tryd.results47, go_sem, k6, k7]; try rfl) rfl ?_
    exact ⟨⟨_, rfl, Rt.Fv.zero _⟩, (Rt.On.refl w).alloc _⟩
end Go.Proofs.YthgidehapcfciaaDoor

/- EqualBound and FoundBound of package gap: what the calls return (own work). -/
namespace Go.Proofs.YthgidehapcfciaaDoor
open Go.RowKit
set_option linter.unusedVariables false
set_option linter.unusedSimpArgs false
set_option maxRecDepth 100000

set_option maxHeartbeats 2000000 in
theorem tb_yes (f n r g d : Int) (G V P1 Q1 : Nat) (c1 z : Int) (w : World) (hT : Tab w) (hv : validB f = true) (hn : 0 ≤ n ∧ n ≤ 1000) (hr : 0 ≤ r ∧ r ≤ 1000) (hd : 1 ≤ d ∧ d ≤ 64) (hG : max 0 g = (G : Int)) (hGl : G ≤ 1999) (hV : max 1 (d - 1) = (V : Int))
    (hof : ∀ w, Rt.AnsF Tryd.prog 34 #[.int .u64 ((G * V : Nat) : Int), .int .u64 ((pOf f : Nat) : Int)] w P1 Q1 c1)
    (hone : ∀ w, Rt.AnsF Tryd.prog 34 #[.int .u64 1, .int .u64 1] w 1 1 0)
    (hord : ∀ v v' w, Rt.Fv w v P1 Q1 → Rt.Fv w v' 1 1 → Rt.AnsE Tryd.prog 68 #[v, v'] w (.int .i64 z)) :
    Rt.AnsF Tryd.prog 47 #[.int .i64 f, .int .i64 n, .int .i64 r, .int .i64 g, .int .i64 d] w (if 0 < z then 1 else P1) (if 0 < z then 1 else Q1) 0 := by
  have HV : Hid (∀ w, Calls Tryd.prog 31 #[.int .i64 f] w fun e w' => e = .returned (.bool true) ∧ w = w') := fun w => by have h := valid_any f w; rw [hv] at h; exact h
  have HF0 : Hid (∀ w, Calls Tryd.prog 32 #[.int .i64 n, .int .i64 0, .int .i64 1000] w fun e w' => e = .returned (.bool true) ∧ w = w') := fun w => by have h := isfrom_any n 0 1000 w; rw [decide_eq_true (show (0 : Int) ≤ n ∧ n ≤ 1000 by omega)] at h; exact h
  have HF1 : Hid (∀ w, Calls Tryd.prog 32 #[.int .i64 r, .int .i64 0, .int .i64 1000] w fun e w' => e = .returned (.bool true) ∧ w = w') := fun w => by have h := isfrom_any r 0 1000 w; rw [decide_eq_true (show (0 : Int) ≤ r ∧ r ≤ 1000 by omega)] at h; exact h
  have HF2 : Hid (∀ w, Calls Tryd.prog 32 #[.int .i64 d, .int .i64 1, .int .i64 64] w fun e w' => e = .returned (.bool true) ∧ w = w') := fun w => by have h := isfrom_any d 1 64 w; rw [decide_eq_true (show (1 : Int) ≤ d ∧ d ≤ 64 by omega)] at h; exact h
  have hVl : V ≤ 63 := by omega
  obtain ⟨M, hM⟩ : ∃ M, M = G * V := ⟨_, rfl⟩
  have hMl : M ≤ 1999 * 63 := by rw [hM]; exact Nat.mul_le_mul hGl hVl
  rw [← hM] at hof
  have hgv : IntKind.i64.wrap ((G : Int) * (V : Int)) = (M : Int) := by
    rw [show ((G : Int) * (V : Int)) = (M : Int) by rw [hM]; rfl]
    exact IntWalk.i64_in _ (by omega)
  have hw2 : IntKind.u64.wrap (M : Int) = (M : Int) := IntWalk.u64_in _ (by omega)
  have hm1 : ∀ w, (Builtin.max_ #[3, 3] 3 #[.int .i64 0, .int .i64 g]).run Tryd.prog w = .ok (.int .i64 (G : Int)) w := fun w => by
    rw [← hG]
    simp only [Builtin.max_, List.foldlM_cons, List.foldlM_nil, Builtin.max2]
    simp [Sem.run_bind]
    try (repeat' split) <;> (try simp) <;> omega
  have hm2 : ∀ w, (Builtin.max_ #[3, 3] 3 #[.int .i64 1, .int .i64 (d - 1)]).run Tryd.prog w = .ok (.int .i64 (V : Int)) w := fun w => by
    rw [← hV]
    simp only [Builtin.max_, List.foldlM_cons, List.foldlM_nil, Builtin.max2]
    simp [Sem.run_bind]
    try (repeat' split) <;> (try simp) <;> omega
  have HOF := Lib.hid hof
  have HMOST : Hid (∀ v w, Rt.Fv w v P1 Q1 → Calls Tryd.prog 38 #[v] w fun e w' => (∃ v, e = .returned v ∧ Rt.Fv w' v (if 0 < z then 1 else P1) (if 0 < z then 1 else Q1)) ∧ Rt.On w w') := fun v w h => most_any P1 Q1 z v w h hone hord
  have HP : Hid (∀ w, Tab w → Calls Tryd.prog 35 #[.int .i64 f] w fun e w' => e = .returned (.int .u64 ((pOf f : Nat) : Int)) ∧ w = w') := fun w h => p_any f w h
  obtain ⟨P5, hP5⟩ : ∃ A, A = (if 0 < z then 1 else P1) := ⟨_, rfl⟩
  obtain ⟨Q5, hQ5⟩ : ∃ A, A = (if 0 < z then 1 else Q1) := ⟨_, rfl⟩
  rw [← hP5, ← hQ5] at HMOST ⊢
  obtain ⟨p, hp⟩ : ∃ p, p = pOf f := ⟨_, rfl⟩
  rw [← hp] at HOF HP
  have HOR : Hid (On w (w.alloc (.cells #[.slice none 0 0, .slice none 0 0] 26))) := (On.refl hT).alloc _
  clear hT hv hof hone hord hM hMl hP5 hQ5 hp hG hV hGl hVl
  go_enter Tryd.func47, Tryd.ntmps47
  go_wp2_with fail
  with_reducible refine (HV.out _).mono ?_
  rintro e w' ⟨rfl, rfl⟩
  go_wp2_with fail
  with_reducible refine (HF0.out _).mono ?_
  rintro e w' ⟨rfl, rfl⟩
  go_wp2_with fail
  with_reducible refine (HF1.out _).mono ?_
  rintro e w' ⟨rfl, rfl⟩
  go_wp2_with fail
  with_reducible refine (HF2.out _).mono ?_
  rintro e w' ⟨rfl, rfl⟩
  go_wp2_with fail
  with_reducible refine (HP.out _ HOR.out.tab).mono ?_
  rintro e w' ⟨rfl, rfl⟩
  go_wp2_with fail
  with_reducible refine (HOF.out _).mono ?_
  rintro e w2 ⟨⟨v, rfl, ⟨vp, vz, rfl, hp, hz⟩⟩, hO2⟩
  obtain ⟨w3, hw3⟩ : ∃ w3, w3 = w2.alloc (.cells #[vp, vz] 26) := ⟨_, rfl⟩
  have hO3 : Rt.On w2 w3 := by rw [hw3]; exact (Rt.On.refl w2).alloc _
  have HV3 : Hid (Rt.Fv w3 (.agg #[vp, vz]) P1 Q1) := ⟨_, _, rfl, hp.on hO3, hz.on hO3⟩
  have HB3 : Hid (w3.cell? ⟨w2.heap.size, 0, none⟩ = some vp ∧ w3.cell? ⟨w2.heap.size, 1, none⟩ = some vz) := by unfold Hid; rw [hw3]; exact Rt.box_at _ _ _
  have HW3 := Lib.hid hw3
  have HO3 : Hid (Rt.On (w.alloc (.cells #[.slice none 0 0, .slice none 0 0] 26)) w3) := hO2.trans hO3
  obtain ⟨o1, x1, rfl, -, -, -⟩ := hp
  obtain ⟨o2, x2, rfl, -, -, -⟩ := hz
  obtain ⟨z1, z2⟩ := HB3.out
  clear hO2 hO3 hw3 hgv hw2 hm1 hm2
  go_upto_region 6 with fail
  rw [← HW3.out]
  go_wp2_with fail
  with_reducible refine (HMOST.out _ _ HV3.out).mono ?_
  rintro e w8 ⟨⟨v, rfl, ⟨vp, vz, rfl, hp, hz⟩⟩, hO8⟩
  have HO8 := Lib.hid (HO3.out.trans hO8)
  have HP8 := Lib.hid hp; have HZ8 := Lib.hid hz
  obtain ⟨o7, x7, rfl, -, -, -⟩ := hp
  obtain ⟨o8, x8, rfl, -, -, -⟩ := hz
  obtain ⟨k1, k2, k3, k4, k5, k6, k7⟩ := Rt.res_facts HO8.out (.slice o7 (Rt.nl P5) x7) (.slice o8 (Rt.nl Q5) x8)
  clear z1 z2 hO8
  go_wp2
  (try simp only [Exit.inBlock, Exit.then])
  refine bodyPost_ret (by simp [results, Tryd.results47, go_sem, k6, k7]; try rfl) rfl ?_
  have hE := Rt.res_end HO8.out HP8.out HZ8.out
  exact ⟨⟨_, rfl, hE.1⟩, hE.2⟩
set_option maxHeartbeats 1000000 in
theorem eqb_any (f n d : Int) (P Q : Nat) (c : Int) (w : World)
    (ht : ∀ w', On w w' → Rt.AnsF Tryd.prog 47 #[.int .i64 f, .int .i64 n, .int .i64 0, .int .i64 n, .int .i64 d] w' P Q c) (hT : Tab w) :
    Rt.AnsF Tryd.prog 11 #[.int .i64 f, .int .i64 n, .int .i64 d] w P Q c := by
  have HT := Lib.hid (ht (w.alloc (.cells #[.slice none 0 0, .slice none 0 0] 26)) ((On.refl hT).alloc _))
  clear ht hT
  go_enter Tryd.func11, Tryd.ntmps11
  go_wp2_with fail
  with_reducible refine HT.out.mono ?_
  rintro e w8 ⟨⟨v, rfl, ⟨vp, vz, rfl, hp, hz⟩⟩, hO8⟩
  have HO8 := Lib.hid hO8
  have HP8 := Lib.hid hp; have HZ8 := Lib.hid hz
  obtain ⟨o7, x7, rfl, -, -, -⟩ := hp
  obtain ⟨o8, x8, rfl, -, -, -⟩ := hz
  obtain ⟨k1, k2, k3, k4, k5, k6, k7⟩ := Rt.res_facts HO8.out (.slice o7 (Rt.nl P) x7) (.slice o8 (Rt.nl Q) x8)
  clear hO8
  go_wp2
  (try simp only [Exit.inBlock, Exit.then])
  refine bodyPost_ret (by simp [results, Tryd.results11, go_sem, k6, k7]; try rfl) rfl ?_
  have hE := Rt.res_end HO8.out HP8.out HZ8.out
  exact ⟨⟨_, rfl, hE.1⟩, hE.2⟩
set_option maxHeartbeats 1000000 in
theorem fdb_any (f n r d : Int) (P Q : Nat) (c : Int) (w : World)
    (ht : ∀ w', On w w' → Rt.AnsF Tryd.prog 47 #[.int .i64 f, .int .i64 n, .int .i64 r, .int .i64 (wrap64 (wrap64 (n + r) - 1)), .int .i64 d] w' P Q c) (hT : Tab w) :
    Rt.AnsF Tryd.prog 13 #[.int .i64 f, .int .i64 n, .int .i64 r, .int .i64 d] w P Q c := by
  have HT := Lib.hid (ht (w.alloc (.cells #[.slice none 0 0, .slice none 0 0] 26)) ((On.refl hT).alloc _))
  clear ht hT
  go_enter Tryd.func13, Tryd.ntmps13
  go_wp2_with fail
  with_reducible refine HT.out.mono ?_
  rintro e w8 ⟨⟨v, rfl, ⟨vp, vz, rfl, hp, hz⟩⟩, hO8⟩
  have HO8 := Lib.hid hO8
  have HP8 := Lib.hid hp; have HZ8 := Lib.hid hz
  obtain ⟨o7, x7, rfl, -, -, -⟩ := hp
  obtain ⟨o8, x8, rfl, -, -, -⟩ := hz
  obtain ⟨k1, k2, k3, k4, k5, k6, k7⟩ := Rt.res_facts HO8.out (.slice o7 (Rt.nl P) x7) (.slice o8 (Rt.nl Q) x8)
  clear hO8
  go_wp2
  (try simp only [Exit.inBlock, Exit.then])
  refine bodyPost_ret (by simp [results, Tryd.results13, go_sem, k6, k7]; try rfl) rfl ?_
  have hE := Rt.res_end HO8.out HP8.out HZ8.out
  exact ⟨⟨_, rfl, hE.1⟩, hE.2⟩
end Go.Proofs.YthgidehapcfciaaDoor

/- The examples that the laws of stage 11 check: works returns true (own work). -/
namespace Go.Proofs.YthgidehapcfciaaDoor
open Go.RowKit
set_option linter.unusedVariables false
set_option linter.unusedSimpArgs false
set_option maxRecDepth 100000

theorem of_k (x y P Q : Nat) (w : World) (hx : x ≤ 18446744073709551615) (hy : y ≤ 18446744073709551615) (hy0 : 0 < y) (h1 : x / Nat.gcd x y = P) (h2 : y / Nat.gcd x y = Q) :
    Rt.AnsF Tryd.prog 34 #[.int .u64 (x : Int), .int .u64 (y : Int)] w P Q 0 := by
  have h := Rt.Of_f x y w hx hy hy0
  rwa [h1, h2] at h
theorem add_k (v v' : Value) (p q r s P Q : Nat) (w : World) (hx : Rt.Fv w v p q) (hy : Rt.Fv w v' r s) (kx : Rt.okF (Rt.nl p) p (Rt.nl q) q = true) (ky : Rt.okF (Rt.nl r) r (Rt.nl s) s = true)
    (h1 : (p * s + r * q) / Nat.gcd (p * s + r * q) (q * s) = P) (h2 : q * s / Nat.gcd (p * s + r * q) (q * s) = Q) (hP : P ≤ 18446744073709551615) (hQ : Q ≤ 18446744073709551615) :
    Rt.AnsF Tryd.prog 37 #[v, v'] w P Q 0 := by
  have h := Rt.Add_yes v v' p q r s w hx hy kx ky
  rw [h1, h2] at h
  have e := Rt.fit_small hP hQ
  rw [e.1, e.2.1, e.2.2] at h
  exact h.mono fun e w' ⟨v, h1, h2, h3⟩ => ⟨⟨v, h1, h2⟩, h3⟩
theorem pow_k (v : Value) (p q n P Q : Nat) (w : World) (hx : Rt.Fv w v p q) (kx : Rt.okF (Rt.nl p) p (Rt.nl q) q = true) (hn : n ≤ 1000)
    (h1 : p ^ n = P) (h2 : q ^ n = Q) (hP : P ≤ 18446744073709551615) (hQ : Q ≤ 18446744073709551615) :
    Rt.AnsF Tryd.prog 77 #[v, .int .i64 (n : Int)] w P Q 0 := by
  have h := Rt.Power_yes v p q n w hx kx hn
  rw [h1, h2] at h
  have e := Rt.fit_small hP hQ
  rw [e.1, e.2.1, e.2.2] at h
  exact h.mono fun e w' ⟨v, h1, h2, h3⟩ => ⟨⟨v, h1, h2⟩, h3⟩
theorem ord_k (v v' : Value) (p q r s : Nat) (z : Int) (w : World) (hx : Rt.Fv w v p q) (hy : Rt.Fv w v' r s) (kx : Rt.okF (Rt.nl p) p (Rt.nl q) q = true) (ky : Rt.okF (Rt.nl r) r (Rt.nl s) s = true) (hz : Rt.cmpZ (p * s) (r * q) = z) :
    Rt.AnsE Tryd.prog 68 #[v, v'] w (.int .i64 z) := by
  have h := Rt.Order_yes v v' p q r s w hx hy kx ky
  rwa [hz] at h
theorem k_okF {p q : Nat} (hp : p ≤ 18446744073709551615) (hq : q ≤ 18446744073709551615) (h0 : 0 < q) (hg : Nat.gcd p q = 1) : Rt.okF (Rt.nl p) p (Rt.nl q) q = true := Rt.okF_small hp hq h0 hg
theorem k_bound (w : World) (hT : Tab w) : Rt.AnsF Tryd.prog 8 #[.int .i64 0, .int .i64 4, .int .i64 2, .int .i64 3, .int .i64 1] w 169 194 0 :=
  bound_yes 0 4 2 3 1 36 97 1 2 1 2 169 194 0 0 0 0 (-1) w hT (by decide) (by decide) (by decide) (by decide) (by decide) (by decide) (by decide)
    (fun w => of_k _ _ 36 97 w (by decide) (by decide) (by decide) (by decide) (by decide))
    (fun w => of_k 2 4 1 2 w (by decide) (by decide) (by decide) (by decide) (by decide))
    (fun v w h => pow_k v 1 2 1 1 2 w h (k_okF (by decide) (by decide) (by decide) (by decide)) (by decide) (by decide) (by decide) (by decide) (by decide))
    (fun v v' w h h' => add_k v v' 36 97 1 2 169 194 w h h' (k_okF (by decide) (by decide) (by decide) (by decide)) (k_okF (by decide) (by decide) (by decide) (by decide)) (by decide) (by decide) (by decide) (by decide))
    (fun w => of_k 1 1 1 1 w (by decide) (by decide) (by decide) (by decide) (by decide))
    (fun v v' w h h' => ord_k v v' 169 194 1 1 (-1) w h h' (k_okF (by decide) (by decide) (by decide) (by decide)) (k_okF (by decide) (by decide) (by decide) (by decide)) (by decide))
theorem k_eqb (w : World) (hT : Tab w) : Rt.AnsF Tryd.prog 11 #[.int .i64 0, .int .i64 4, .int .i64 3] w 8 97 0 :=
  eqb_any 0 4 3 8 97 0 w (fun w' h => tb_yes 0 4 0 4 3 4 2 8 97 0 (-1) w' h.tab (by decide) (by decide) (by decide) (by decide) (by decide) (by decide) (by decide)
    (fun w => of_k _ _ 8 97 w (by decide) (by decide) (by decide) (by decide) (by decide))
    (fun w => of_k 1 1 1 1 w (by decide) (by decide) (by decide) (by decide) (by decide))
    (fun v v' w h h' => ord_k v v' 8 97 1 1 (-1) w h h' (k_okF (by decide) (by decide) (by decide) (by decide)) (k_okF (by decide) (by decide) (by decide) (by decide)) (by decide))) hT
theorem k_fdb (w : World) (hT : Tab w) : Rt.AnsF Tryd.prog 13 #[.int .i64 0, .int .i64 2, .int .i64 3, .int .i64 2] w 4 97 0 :=
  fdb_any 0 2 3 2 4 97 0 w (fun w' h => tb_yes 0 2 3 (wrap64 (wrap64 (2 + 3) - 1)) 2 4 1 4 97 0 (-1) w' h.tab (by decide) (by decide) (by decide) (by decide) (by decide +kernel) (by decide) (by decide)
    (fun w => of_k _ _ 4 97 w (by decide) (by decide) (by decide) (by decide) (by decide))
    (fun w => of_k 1 1 1 1 w (by decide) (by decide) (by decide) (by decide) (by decide))
    (fun v v' w h h' => ord_k v v' 4 97 1 1 (-1) w h h' (k_okF (by decide) (by decide) (by decide) (by decide)) (k_okF (by decide) (by decide) (by decide) (by decide)) (by decide))) hT
set_option maxHeartbeats 1000000 in
theorem show_any (v : Value) (P Q : Nat) (a b : List UInt8) (w : World) (h : Rt.Fv w v P Q) (hk : Rt.okF (Rt.nl P) P (Rt.nl Q) Q = true) (ha : Rt.textB a = true) (hb : Rt.textB b = true) (na : Rt.numOf a = P) (nb : Rt.numOf b = Q) :
    Calls Tryd.prog 48 #[v, .int .i64 0] w fun e w' => e = .returned (Rt.str (a ++ 47 :: b)) ∧ Rt.On w w' := by
  have HX := Lib.hid h
  obtain ⟨vxp, vxq, rfl, hxp, hxq⟩ := h
  obtain ⟨o1, c1, rfl, -, -, -⟩ := hxp
  obtain ⟨o2, c2, rfl, -, -, -⟩ := hxq
  obtain ⟨u, hu⟩ : ∃ u, u = w.alloc (.cells #[.slice o1 (Rt.nl P) c1, .slice o2 (Rt.nl Q) c2] 26) := ⟨_, rfl⟩
  have hOu : Rt.On w u := by rw [hu]; exact (Rt.On.refl w).alloc _
  have b0 : u.cell? ⟨w.heap.size, 0, none⟩ = some (.slice o1 (Rt.nl P) c1) ∧ u.cell? ⟨w.heap.size, 1, none⟩ = some (.slice o2 (Rt.nl Q) c2) := by rw [hu]; exact Rt.box_at _ _ _
  obtain ⟨x1, x2⟩ := b0
  have HS : Hid (Calls Tryd.prog 88 #[.agg #[.slice o1 (Rt.nl P) c1, .slice o2 (Rt.nl Q) c2]] u fun e w' => e = .returned (Rt.str (a ++ 47 :: b)) ∧ Rt.On u w') := by
    have h2 := Rt.Show_yes _ P Q u (HX.out.on hOu) hk
    rw [Rt.dec_of a P ha na, Rt.dec_of b Q hb nb] at h2
    exact h2
  obtain ⟨S, hS⟩ : ∃ S, S = Rt.str (a ++ 47 :: b) := ⟨_, rfl⟩
  rw [← hS] at HS ⊢
  have HU := Lib.hid hu; have HO := Lib.hid hOu
  clear hu hOu hS hk ha hb na nb
  go_enter Tryd.func48, Tryd.ntmps48
  go_upto_region 1 with fail
  rw [← HU.out]
  go_wp2_with fail
  with_reducible refine HS.out.mono ?_
  rintro e w2 ⟨rfl, hO2⟩
  have HO2 := Lib.hid (HO.out.trans hO2)
  clear hO2
  go_wp2
  go_ret
  exact ⟨rfl, HO2.out⟩
theorem roots_96 : cntR 0 [96, 0, 1] 97 = 2 := by decide +kernel
set_option maxHeartbeats 2000000 in
theorem gworks_any (w : World) (hT : Tab w) :
    Calls Tryd.prog 15 #[] w fun e w' => e = .returned (.bool true) ∧ On w w' := by
  obtain ⟨w1, hw1⟩ : ∃ w1, w1 = w.alloc (.cells #[.int .u64 96, .int .u64 0, .int .u64 1] 46) := ⟨_, rfl⟩
  have hO1 : On w w1 := by rw [hw1]; exact (On.refl hT).alloc _
  have hR : Reads w1 (.slice (some ⟨w.heap.size, 0, none⟩) 3 3) [96, 0, 1] := by
    refine ⟨by decide, by decide, Or.inr ⟨w.heap.size, 0, 3, rfl, fun i hi => ?_⟩⟩
    rw [hw1, Nat.zero_add, World.cell?_alloc_new]
    have h3 : i < 3 := hi
    obtain rfl | rfl | rfl : i = 0 ∨ i = 1 ∨ i = 2 := by omega
    all_goals rfl
  have HRT := Lib.hid (roots_yes 0 [96, 0, 1] _ w1 hO1.tab (Or.inl rfl) hR)
  rw [show pOf 0 = 97 by decide, roots_96] at HRT
  have HW1 := Lib.hid hw1; have HO1 := Lib.hid hO1
  have HB := Lib.hid k_bound; have HE := Lib.hid k_eqb; have HF := Lib.hid k_fdb
  clear hw1 hO1 hR hT
  go_enter Tryd.func15, Tryd.ntmps15
  go_wp2_with fail
  rw [← HW1.out]
  with_reducible refine HRT.out.mono ?_
  rintro e w2 ⟨rfl, hO2⟩
  have HO2 := Lib.hid (HO1.out.trans hO2)
  clear hO2
  go_wp2_with fail
  with_reducible refine (HB.out w2 HO2.out.tab).mono ?_
  rintro e w3 ⟨⟨v, rfl, hv⟩, hO3⟩
  have HO3 := Lib.hid (HO2.out.trans ⟨HO2.out.tab, hO3⟩)
  have HS3 := Lib.hid (show_any v 169 194 [49, 54, 57] [49, 57, 52] w3 hv (k_okF (by decide) (by decide) (by decide) (by decide)) (by decide) (by decide) (by decide) (by decide))
  clear hv hO3
  go_wp2_with fail
  with_reducible refine HS3.out.mono ?_
  rintro e w4 ⟨rfl, hO4⟩
  have HO4 := Lib.hid (HO3.out.trans ⟨HO3.out.tab, hO4⟩)
  clear hO4
  unfold Rt.str
  go_wp2_with fail
  with_reducible refine (HE.out w4 HO4.out.tab).mono ?_
  rintro e w5 ⟨⟨v, rfl, hv⟩, hO5⟩
  have HO5 := Lib.hid (HO4.out.trans ⟨HO4.out.tab, hO5⟩)
  have HS5 := Lib.hid (show_any v 8 97 [56] [57, 55] w5 hv (k_okF (by decide) (by decide) (by decide) (by decide)) (by decide) (by decide) (by decide) (by decide))
  clear hv hO5
  go_wp2_with fail
  with_reducible refine HS5.out.mono ?_
  rintro e w6 ⟨rfl, hO6⟩
  have HO6 := Lib.hid (HO5.out.trans ⟨HO5.out.tab, hO6⟩)
  clear hO6
  unfold Rt.str
  go_wp2_with fail
  with_reducible refine (HF.out w6 HO6.out.tab).mono ?_
  rintro e w7 ⟨⟨v, rfl, hv⟩, hO7⟩
  have HO7 := Lib.hid (HO6.out.trans ⟨HO6.out.tab, hO7⟩)
  have HS7 := Lib.hid (show_any v 4 97 [52] [57, 55] w7 hv (k_okF (by decide) (by decide) (by decide) (by decide)) (by decide) (by decide) (by decide) (by decide))
  clear hv hO7
  go_wp2_with fail
  with_reducible refine HS7.out.mono ?_
  rintro e w8 ⟨rfl, hO8⟩
  have HO8 := Lib.hid (HO7.out.trans ⟨HO7.out.tab, hO8⟩)
  clear hO8
  unfold Rt.str
  go_wp2
  go_ret
  exact ⟨rfl, HO8.out⟩
end Go.Proofs.YthgidehapcfciaaDoor
