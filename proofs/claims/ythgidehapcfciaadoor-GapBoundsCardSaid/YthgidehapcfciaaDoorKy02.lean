/- Boxes of two numbers: made, stored anew, and beside a store to another one. -/
import Derived.Test.YthgidehapcfciaaDoorKx26
import Derived.Deep.DeepCutAuto
import Derived.Test.YthgidehapcfciaaDoorKx27
import Derived.Test.YthgidehapcfciaaDoorKy01
set_option linter.unusedSimpArgs false
set_option linter.unusedVariables false
/- Boxes of two numbers: made, stored anew, and beside a store to another one. -/
namespace Go.Proofs.YthgidehapcfciaaDoor.Rt
open Go.RowKit
set_option linter.unusedVariables false
set_option linter.unusedSimpArgs false
set_option maxRecDepth 100000

theorem Nv.notInt {w : World} {v : Value} {n : Nat} (h : Nv w v n) : ∀ x, v ≠ .int .u32 x := fun x e => by
  obtain ⟨oa, c, h, _⟩ := h
  rw [h] at e; cases e
theorem PB.make {w0 w : World} {vp vq : Value} {P Q : Nat} (hO : On w0 w) (hp : Nv w vp P) (hq : Nv w vq Q) : PB w0 w.heap.size (w.alloc (.cells #[vp, vq] 26)) vp vq P Q := by
  have hA : On w (w.alloc (.cells #[vp, vq] 26)) := (On.refl w).alloc _
  refine ⟨hO.trans hA, by simp, hO.size, by rw [World.cell?_alloc_new]; rfl, by rw [World.cell?_alloc_new]; rfl, World.frozen?_alloc_new .., World.frozen?_alloc_new .., NoLimb.made w _ _ (fun k x => ?_), ⟨hp.on hA, trivial⟩, ⟨hq.on hA, trivial⟩⟩
  match k with
  | 0 => simpa using hp.notInt x
  | 1 => simpa using hq.notInt x
  | k + 2 => simp
/-- What a walk wants for a store of two values into a box. -/
theorem PB.facts {w0 w : World} {R : Nat} {sP sQ : Value} {P Q : Nat} (h : PB w0 R w sP sQ P Q) (v v' : Value) :
    w.cell? ⟨R, 0, none⟩ = some sP ∧ w.frozen? ⟨R, 0, none⟩ = false ∧ (w.setCell ⟨R, 0, none⟩ v).cell? ⟨R, 1, none⟩ = some sQ ∧ w.frozen? ⟨R, 1, none⟩ = false ∧
    ((w.setCell ⟨R, 0, none⟩ v).setCell ⟨R, 1, none⟩ v').cell? ⟨R, 0, none⟩ = some v ∧ ((w.setCell ⟨R, 0, none⟩ v).setCell ⟨R, 1, none⟩ v').cell? ⟨R, 1, none⟩ = some v' := by
  obtain ⟨h1, h2, h3, h4, h5, h6, h7, h8, h9, h10⟩ := h
  have d1 : (w.setCell ⟨R, 0, none⟩ v).cell? ⟨R, 1, none⟩ = some sQ := by rw [World.cell?_setCell_other (h := fun e => by simp at e) ..]; exact h5
  refine ⟨h4, h6, d1, h7, ?_, World.cell?_setCell_same (h := d1) ..⟩
  rw [World.cell?_setCell_other (h := fun e => by simp at e) ..]
  exact World.cell?_setCell_same (h := h4) ..
theorem PB.store {w0 w : World} {R : Nat} {sP sQ v v' : Value} {P Q P' Q' : Nat} (h : PB w0 R w sP sQ P Q) (hp : Nv w v P') (hq : Nv w v' Q') : PB w0 R ((w.setCell ⟨R, 0, none⟩ v).setCell ⟨R, 1, none⟩ v') v v' P' Q' :=
  (h.step ⟨hp, trivial⟩ ⟨hq, trivial⟩).2
theorem PB.other {w0 w : World} {R R' : Nat} {sP sQ rP rQ v v' : Value} {P Q A B P' Q' : Nat} (h : PB w0 R w sP sQ P Q) (k : PB w0 R' w rP rQ A B) (hn : R ≠ R') (hp : Nv w v P') (hq : Nv w v' Q') : PB w0 R' ((w.setCell ⟨R, 0, none⟩ v).setCell ⟨R, 1, none⟩ v') rP rQ A B := by
  obtain ⟨h1, h2, h3, h4, h5, h6, h7, h8, h9, h10⟩ := h
  obtain ⟨k1, k2, k3, k4, k5, k6, k7, k8, k9, k10⟩ := k
  have hN1 : NoLimb (w.setCell ⟨R, 0, none⟩ v) R := h8.set 0 v hp.notInt
  refine ⟨(k1.setCell h3 _).setCell h3 _, by simpa using k2, k3, ?_, ?_, by simpa using k6, by simpa using k7, ?_, (k9.set h8 0 _).set hN1 1 _, (k10.set h8 0 _).set hN1 1 _⟩
  · rw [World.cell?_setCell_far _ _ _ _ hn, World.cell?_setCell_far _ _ _ _ hn]; exact k4
  · rw [World.cell?_setCell_far _ _ _ _ hn, World.cell?_setCell_far _ _ _ _ hn]; exact k5
  · intro i x
    rw [World.cell?_setCell_far _ _ _ _ hn, World.cell?_setCell_far _ _ _ _ hn]; exact k8 i x
theorem PB.fv {w0 w : World} {R : Nat} {sP sQ : Value} {P Q : Nat} (h : PB w0 R w sP sQ P Q) : Fv w (.agg #[sP, sQ]) P Q := ⟨_, _, rfl, h.2.2.2.2.2.2.2.2.1.1, h.2.2.2.2.2.2.2.2.2.1⟩
theorem PB.shape {w0 w : World} {R : Nat} {sP sQ : Value} {P Q : Nat} (h : PB w0 R w sP sQ P Q) : ∃ o c o' c', sP = .slice o (nl P) c ∧ sQ = .slice o' (nl Q) c' := by
  obtain ⟨o, c, h1, -⟩ := h.2.2.2.2.2.2.2.2.1.1
  obtain ⟨o', c', h2, -⟩ := h.2.2.2.2.2.2.2.2.2.1
  exact ⟨o, c, o', c', h1, h2⟩
theorem PB.cells {w0 w : World} {R : Nat} {sP sQ : Value} {P Q : Nat} (h : PB w0 R w sP sQ P Q) : w.cell? ⟨R, 0, none⟩ = some sP ∧ w.cell? ⟨R, 1, none⟩ = some sQ := ⟨h.2.2.2.1, h.2.2.2.2.1⟩
theorem PB.nil (w : World) : PB w w.heap.size (w.alloc (.cells #[.slice none 0 0, .slice none 0 0] 26)) (.slice none 0 0) (.slice none 0 0) 0 0 := PB.make (On.refl w) (Nv.nil w) (Nv.nil w)
set_option maxHeartbeats 1000000 in
/-- The document's Same of two fractions of the same value. -/
theorem rsame_fv (vx vy : Value) (P Q : Nat) (w : World) (hx : Fv w vx P Q) (hy : Fv w vy P Q) :
    AnsE Tryd.prog 10 #[vx, vy] w (.bool true) := by
  have HX := Lib.hid hx; have HY := Lib.hid hy
  obtain ⟨vxp, vxq, rfl, hxp, hxq⟩ := hx
  obtain ⟨vyp, vyq, rfl, hyp, hyq⟩ := hy
  obtain ⟨w1, hw1⟩ : ∃ w1, w1 = (w.alloc (.cells #[vxp, vxq] 26)).alloc (.cells #[vyp, vyq] 26) := ⟨_, rfl⟩
  have hs : (w.alloc (.cells #[vxp, vxq] 26)).heap.size = w.heap.size + 1 := by simp
  have hO : On w w1 := by rw [hw1]; exact ((On.refl w).alloc _).alloc _
  have B1 : PB w w.heap.size w1 vxp vxq P Q := by rw [hw1]; exact (PB.make (On.refl w) hxp hxq).on ((On.refl _).alloc _)
  have B2 : PB w (w.heap.size + 1) w1 vyp vyq P Q := by rw [hw1, ← hs]; exact PB.make ((On.refl w).alloc _) (hyp.on ((On.refl w).alloc _)) (hyq.on ((On.refl w).alloc _))
  have HS1 : Hid (∀ w', On w1 w' → AnsE Tryd.prog 46 #[vxp, vyp] w' (.bool true)) := fun w' k => same_nv _ _ P w' (hxp.on (hO.trans k)) (hyp.on (hO.trans k))
  have HS2 : Hid (∀ w', On w1 w' → AnsE Tryd.prog 46 #[vxq, vyq] w' (.bool true)) := fun w' k => same_nv _ _ Q w' (hxq.on (hO.trans k)) (hyq.on (hO.trans k))
  have HB1 := Lib.hid B1; have HB2 := Lib.hid B2
  obtain ⟨o1, c1, o2, c2, rfl, rfl⟩ := B1.shape
  obtain ⟨o3, c3, o4, c4, rfl, rfl⟩ := B2.shape
  obtain ⟨x1, x2⟩ := B1.cells
  obtain ⟨y1, y2⟩ := B2.cells
  have HW1 := Lib.hid hw1; have HO := Lib.hid hO
  clear hw1 hs hO B1 B2 hxp hxq hyp hyq
  go_enter Tryd.func10, Tryd.ntmps10
  go_upto_region 1 with fail
  rw [← HW1.out]
  go_wp2_with fail
  with_reducible refine (HS1.out _ (On.refl _)).mono ?_
  rintro e w2 ⟨rfl, hO2⟩
  have HO2 := Lib.hid hO2
  obtain ⟨-, x3⟩ := (HB1.out.on hO2).cells
  obtain ⟨-, y3⟩ := (HB2.out.on hO2).cells
  clear hO2 x1 x2 y1 y2
  go_wp2_with fail
  with_reducible refine (HS2.out _ HO2.out).mono ?_
  rintro e w3 ⟨rfl, hO3⟩
  have HO3 := Lib.hid ((HO.out.trans HO2.out).trans hO3)
  clear hO3
  go_wp2
  go_ret
  exact ⟨rfl, HO3.out⟩
end Go.Proofs.YthgidehapcfciaaDoor.Rt

/- The document's own Bound, FoundBound and EqualBound (own work). -/
namespace Go.Proofs.YthgidehapcfciaaDoor
open Go.RowKit
set_option linter.unusedVariables false
set_option linter.unusedSimpArgs false
set_option maxRecDepth 100000

theorem wm_bound (B D M : Nat) (hB : B ≤ 601080390) (hD : D ≤ 601080390 * 63) (h : D + 7 * B = M) : IntKind.u64.wrap (wrap64 ((D : Int) + wrap64 (7 * (B : Int)))) = (M : Int) := by
  have h1 : wrap64 (7 * (B : Int)) = 7 * (B : Int) := IntWalk.wrap64_in _ (by omega)
  rw [h1]
  have h3 : ((D : Int) + 7 * (B : Int)) = (M : Int) := by omega
  rw [h3]
  have h4 : M ≤ 42075627300 := by omega
  clear h1 h3 h hB hD
  rw [IntWalk.wrap64_in (M : Int) (by omega)]
  exact IntWalk.u64_in _ (by omega)
set_option maxHeartbeats 1000000 in
theorem rchoose_any (n k : Nat) (w : World) (hn : n ≤ 32) (hk : k ≤ n + 1) :
    Calls Tryd.prog 40 #[.int .i64 (n : Int), .int .i64 (k : Int)] w fun e w' => e = .returned (.int .i64 ((chR n k : Nat) : Int)) ∧ w = w' := by
  by_cases hkn : k ≤ n
  · go_enter Tryd.func40, Tryd.ntmps40
    go_wp2_with fail
    go_loop [5, 6] (fun vc vi => ∃ i : Nat, i ≤ k ∧ vi = .int .i64 (i : Int) ∧ vc = .int .i64 ((chR n i : Nat) : Int)) (fun _ vi => k - (intOf vi).toNat)
    case atStart => exact ⟨0, by omega, rfl, rfl⟩
    case round =>
      obtain ⟨i, hi, rfl, rfl⟩ := hrel
      by_cases hlt : i < k
      · have hc := chR_le n (by omega) i (by omega)
        have HS : Hid (chR n (i + 1) = chR n i * (n - i) / (i + 1)) := rfl
        obtain ⟨c, hce⟩ : ∃ c, c = chR n i := ⟨_, rfl⟩
        rw [← hce] at hc HS ⊢
        clear hce
        obtain ⟨d, hd⟩ : ∃ d : Nat, d = n - i := ⟨_, rfl⟩
        have hdl : d ≤ 32 := by omega
        have hcd : c * d ≤ 601080390 * 32 := Nat.mul_le_mul hc hdl
        obtain ⟨q, hq⟩ : ∃ q : Nat, q = c * d / (i + 1) := ⟨_, rfl⟩
        have hql : q ≤ 601080390 * 32 := by rw [hq]; exact Nat.le_trans (Nat.div_le_self _ _) hcd
        obtain ⟨M, hM⟩ : ∃ M : Nat, M = c * d := ⟨_, rfl⟩
        have hMc : wrap64 ((c : Int) * ((n : Int) - (i : Int))) = (M : Int) := by
          have h1 : ((n : Int) - (i : Int)) = (d : Int) := by omega
          have h2 : ((c : Int) * (d : Int)) = (M : Int) := by rw [hM]; rfl
          rw [h1, h2]; exact IntWalk.wrap64_in _ (by omega)
        have HQ : Hid (wrap64 (Int.tdiv (M : Int) ((i : Int) + 1)) = (q : Int)) := by
          have h3 : Int.tdiv (M : Int) ((i : Int) + 1) = (q : Int) := by rw [hq, hM]; rfl
          unfold Hid; rw [h3]; exact IntWalk.wrap64_in _ (by omega)
        have HMC := Lib.hid hMc
        have hj0 : ¬ (((i : Int) + 1) = 0) := by omega
        rw [← hd, ← hq] at HS
        clear hq hdl hcd hd hc hM hMc
        go_wp2
        go_round
        case rel => exact ⟨i + 1, by omega, by go_num, by rw [HS.out, HMC.out, HQ.out]⟩
        case measure => simp [intOf]; omega
      · obtain rfl : i = k := by omega
        go_wp2
        go_ret
        exact ⟨rfl, rfl⟩
  · obtain rfl : k = n + 1 := by omega
    rw [chR_up]
    go_enter Tryd.func40, Tryd.ntmps40
    go_wp2
    go_ret
    exact ⟨rfl, rfl⟩
set_option maxHeartbeats 1000000 in
theorem rbound_no (f n t c q : Int) (w : World) (hv : validB f = false) :
    Rt.AnsF Tryd.prog 9 #[.int .i64 f, .int .i64 n, .int .i64 t, .int .i64 c, .int .i64 q] w 0 0 1 := by
  have HV : Hid (∀ w, Calls Tryd.prog 39 #[.int .i64 f] w fun e w' => e = .returned (.bool false) ∧ w = w') := fun w => by have h := rvalid_any f w; rw [hv] at h; exact h
  have HO0 : Hid (Rt.On (w.alloc (.cells #[.slice none 0 0, .slice none 0 0] 26)) (w.alloc (.cells #[.slice none 0 0, .slice none 0 0] 26))) := Rt.On.refl _
  obtain ⟨k1, k2, k3, k4, k5, k6, k7⟩ := Rt.res_facts HO0.out (.slice none 0 0) (.slice none 0 0)
  clear hv
  go_enter Tryd.func9, Tryd.ntmps9
  go_wp2_with fail
  with_reducible refine (HV.out _).mono ?_
  rintro e w' ⟨rfl, rfl⟩
  go_wp2
  (try simp only [Exit.inBlock, Exit.then])
  refine bodyPost_ret (by simp [results, Tryd.results9, go_sem, k6, k7]; try rfl) rfl ?_
  exact ⟨⟨_, rfl, Rt.Fv.zero _⟩, (Rt.On.refl w).alloc _⟩
set_option maxHeartbeats 4000000 in
theorem rbound_rng (f n t c q : Int) (w : World) (hv : validB f = true) (hr : ¬ ((1 ≤ n ∧ n ≤ 32) ∧ (0 ≤ t ∧ t ≤ n) ∧ (1 ≤ c ∧ c ≤ 64) ∧ (0 ≤ q ∧ q ≤ 64))) :
    Rt.AnsF Tryd.prog 9 #[.int .i64 f, .int .i64 n, .int .i64 t, .int .i64 c, .int .i64 q] w 0 0 2 := by
  have HV : Hid (∀ w, Calls Tryd.prog 39 #[.int .i64 f] w fun e w' => e = .returned (.bool true) ∧ w = w') := fun w => by have h := rvalid_any f w; rw [hv] at h; exact h
  have HO0 : Hid (Rt.On (w.alloc (.cells #[.slice none 0 0, .slice none 0 0] 26)) (w.alloc (.cells #[.slice none 0 0, .slice none 0 0] 26))) := Rt.On.refl _
  obtain ⟨k1, k2, k3, k4, k5, k6, k7⟩ := Rt.res_facts HO0.out (.slice none 0 0) (.slice none 0 0)
  clear hv
  have hcs : (n < 1) ∨ (¬ (n < 1) ∧ 32 < n) ∨ (¬ (n < 1) ∧ ¬ (32 < n) ∧ t < 0) ∨ (¬ (n < 1) ∧ ¬ (32 < n) ∧ ¬ (t < 0) ∧ n < t) ∨ (¬ (n < 1) ∧ ¬ (32 < n) ∧ ¬ (t < 0) ∧ ¬ (n < t) ∧ c < 1) ∨ (¬ (n < 1) ∧ ¬ (32 < n) ∧ ¬ (t < 0) ∧ ¬ (n < t) ∧ ¬ (c < 1) ∧ 64 < c) ∨ (¬ (n < 1) ∧ ¬ (32 < n) ∧ ¬ (t < 0) ∧ ¬ (n < t) ∧ ¬ (c < 1) ∧ ¬ (64 < c) ∧ q < 0) ∨ (¬ (n < 1) ∧ ¬ (32 < n) ∧ ¬ (t < 0) ∧ ¬ (n < t) ∧ ¬ (c < 1) ∧ ¬ (64 < c) ∧ ¬ (q < 0) ∧ 64 < q) := by omega
  clear hr
  rcases hcs with h0 | ⟨h0, h1⟩ | ⟨h0, h1, h2⟩ | ⟨h0, h1, h2, h3⟩ | ⟨h0, h1, h2, h3, h4⟩ | ⟨h0, h1, h2, h3, h4, h5⟩ | ⟨h0, h1, h2, h3, h4, h5, h6⟩ | ⟨h0, h1, h2, h3, h4, h5, h6, h7⟩
  all_goals
    go_enter Tryd.func9, Tryd.ntmps9
    go_wp2_with fail
    with_reducible refine (HV.out _).mono ?_
    rintro e w' ⟨rfl, rfl⟩
    go_wp2
    (try simp only [Exit.inBlock, Exit.then])
    refine bodyPost_ret (by simp [results, Tryd.results9, go_sem, k6, k7]; try rfl) rfl ?_
    exact ⟨⟨_, rfl, Rt.Fv.zero _⟩, (Rt.On.refl w).alloc _⟩
set_option maxHeartbeats 4000000 in
theorem rbound_yes (f : Int) (N T C Q P1 Q1 P2 Q2 P3 Q3 P4 Q4 : Nat) (c1 c2 c3 c4 z : Int) (w : World) (hv : validB f = true) (hN0 : 1 ≤ N) (hN : N ≤ 32) (hTN : T ≤ N) (hC0 : 1 ≤ C) (hC : C ≤ 64) (hQ : Q ≤ 64)
    (hof : ∀ w, Rt.AnsF Tryd.prog 41 #[.int .u64 ((chR N (T + 1) * (C + 6) : Nat) : Int), .int .u64 ((pOf f : Nat) : Int)] w P1 Q1 c1)
    (hof2 : ∀ w, Rt.AnsF Tryd.prog 41 #[.int .u64 (T : Int), .int .u64 (N : Int)] w P2 Q2 c2)
    (hpow : ∀ v w, Rt.Fv w v P2 Q2 → Rt.AnsF Tryd.prog 43 #[v, .int .i64 (Q : Int)] w P3 Q3 c3)
    (hadd : ∀ v v' w, Rt.Fv w v P1 Q1 → Rt.Fv w v' P3 Q3 → Rt.AnsF Tryd.prog 44 #[v, v'] w P4 Q4 c4)
    (hone : ∀ w, Rt.AnsF Tryd.prog 41 #[.int .u64 1, .int .u64 1] w 1 1 0)
    (hord : ∀ v v' w, Rt.Fv w v P4 Q4 → Rt.Fv w v' 1 1 → Rt.AnsE Tryd.prog 87 #[v, v'] w (.int .i64 z)) :
    Rt.AnsF Tryd.prog 9 #[.int .i64 f, .int .i64 (N : Int), .int .i64 (T : Int), .int .i64 (C : Int), .int .i64 (Q : Int)] w (if 0 < z then 1 else P4) (if 0 < z then 1 else Q4) 0 := by
  have HV : Hid (∀ w, Calls Tryd.prog 39 #[.int .i64 f] w fun e w' => e = .returned (.bool true) ∧ w = w') := fun w => by have h := rvalid_any f w; rw [hv] at h; exact h
  have hSU := rchoose_any N (T + 1)
  have HSUB : Hid (∀ w, Calls Tryd.prog 40 #[.int .i64 (N : Int), .int .i64 ((T : Int) + 1)] w fun e w' => e = .returned (.int .i64 ((chR N (T + 1) : Nat) : Int)) ∧ w = w') := fun w => hSU w hN (by omega)
  have hch := chR_le N (by omega) (T + 1) (by omega)
  obtain ⟨B, hB⟩ : ∃ B, B = chR N (T + 1) := ⟨_, rfl⟩
  rw [← hB] at HSUB hch hof
  obtain ⟨M, hM⟩ : ∃ M, M = B * (C + 6) := ⟨_, rfl⟩
  have hMl : M ≤ 601080390 * 70 := by rw [hM]; exact Nat.mul_le_mul hch (by omega)
  rw [← hM] at hof
  obtain ⟨D, hD⟩ : ∃ D, D = B * (C - 1) := ⟨_, rfl⟩
  have hDl : D ≤ 601080390 * 63 := by rw [hD]; exact Nat.mul_le_mul hch (by omega)
  have hDM : D + 7 * B = M := by
    rw [hD, hM, Nat.mul_comm 7 B, ← Nat.mul_add, show C - 1 + 7 = C + 6 by omega]
  have hgd : IntKind.i64.wrap ((B : Int) * ((C : Int) - 1)) = (D : Int) := by
    rw [show ((C : Int) - 1) = ((C - 1 : Nat) : Int) by omega, show ((B : Int) * ((C - 1 : Nat) : Int)) = (D : Int) by rw [hD]; rfl]
    exact IntWalk.i64_in _ (by omega)
  have HWM := Lib.hid (wm_bound B D M hch hDl hDM)
  have hwT : IntKind.u64.wrap (T : Int) = (T : Int) := IntWalk.u64_in _ (by omega)
  have hwN : IntKind.u64.wrap (N : Int) = (N : Int) := IntWalk.u64_in _ (by omega)
  have HOF := Lib.hid hof; have HOF2 := Lib.hid hof2; have HPOW := Lib.hid hpow; have HADD := Lib.hid hadd
  have HMOST : Hid (∀ v w, Rt.Fv w v P4 Q4 → Calls Tryd.prog 45 #[v] w fun e w' => (∃ v, e = .returned v ∧ Rt.Fv w' v (if 0 < z then 1 else P4) (if 0 < z then 1 else Q4)) ∧ Rt.On w w') := fun v w h => least_any P4 Q4 z v w h hone hord
  have HP : Hid (∀ w, Calls Tryd.prog 42 #[.int .i64 f] w fun e w' => e = .returned (.int .u64 ((pOf f : Nat) : Int)) ∧ w = w') := fun w => rp_any f w
  obtain ⟨P5, hP5⟩ : ∃ A, A = (if 0 < z then 1 else P4) := ⟨_, rfl⟩
  obtain ⟨Q5, hQ5⟩ : ∃ A, A = (if 0 < z then 1 else Q4) := ⟨_, rfl⟩
  rw [← hP5, ← hQ5] at HMOST ⊢
  obtain ⟨p, hp⟩ : ∃ p, p = pOf f := ⟨_, rfl⟩
  rw [← hp] at HOF HP
  have HR0 := Lib.hid (Rt.PB.nil w)
  clear hv hof hof2 hpow hadd hone hord hB hM hMl hch hSU hP5 hQ5 hp hD hDM
  go_enter Tryd.func9, Tryd.ntmps9
  go_wp2_with fail
  with_reducible refine (HV.out _).mono ?_
  rintro e w' ⟨rfl, rfl⟩
  go_wp2_with fail
  with_reducible refine (HSUB.out _).mono ?_
  rintro e w' ⟨rfl, rfl⟩
  go_wp2_with fail
  (try rw [HWM.out])
  with_reducible refine (HP.out _).mono ?_
  rintro e w' ⟨rfl, rfl⟩
  go_wp2_with fail
  (try rw [HWM.out])
  with_reducible refine (HOF.out _).mono ?_
  rintro e w2 ⟨⟨v, rfl, ⟨vp, vz, rfl, hp, hz⟩⟩, hO2⟩
  have hR2 := HR0.out.on hO2
  obtain ⟨w3, hw3⟩ : ∃ w3, w3 = w2.alloc (.cells #[vp, vz] 26) := ⟨_, rfl⟩
  have hX3 : Rt.PB w w2.heap.size w3 vp vz P1 Q1 := by rw [hw3]; exact Rt.PB.make hR2.1 hp hz
  have hA3 : Rt.On w2 w3 := by rw [hw3]; exact (Rt.On.refl _).alloc _
  have HR3 := Lib.hid (hR2.on hA3); have HX3 := Lib.hid hX3
  have HW3 := Lib.hid hw3
  obtain ⟨o1, x1, o2, x2, rfl, rfl⟩ := hX3.shape
  have HSZ1 : Hid (w2.heap.size ≠ w.heap.size) := by unfold Hid; have := hO2.size; simp at this; omega
  obtain ⟨RX, hRX⟩ : ∃ R, R = w2.heap.size := ⟨_, rfl⟩
  rw [← hRX] at HX3 HSZ1
  have HRX := Lib.hid hRX
  clear hO2 hR2 hA3 hw3 hX3 hp hz hgd hDl hRX
  go_upto_region 7 with fail
  rw [← HW3.out, ← HRX.out]
  go_wp2_with fail
  with_reducible refine (HOF2.out _).mono ?_
  rintro e w4 ⟨⟨v, rfl, ⟨vp, vz, rfl, hp, hz⟩⟩, hO4⟩
  have hR4 := HR3.out.on hO4; have hX4 := HX3.out.on hO4
  obtain ⟨w5, hw5⟩ : ∃ w5, w5 = w4.alloc (.cells #[vp, vz] 26) := ⟨_, rfl⟩
  have hY5 : Rt.PB w w4.heap.size w5 vp vz P2 Q2 := by rw [hw5]; exact Rt.PB.make hR4.1 hp hz
  have hA5 : Rt.On w4 w5 := by rw [hw5]; exact (Rt.On.refl _).alloc _
  have HR5 := Lib.hid (hR4.on hA5); have HX5 := Lib.hid (hX4.on hA5); have HY5 := Lib.hid hY5
  have HSZ2 : Hid (w4.heap.size ≠ w.heap.size ∧ w4.heap.size ≠ RX) := by unfold Hid; have h1 := hR4.2.1; have h2 := hX4.2.1; omega
  have HW5 := Lib.hid hw5
  obtain ⟨o3, x3, o4, x4, rfl, rfl⟩ := hY5.shape
  obtain ⟨y1, y2⟩ := hY5.cells
  obtain ⟨RY, hRY⟩ : ∃ R, R = w4.heap.size := ⟨_, rfl⟩
  rw [← hRY] at HY5 HSZ2 y1 y2
  have HRY := Lib.hid hRY
  clear hO4 hR4 hX4 hA5 hw5 hY5 hp hz hwT hwN hRY
  go_upto_region 8 with fail
  rw [← HW5.out, ← HRY.out]
  go_wp2_with fail
  with_reducible refine (HPOW.out _ _ HY5.out.fv).mono ?_
  rintro e w6 ⟨⟨v, rfl, ⟨vp, vz, rfl, hp, hz⟩⟩, hO6⟩
  have hR6 := HR5.out.on hO6; have hX6 := HX5.out.on hO6; have hY6 := HY5.out.on hO6
  have hR7 := hY6.other hR6 HSZ2.out.1 hp hz
  have hX7 := hY6.other hX6 HSZ2.out.2 hp hz
  have hY7 := hY6.store hp hz
  obtain ⟨f1, f2, f3, f4, f5, f6⟩ := hY6.facts vp vz
  obtain ⟨o5, x5, o6, x6, rfl, rfl⟩ := hY7.shape
  have HR7 := Lib.hid hR7; have HX7 := Lib.hid hX7; have HY7 := Lib.hid hY7
  clear hO6 hR6 hX6 hY6 hR7 hX7 hY7 y1 y2 hp hz f5 f6
  go_upto_region 9 with fail
  generalize (w6.setCell ⟨RY, 0, none⟩ (.slice o5 (Rt.nl P3) x5)).setCell ⟨RY, 1, none⟩ (.slice o6 (Rt.nl Q3) x6) = w7 at *
  clear f1 f2 f3 f4
  obtain ⟨y1, y2⟩ := HY7.out.cells
  obtain ⟨z1, z2⟩ := HX7.out.cells
  go_wp2_with fail
  with_reducible refine (HADD.out _ _ _ HX7.out.fv HY7.out.fv).mono ?_
  rintro e w8 ⟨⟨v, rfl, ⟨vp, vz, rfl, hp, hz⟩⟩, hO8⟩
  have hR8 := HR7.out.on hO8; have hX8 := HX7.out.on hO8
  have hR9 := hX8.other hR8 HSZ1.out hp hz
  have hX9 := hX8.store hp hz
  obtain ⟨f1, f2, f3, f4, f5, f6⟩ := hX8.facts vp vz
  obtain ⟨o7, x7, o8, x8, rfl, rfl⟩ := hX9.shape
  have HR9 := Lib.hid hR9; have HX9 := Lib.hid hX9
  clear hO8 hR8 hX8 hR9 hX9 y1 y2 z1 z2 hp hz f5 f6
  go_upto_region 10 with fail
  generalize (w8.setCell ⟨RX, 0, none⟩ (.slice o7 (Rt.nl P4) x7)).setCell ⟨RX, 1, none⟩ (.slice o8 (Rt.nl Q4) x8) = w9 at *
  clear f1 f2 f3 f4
  obtain ⟨z1, z2⟩ := HX9.out.cells
  go_wp2_with fail
  with_reducible refine (HMOST.out _ _ HX9.out.fv).mono ?_
  rintro e w10 ⟨⟨v, rfl, ⟨vp, vz, rfl, hp, hz⟩⟩, hO10⟩
  have hR10 := HR9.out.on hO10
  obtain ⟨f1, f2, f3, f4, f5, f6⟩ := hR10.facts vp vz
  have HR11 := Lib.hid (hR10.store hp hz)
  obtain ⟨o9, x9, rfl, -, -, -⟩ := hp
  obtain ⟨o10, x10, rfl, -, -, -⟩ := hz
  clear z1 z2 hR10 hO10
  go_wp2
  (try simp only [Exit.inBlock, Exit.then])
  refine bodyPost_ret (by simp [results, Tryd.results9, go_sem, f5, f6]; try rfl) rfl ?_
  exact ⟨⟨_, rfl, HR11.out.fv⟩, HR11.out.1⟩
end Go.Proofs.YthgidehapcfciaaDoor

/- The document's own FoundBound and EqualBound; the program's answers and the document's are the same (own work). -/
namespace Go.Proofs.YthgidehapcfciaaDoor
open Go.RowKit
set_option linter.unusedVariables false
set_option linter.unusedSimpArgs false
set_option maxRecDepth 100000

set_option maxHeartbeats 1000000 in
theorem rfb_no (f n r d : Int) (w : World) (hv : validB f = false) :
    Rt.AnsF Tryd.prog 14 #[.int .i64 f, .int .i64 n, .int .i64 r, .int .i64 d] w 0 0 1 := by
  have HV : Hid (∀ w, Calls Tryd.prog 39 #[.int .i64 f] w fun e w' => e = .returned (.bool false) ∧ w = w') := fun w => by have h := rvalid_any f w; rw [hv] at h; exact h
  have HO0 : Hid (Rt.On (w.alloc (.cells #[.slice none 0 0, .slice none 0 0] 26)) (w.alloc (.cells #[.slice none 0 0, .slice none 0 0] 26))) := Rt.On.refl _
  obtain ⟨k1, k2, k3, k4, k5, k6, k7⟩ := Rt.res_facts HO0.out (.slice none 0 0) (.slice none 0 0)
  clear hv
  go_enter Tryd.func14, Tryd.ntmps14
  go_wp2_with fail
  with_reducible refine (HV.out _).mono ?_
  rintro e w' ⟨rfl, rfl⟩
  go_wp2
  (try simp only [Exit.inBlock, Exit.then])
  refine bodyPost_ret (by simp [results, Tryd.results14, go_sem, k6, k7]; try rfl) rfl ?_
  exact ⟨⟨_, rfl, Rt.Fv.zero _⟩, (Rt.On.refl w).alloc _⟩
set_option maxHeartbeats 4000000 in
theorem rfb_rng (f n r d : Int) (w : World) (hv : validB f = true) (hr : ¬ ((0 ≤ n ∧ n ≤ 1000) ∧ (0 ≤ r ∧ r ≤ 1000) ∧ (1 ≤ d ∧ d ≤ 64))) :
    Rt.AnsF Tryd.prog 14 #[.int .i64 f, .int .i64 n, .int .i64 r, .int .i64 d] w 0 0 2 := by
  have HV : Hid (∀ w, Calls Tryd.prog 39 #[.int .i64 f] w fun e w' => e = .returned (.bool true) ∧ w = w') := fun w => by have h := rvalid_any f w; rw [hv] at h; exact h
  have HO0 : Hid (Rt.On (w.alloc (.cells #[.slice none 0 0, .slice none 0 0] 26)) (w.alloc (.cells #[.slice none 0 0, .slice none 0 0] 26))) := Rt.On.refl _
  obtain ⟨k1, k2, k3, k4, k5, k6, k7⟩ := Rt.res_facts HO0.out (.slice none 0 0) (.slice none 0 0)
  clear hv
  have hcs : (n < 0) ∨ (¬ (n < 0) ∧ 1000 < n) ∨ (¬ (n < 0) ∧ ¬ (1000 < n) ∧ r < 0) ∨ (¬ (n < 0) ∧ ¬ (1000 < n) ∧ ¬ (r < 0) ∧ 1000 < r) ∨ (¬ (n < 0) ∧ ¬ (1000 < n) ∧ ¬ (r < 0) ∧ ¬ (1000 < r) ∧ d < 1) ∨ (¬ (n < 0) ∧ ¬ (1000 < n) ∧ ¬ (r < 0) ∧ ¬ (1000 < r) ∧ ¬ (d < 1) ∧ 64 < d) := by omega
  clear hr
  rcases hcs with h0 | ⟨h0, h1⟩ | ⟨h0, h1, h2⟩ | ⟨h0, h1, h2, h3⟩ | ⟨h0, h1, h2, h3, h4⟩ | ⟨h0, h1, h2, h3, h4, h5⟩
  all_goals
    go_enter Tryd.func14, Tryd.ntmps14
    go_wp2_with fail
    with_reducible refine (HV.out _).mono ?_
    rintro e w' ⟨rfl, rfl⟩
    go_wp2
    (try simp only [Exit.inBlock, Exit.then])
    refine bodyPost_ret (by simp [results, Tryd.results14, go_sem, k6, k7]; try rfl) rfl ?_
    exact ⟨⟨_, rfl, Rt.Fv.zero _⟩, (Rt.On.refl w).alloc _⟩
set_option maxHeartbeats 2000000 in
theorem rfb_yes (f n r d : Int) (G V P1 Q1 : Nat) (c1 z : Int) (w : World) (hv : validB f = true) (hn : 0 ≤ n ∧ n ≤ 1000) (hr : 0 ≤ r ∧ r ≤ 1000) (hd : 1 ≤ d ∧ d ≤ 64) (hG : max 0 (n + r - 1) = (G : Int)) (hV : max 1 (d - 1) = (V : Int))
    (hof : ∀ w, Rt.AnsF Tryd.prog 41 #[.int .u64 ((G * V : Nat) : Int), .int .u64 ((pOf f : Nat) : Int)] w P1 Q1 c1)
    (hone : ∀ w, Rt.AnsF Tryd.prog 41 #[.int .u64 1, .int .u64 1] w 1 1 0)
    (hord : ∀ v v' w, Rt.Fv w v P1 Q1 → Rt.Fv w v' 1 1 → Rt.AnsE Tryd.prog 87 #[v, v'] w (.int .i64 z)) :
    Rt.AnsF Tryd.prog 14 #[.int .i64 f, .int .i64 n, .int .i64 r, .int .i64 d] w (if 0 < z then 1 else P1) (if 0 < z then 1 else Q1) 0 := by
  have HV : Hid (∀ w, Calls Tryd.prog 39 #[.int .i64 f] w fun e w' => e = .returned (.bool true) ∧ w = w') := fun w => by have h := rvalid_any f w; rw [hv] at h; exact h
  have hGl : G ≤ 1999 := by omega
  have hVl : V ≤ 63 := by omega
  obtain ⟨M, hM⟩ : ∃ M, M = G * V := ⟨_, rfl⟩
  have hMl : M ≤ 1999 * 63 := by rw [hM]; exact Nat.mul_le_mul hGl hVl
  rw [← hM] at hof
  have hgv : IntKind.i64.wrap ((G : Int) * (V : Int)) = (M : Int) := by
    rw [show ((G : Int) * (V : Int)) = (M : Int) by rw [hM]; rfl]
    exact IntWalk.i64_in _ (by omega)
  have hw2 : IntKind.u64.wrap (M : Int) = (M : Int) := IntWalk.u64_in _ (by omega)
  have hm1 : ∀ w, (Builtin.max_ #[3, 3] 3 #[.int .i64 0, .int .i64 (n + r - 1)]).run Tryd.prog w = .ok (.int .i64 (G : Int)) w := fun w => by
    rw [← hG]
    simp only [Builtin.max_, List.foldlM_cons, List.foldlM_nil, Builtin.max2]
    simp [Sem.run_bind]
    try (repeat' split) <;> (try simp) <;> omega
  have hm2 : ∀ w, (Builtin.max_ #[3, 3] 3 #[.int .i64 1, .int .i64 (d - 1)]).run Tryd.prog w = .ok (.int .i64 (V : Int)) w := fun w => by
    rw [← hV]
    simp only [Builtin.max_, List.foldlM_cons, List.foldlM_nil, Builtin.max2]
    simp [Sem.run_bind]
    try (repeat' split) <;> (try simp) <;> omega
  have HOF := Lib.hid hof
  have HMOST : Hid (∀ v w, Rt.Fv w v P1 Q1 → Calls Tryd.prog 45 #[v] w fun e w' => (∃ v, e = .returned v ∧ Rt.Fv w' v (if 0 < z then 1 else P1) (if 0 < z then 1 else Q1)) ∧ Rt.On w w') := fun v w h => least_any P1 Q1 z v w h hone hord
  have HP : Hid (∀ w, Calls Tryd.prog 42 #[.int .i64 f] w fun e w' => e = .returned (.int .u64 ((pOf f : Nat) : Int)) ∧ w = w') := fun w => rp_any f w
  obtain ⟨P5, hP5⟩ : ∃ A, A = (if 0 < z then 1 else P1) := ⟨_, rfl⟩
  obtain ⟨Q5, hQ5⟩ : ∃ A, A = (if 0 < z then 1 else Q1) := ⟨_, rfl⟩
  rw [← hP5, ← hQ5] at HMOST ⊢
  obtain ⟨p, hp⟩ : ∃ p, p = pOf f := ⟨_, rfl⟩
  rw [← hp] at HOF HP
  have HR0 := Lib.hid (Rt.PB.nil w)
  clear hv hof hone hord hM hMl hP5 hQ5 hp hG hV hGl hVl
  go_enter Tryd.func14, Tryd.ntmps14
  go_wp2_with fail
  with_reducible refine (HV.out _).mono ?_
  rintro e w' ⟨rfl, rfl⟩
  go_wp2_with fail
  with_reducible refine (HP.out _).mono ?_
  rintro e w' ⟨rfl, rfl⟩
  go_wp2_with fail
  with_reducible refine (HOF.out _).mono ?_
  rintro e w2 ⟨⟨v, rfl, ⟨vp, vz, rfl, hp, hz⟩⟩, hO2⟩
  have hR2 := HR0.out.on hO2
  obtain ⟨w3, hw3⟩ : ∃ w3, w3 = w2.alloc (.cells #[vp, vz] 26) := ⟨_, rfl⟩
  have hX3 : Rt.PB w w2.heap.size w3 vp vz P1 Q1 := by rw [hw3]; exact Rt.PB.make hR2.1 hp hz
  have hA3 : Rt.On w2 w3 := by rw [hw3]; exact (Rt.On.refl _).alloc _
  have HR3 := Lib.hid (hR2.on hA3); have HX3 := Lib.hid hX3
  have HW3 := Lib.hid hw3
  obtain ⟨o1, x1, o2, x2, rfl, rfl⟩ := hX3.shape
  obtain ⟨z1, z2⟩ := hX3.cells
  clear hO2 hR2 hA3 hw3 hX3 hp hz hgv hw2 hm1 hm2
  go_upto_region 6 with fail
  rw [← HW3.out]
  go_wp2_with fail
  with_reducible refine (HMOST.out _ _ HX3.out.fv).mono ?_
  rintro e w10 ⟨⟨v, rfl, ⟨vp, vz, rfl, hp, hz⟩⟩, hO10⟩
  have hR10 := HR3.out.on hO10
  obtain ⟨f1, f2, f3, f4, f5, f6⟩ := hR10.facts vp vz
  have HR11 := Lib.hid (hR10.store hp hz)
  obtain ⟨o9, x9, rfl, -, -, -⟩ := hp
  obtain ⟨o10, x10, rfl, -, -, -⟩ := hz
  clear z1 z2 hR10 hO10
  go_wp2
  (try simp only [Exit.inBlock, Exit.then])
  refine bodyPost_ret (by simp [results, Tryd.results14, go_sem, f5, f6]; try rfl) rfl ?_
  exact ⟨⟨_, rfl, HR11.out.fv⟩, HR11.out.1⟩
set_option maxHeartbeats 1000000 in
theorem req_any (f n d : Int) (P Q : Nat) (c : Int) (w : World)
    (ht : ∀ w', Rt.AnsF Tryd.prog 14 #[.int .i64 f, .int .i64 n, .int .i64 1, .int .i64 d] w' P Q c) :
    Rt.AnsF Tryd.prog 12 #[.int .i64 f, .int .i64 n, .int .i64 d] w P Q c := by
  have HT := Lib.hid (ht (w.alloc (.cells #[.slice none 0 0, .slice none 0 0] 26)))
  clear ht
  go_enter Tryd.func12, Tryd.ntmps12
  go_wp2_with fail
  with_reducible refine HT.out.mono ?_
  rintro e w8 ⟨⟨v, rfl, ⟨vp, vz, rfl, hp, hz⟩⟩, hO8⟩
  have HO8 := Lib.hid hO8
  have HP8 := Lib.hid hp; have HZ8 := Lib.hid hz
  obtain ⟨o7, x7, rfl, -, -, -⟩ := hp
  obtain ⟨o8, x8, rfl, -, -, -⟩ := hz
  obtain ⟨k1, k2, k3, k4, k5, k6, k7⟩ := Rt.res_facts HO8.out (.slice o7 (Rt.nl P) x7) (.slice o8 (Rt.nl Q) x8)
  clear hO8
  go_wp2
  (try simp only [Exit.inBlock, Exit.then])
  refine bodyPost_ret (by simp [results, Tryd.results12, go_sem, k6, k7]; try rfl) rfl ?_
  have hE := Rt.res_end HO8.out HP8.out HZ8.out
  exact ⟨⟨_, rfl, hE.1⟩, hE.2⟩
theorem fv_gz {w : World} {v : Value} {P Q : Nat} (h : Rt.Fv w v P Q) : Rt.Gz w v (Rt.nl P) P (Rt.nl Q) Q := (Rt.Fv.fu h).gz
theorem pOf_pos2 {f : Int} (hv : validB f = true) : 0 < pOf f := by
  unfold validB at hv
  have h := of_decide_eq_true hv
  unfold pOf
  obtain rfl | rfl | rfl | rfl : f = 0 ∨ f = 1 ∨ f = 2 ∨ f = 3 := by omega
  all_goals decide
theorem of_both (x y : Nat) (hx : x ≤ 18446744073709551615) (hy : y ≤ 18446744073709551615) (h0 : 0 < y) : ∃ P Q c, (∀ w, Rt.AnsF Tryd.prog 34 #[.int .u64 (x : Int), .int .u64 (y : Int)] w P Q c) ∧ ∀ w, Rt.AnsF Tryd.prog 41 #[.int .u64 (x : Int), .int .u64 (y : Int)] w P Q c :=
  ⟨_, _, _, fun w => Rt.Of_f x y w hx hy h0, fun w => Rt.rOf_yes x y w hx hy h0⟩
theorem one_both : (∀ w, Rt.AnsF Tryd.prog 34 #[.int .u64 1, .int .u64 1] w 1 1 0) ∧ ∀ w, Rt.AnsF Tryd.prog 41 #[.int .u64 1, .int .u64 1] w 1 1 0 := by
  refine ⟨fun w => ?_, fun w => ?_⟩
  · have h := Rt.Of_f 1 1 w (by decide) (by decide) (by decide)
    rwa [show 1 / Nat.gcd 1 1 = 1 by decide] at h
  · have h := Rt.rOf_yes 1 1 w (by decide) (by decide) (by decide)
    rwa [show 1 / Nat.gcd 1 1 = 1 by decide] at h
/-- Bound: the program's answer and the document's. -/
theorem bound_pair (f n t c q : Int) : ∃ P Q e, (∀ w, Tab w → Rt.AnsF Tryd.prog 8 #[.int .i64 f, .int .i64 n, .int .i64 t, .int .i64 c, .int .i64 q] w P Q e) ∧
    ∀ w, Rt.AnsF Tryd.prog 9 #[.int .i64 f, .int .i64 n, .int .i64 t, .int .i64 c, .int .i64 q] w P Q e := by
  cases hv : validB f
  · exact ⟨0, 0, 1, fun w _ => bound_no f n t c q w hv, fun w => rbound_no f n t c q w hv⟩
  · by_cases hr : ((1 ≤ n ∧ n ≤ 32) ∧ (0 ≤ t ∧ t ≤ n) ∧ (1 ≤ c ∧ c ≤ 64) ∧ (0 ≤ q ∧ q ≤ 64))
    · obtain ⟨N, rfl⟩ : ∃ N : Nat, n = N := ⟨n.toNat, by omega⟩
      obtain ⟨T, rfl⟩ : ∃ N : Nat, t = N := ⟨t.toNat, by omega⟩
      obtain ⟨C, rfl⟩ : ∃ N : Nat, c = N := ⟨c.toNat, by omega⟩
      obtain ⟨K, rfl⟩ : ∃ N : Nat, q = N := ⟨q.toNat, by omega⟩
      have hch := chR_le N (by omega) (T + 1) (by omega)
      have hb : chR N (T + 1) * (C + 6) ≤ 601080390 * 70 := Nat.mul_le_mul hch (by omega)
      have hpl := pOf_le f
      obtain ⟨P1, Q1, c1, o1, r1⟩ := of_both (chR N (T + 1) * (C + 6)) (pOf f) (by omega) (by omega) (pOf_pos2 hv)
      obtain ⟨P2, Q2, c2, o2, r2⟩ := of_both T N (by omega) (by omega) (by omega)
      obtain ⟨P3, Q3, c3, o3, r3⟩ := Rt.fpower_pair (Rt.nl P2) P2 (Rt.nl Q2) Q2 (K : Int) (Rt.lt_nl P2) (Rt.lt_nl Q2)
      obtain ⟨P4, Q4, c4, o4, r4⟩ := Rt.fadd_pair (Rt.lt_nl P1) (Rt.lt_nl Q1) (Rt.lt_nl P3) (Rt.lt_nl Q3)
      obtain ⟨z, o5, r5⟩ := Rt.forder_pair (Rt.lt_nl P4) (Rt.lt_nl Q4) (Rt.lt_nl 1) (Rt.lt_nl 1)
      exact ⟨_, _, _, fun w hT => bound_yes f N T C K P1 Q1 P2 Q2 P3 Q3 P4 Q4 c1 c2 c3 c4 z w hT hv (by omega) (by omega) (by omega) (by omega) (by omega) (by omega) o1 o2
          (fun v w h => o3 v w (fv_gz h)) (fun v v' w h h' => o4 v v' w (fv_gz h) (fv_gz h')) one_both.1 (fun v v' w h h' => o5 v v' w (fv_gz h) (fv_gz h')),
        fun w => rbound_yes f N T C K P1 Q1 P2 Q2 P3 Q3 P4 Q4 c1 c2 c3 c4 z w hv (by omega) (by omega) (by omega) (by omega) (by omega) (by omega) r1 r2
          (fun v w h => r3 v w (fv_gz h)) (fun v v' w h h' => r4 v v' w (fv_gz h) (fv_gz h')) one_both.2 (fun v v' w h h' => r5 v v' w (fv_gz h) (fv_gz h'))⟩
    · exact ⟨0, 0, 2, fun w _ => bound_rng f n t c q w hv hr, fun w => rbound_rng f n t c q w hv hr⟩
/-- FoundBound: the program's answer and the document's. -/
theorem found_pair (f n r d : Int) : ∃ P Q e, (∀ w, Tab w → Rt.AnsF Tryd.prog 13 #[.int .i64 f, .int .i64 n, .int .i64 r, .int .i64 d] w P Q e) ∧
    ∀ w, Rt.AnsF Tryd.prog 14 #[.int .i64 f, .int .i64 n, .int .i64 r, .int .i64 d] w P Q e := by
  cases hv : validB f
  · exact ⟨0, 0, 1, fun w hT => fdb_any f n r d 0 0 1 w (fun w' _ => tb_no f n r _ d w' hv) hT, fun w => rfb_no f n r d w hv⟩
  · by_cases hr : ((0 ≤ n ∧ n ≤ 1000) ∧ (0 ≤ r ∧ r ≤ 1000) ∧ (1 ≤ d ∧ d ≤ 64))
    · obtain ⟨h1, h2, h3⟩ := hr
      have hw : wrap64 (wrap64 (n + r) - 1) = n + r - 1 := by
        rw [IntWalk.wrap64_in (n + r) (by omega), IntWalk.wrap64_in _ (by omega)]
      obtain ⟨G, hG⟩ : ∃ G : Nat, max 0 (n + r - 1) = (G : Int) := ⟨(max 0 (n + r - 1)).toNat, by omega⟩
      obtain ⟨V, hV⟩ : ∃ V : Nat, max 1 (d - 1) = (V : Int) := ⟨(max 1 (d - 1)).toNat, by omega⟩
      have hG2 : max 0 (wrap64 (wrap64 (n + r) - 1)) = (G : Int) := by rw [hw]; exact hG
      have hgl : G ≤ 1999 := by omega
      have hb : G * V ≤ 1999 * 63 := Nat.mul_le_mul hgl (by omega)
      have hpl := pOf_le f
      obtain ⟨P1, Q1, c1, o1, r1⟩ := of_both (G * V) (pOf f) (by omega) (by omega) (pOf_pos2 hv)
      obtain ⟨z, o5, r5⟩ := Rt.forder_pair (Rt.lt_nl P1) (Rt.lt_nl Q1) (Rt.lt_nl 1) (Rt.lt_nl 1)
      exact ⟨_, _, _, fun w hT => fdb_any f n r d _ _ 0 w (fun w' h => tb_yes f n r _ d G V P1 Q1 c1 z w' h.tab hv h1 h2 h3 hG2 hgl hV o1 one_both.1 (fun v v' w h h' => o5 v v' w (fv_gz h) (fv_gz h'))) hT,
        fun w => rfb_yes f n r d G V P1 Q1 c1 z w hv h1 h2 h3 hG hV r1 one_both.2 (fun v v' w h h' => r5 v v' w (fv_gz h) (fv_gz h'))⟩
    · exact ⟨0, 0, 2, fun w hT => fdb_any f n r d 0 0 2 w (fun w' _ => tb_rng f n r _ d w' hv hr) hT, fun w => rfb_rng f n r d w hv hr⟩
/-- EqualBound: the program's answer and the document's. -/
theorem equal_pair (f n d : Int) : ∃ P Q e, (∀ w, Tab w → Rt.AnsF Tryd.prog 11 #[.int .i64 f, .int .i64 n, .int .i64 d] w P Q e) ∧
    ∀ w, Rt.AnsF Tryd.prog 12 #[.int .i64 f, .int .i64 n, .int .i64 d] w P Q e := by
  cases hv : validB f
  · exact ⟨0, 0, 1, fun w hT => eqb_any f n d 0 0 1 w (fun w' _ => tb_no f n 0 n d w' hv) hT, fun w => req_any f n d 0 0 1 w fun w' => rfb_no f n 1 d w' hv⟩
  · by_cases hr : ((0 ≤ n ∧ n ≤ 1000) ∧ (1 ≤ d ∧ d ≤ 64))
    · obtain ⟨h1, h3⟩ := hr
      obtain ⟨G, hG⟩ : ∃ G : Nat, max 0 n = (G : Int) := ⟨(max 0 n).toNat, by omega⟩
      obtain ⟨V, hV⟩ : ∃ V : Nat, max 1 (d - 1) = (V : Int) := ⟨(max 1 (d - 1)).toNat, by omega⟩
      have hG2 : max 0 (n + 1 - 1) = (G : Int) := by rw [show n + 1 - 1 = n by omega]; exact hG
      have hgl : G ≤ 1999 := by omega
      have hb : G * V ≤ 1999 * 63 := Nat.mul_le_mul hgl (by omega)
      have hpl := pOf_le f
      obtain ⟨P1, Q1, c1, o1, r1⟩ := of_both (G * V) (pOf f) (by omega) (by omega) (pOf_pos2 hv)
      obtain ⟨z, o5, r5⟩ := Rt.forder_pair (Rt.lt_nl P1) (Rt.lt_nl Q1) (Rt.lt_nl 1) (Rt.lt_nl 1)
      exact ⟨_, _, _, fun w hT => eqb_any f n d _ _ 0 w (fun w' h => tb_yes f n 0 n d G V P1 Q1 c1 z w' h.tab hv h1 (by omega) h3 hG hgl hV o1 one_both.1 (fun v v' w h h' => o5 v v' w (fv_gz h) (fv_gz h'))) hT,
        fun w => req_any f n d _ _ 0 w fun w' => rfb_yes f n 1 d G V P1 Q1 c1 z w' hv h1 (by omega) h3 hG2 hV r1 one_both.2 (fun v v' w h h' => r5 v v' w (fv_gz h) (fv_gz h'))⟩
    · exact ⟨0, 0, 2, fun w hT => eqb_any f n d 0 0 2 w (fun w' _ => tb_rng f n 0 n d w' hv (fun h => hr ⟨h.1, h.2.2⟩)) hT, fun w => req_any f n d 0 0 2 w fun w' => rfb_rng f n 1 d w' hv (fun h => hr ⟨h.1, h.2.2⟩)⟩
end Go.Proofs.YthgidehapcfciaaDoor

/- The walk of the law GapBounds: it returns true (own work). -/
namespace Go.Proofs.YthgidehapcfciaaDoor
open Go.RowKit
set_option linter.unusedVariables false
set_option linter.unusedSimpArgs false
set_option maxRecDepth 100000

set_option maxHeartbeats 4000000 in
theorem bounds_any (f x0 x1 x2 x3 : Int) (w : World) (hT : Tab w) :
    Calls Tryd.prog 3 #[.int .i64 f, .agg #[.int .i64 x0, .int .i64 x1, .int .i64 x2, .int .i64 x3]] w fun e w' => e = .returned (.bool true) ∧ On w w' := by
  obtain ⟨w1, hw1⟩ : ∃ w1, w1 = w.alloc (.cells #[.int .i64 x0, .int .i64 x1, .int .i64 x2, .int .i64 x3] 22) := ⟨_, rfl⟩
  have hO1 : On w w1 := by rw [hw1]; exact (On.refl hT).alloc _
  have hs1 : w.heap.size < w1.heap.size := by rw [hw1]; simp
  have hc : w1.cell? ⟨w.heap.size, 0, none⟩ = some (.int .i64 x0) ∧ w1.cell? ⟨w.heap.size, 1, none⟩ = some (.int .i64 x1) ∧ w1.cell? ⟨w.heap.size, 2, none⟩ = some (.int .i64 x2) ∧ w1.cell? ⟨w.heap.size, 3, none⟩ = some (.int .i64 x3) := by
    rw [hw1]
    refine ⟨?_, ?_, ?_, ?_⟩
    all_goals (rw [World.cell?_alloc_new]; rfl)
  have HAR : Hid (∀ w', Rt.On w1 w' → w'.cell? ⟨w.heap.size, 0, none⟩ = some (.int .i64 x0) ∧ w'.cell? ⟨w.heap.size, 1, none⟩ = some (.int .i64 x1) ∧ w'.cell? ⟨w.heap.size, 2, none⟩ = some (.int .i64 x2) ∧ w'.cell? ⟨w.heap.size, 3, none⟩ = some (.int .i64 x3)) := fun w' k => by
    obtain ⟨h0, h1, h2, h3⟩ := hc
    exact ⟨(Below.cell k (p := ⟨w.heap.size, 0, none⟩) hs1).trans h0, (Below.cell k (p := ⟨w.heap.size, 1, none⟩) hs1).trans h1, (Below.cell k (p := ⟨w.heap.size, 2, none⟩) hs1).trans h2, (Below.cell k (p := ⟨w.heap.size, 3, none⟩) hs1).trans h3⟩
  have HTB : Hid (∀ w', Rt.On w1 w' → Tab w') := fun w' k => (on_rt k hO1.tab).tab
  obtain ⟨P1, Q1, e1, b1, r1⟩ := bound_pair f x0 x1 x2 x3
  obtain ⟨P2, Q2, e2, b2, r2⟩ := equal_pair f x0 x1
  obtain ⟨P3, Q3, e3, b3, r3⟩ := found_pair f x0 x2 x1
  have HB1 := Lib.hid b1; have HR1 := Lib.hid r1; have HB2 := Lib.hid b2; have HR2 := Lib.hid r2; have HB3 := Lib.hid b3; have HR3 := Lib.hid r3
  have HW1 := Lib.hid hw1; have HO1 := Lib.hid hO1
  have HWK : Hid (∀ w, Tab w → Calls Tryd.prog 15 #[] w fun e w' => e = .returned (.bool true) ∧ On w w') := fun w h => gworks_any w h
  obtain ⟨A, hA⟩ : ∃ A, A = w.heap.size := ⟨_, rfl⟩
  rw [← hA] at HAR
  have HA := Lib.hid hA
  clear hT hw1 hO1 hs1 hc b1 r1 b2 r2 b3 r3 hA
  go_enter Tryd.func3, Tryd.ntmps3
  go_upto_region 1 with fail
  rw [← HW1.out, ← HA.out]
  obtain ⟨a0, a1, a2, a3⟩ := HAR.out _ (Rt.On.refl w1)
  go_wp2_with fail
  with_reducible refine (HB1.out _ (HTB.out _ (Rt.On.refl w1))).mono ?_
  rintro e w2 ⟨⟨v, rfl, ⟨vp, vz, rfl, hp, hz⟩⟩, hO2⟩
  obtain ⟨w3, hw3⟩ : ∃ w3, w3 = w2.alloc (.cells #[vp, vz] 26) := ⟨_, rfl⟩
  have hX3 : Rt.PB w1 w2.heap.size w3 vp vz P1 Q1 := by rw [hw3]; exact Rt.PB.make hO2 hp hz
  have HX3 := Lib.hid hX3
  have HW3 := Lib.hid hw3
  obtain ⟨o1, y1, o2, y2, rfl, rfl⟩ := hX3.shape
  obtain ⟨RX, hRX⟩ : ∃ R, R = w2.heap.size := ⟨_, rfl⟩
  rw [← hRX] at HX3
  have HRX := Lib.hid hRX
  clear a0 a1 a2 a3 hp hz hw3 hX3 hO2 hRX
  go_upto_region 2 with fail
  rw [← HW3.out, ← HRX.out]
  obtain ⟨a0, a1, a2, a3⟩ := HAR.out _ HX3.out.1
  go_wp2_with fail
  with_reducible refine (HR1.out _).mono ?_
  rintro e w4 ⟨⟨v, rfl, ⟨vp, vz, rfl, hp, hz⟩⟩, hO4⟩
  have hX4 := HX3.out.on hO4
  obtain ⟨w5, hw5⟩ : ∃ w5, w5 = w4.alloc (.cells #[vp, vz] 26) := ⟨_, rfl⟩
  have hY5 : Rt.PB w1 w4.heap.size w5 vp vz P1 Q1 := by rw [hw5]; exact Rt.PB.make hX4.1 hp hz
  have hX5 := hX4.on (show Rt.On w4 w5 by rw [hw5]; exact (Rt.On.refl _).alloc _)
  have HNE : Hid (w4.heap.size ≠ RX) := by unfold Hid; have := hX4.2.1; omega
  have HX5 := Lib.hid hX5; have HY5 := Lib.hid hY5
  have HW5 := Lib.hid hw5
  obtain ⟨o3, y3, o4, y4, rfl, rfl⟩ := hY5.shape
  obtain ⟨RY, hRY⟩ : ∃ R, R = w4.heap.size := ⟨_, rfl⟩
  rw [← hRY] at HY5 HNE
  have HRY := Lib.hid hRY
  clear a0 a1 a2 a3 hp hz hw5 hX4 hX5 hY5 hO4 hRY
  go_upto_region 3 with fail
  rw [← HW5.out, ← HRY.out]
  obtain ⟨z1, z2⟩ := HX5.out.cells
  obtain ⟨z3, z4⟩ := HY5.out.cells
  go_wp2_with fail
  with_reducible refine (Rt.rsame_fv _ _ P1 Q1 _ HX5.out.fv HY5.out.fv).mono ?_
  rintro e w6 ⟨rfl, hO6⟩
  have HX6 := Lib.hid (HX5.out.on hO6); have HY6 := Lib.hid (HY5.out.on hO6)
  clear z1 z2 z3 z4 hO6
  go_upto_region 5 with fail
  obtain ⟨a0, a1, a2, a3⟩ := HAR.out _ HX6.out.1
  have hTb := HTB.out _ HX6.out.1
  go_wp2_with fail
  with_reducible refine (HB2.out _ hTb).mono ?_
  rintro e w7 ⟨⟨v, rfl, ⟨vp, vz, rfl, hp, hz⟩⟩, hO⟩
  have hX := HX6.out.on hO; have hY := HY6.out.on hO
  have hYn := hX.other hY HNE.out.symm hp hz
  have hXn := hX.store hp hz
  obtain ⟨f1, f2, f3, f4, f5, f6⟩ := hX.facts vp vz
  obtain ⟨o5, y5, o6, y6, rfl, rfl⟩ := hXn.shape
  have HX8 := Lib.hid hXn; have HY8 := Lib.hid hYn
  clear a0 a1 a2 a3 hTb hO hX hY hXn hYn hp hz f5 f6
  go_upto_region 6 with fail
  generalize (w7.setCell ⟨RX, 0, none⟩ (.slice o5 (Rt.nl P2) y5)).setCell ⟨RX, 1, none⟩ (.slice o6 (Rt.nl Q2) y6) = w8 at *
  clear f1 f2 f3 f4
  obtain ⟨a0, a1, a2, a3⟩ := HAR.out _ HX8.out.1
  have hTb := HTB.out _ HX8.out.1
  go_wp2_with fail
  with_reducible refine (HR2.out _).mono ?_
  rintro e w9 ⟨⟨v, rfl, ⟨vp, vz, rfl, hp, hz⟩⟩, hO⟩
  have hX := HX8.out.on hO; have hY := HY8.out.on hO
  have hXn := hY.other hX HNE.out hp hz
  have hYn := hY.store hp hz
  obtain ⟨f1, f2, f3, f4, f5, f6⟩ := hY.facts vp vz
  obtain ⟨o5, y5, o6, y6, rfl, rfl⟩ := hYn.shape
  have HX10 := Lib.hid hXn; have HY10 := Lib.hid hYn
  clear a0 a1 a2 a3 hTb hO hX hY hXn hYn hp hz f5 f6
  go_upto_region 7 with fail
  generalize (w9.setCell ⟨RY, 0, none⟩ (.slice o5 (Rt.nl P2) y5)).setCell ⟨RY, 1, none⟩ (.slice o6 (Rt.nl Q2) y6) = w10 at *
  clear f1 f2 f3 f4
  obtain ⟨z1, z2⟩ := HX10.out.cells
  obtain ⟨z3, z4⟩ := HY10.out.cells
  go_wp2_with fail
  with_reducible refine (Rt.rsame_fv _ _ P2 Q2 _ HX10.out.fv HY10.out.fv).mono ?_
  rintro e w11 ⟨rfl, hO6⟩
  have HX11 := Lib.hid (HX10.out.on hO6); have HY11 := Lib.hid (HY10.out.on hO6)
  clear z1 z2 z3 z4 hO6
  go_upto_region 9 with fail
  obtain ⟨a0, a1, a2, a3⟩ := HAR.out _ HX11.out.1
  have hTb := HTB.out _ HX11.out.1
  go_wp2_with fail
  with_reducible refine (HB3.out _ hTb).mono ?_
  rintro e w12 ⟨⟨v, rfl, ⟨vp, vz, rfl, hp, hz⟩⟩, hO⟩
  have hX := HX11.out.on hO; have hY := HY11.out.on hO
  have hYn := hX.other hY HNE.out.symm hp hz
  have hXn := hX.store hp hz
  obtain ⟨f1, f2, f3, f4, f5, f6⟩ := hX.facts vp vz
  obtain ⟨o5, y5, o6, y6, rfl, rfl⟩ := hXn.shape
  have HX13 := Lib.hid hXn; have HY13 := Lib.hid hYn
  clear a0 a1 a2 a3 hTb hO hX hY hXn hYn hp hz f5 f6
  go_upto_region 10 with fail
  generalize (w12.setCell ⟨RX, 0, none⟩ (.slice o5 (Rt.nl P3) y5)).setCell ⟨RX, 1, none⟩ (.slice o6 (Rt.nl Q3) y6) = w13 at *
  clear f1 f2 f3 f4
  obtain ⟨a0, a1, a2, a3⟩ := HAR.out _ HX13.out.1
  have hTb := HTB.out _ HX13.out.1
  go_wp2_with fail
  with_reducible refine (HR3.out _).mono ?_
  rintro e w14 ⟨⟨v, rfl, ⟨vp, vz, rfl, hp, hz⟩⟩, hO⟩
  have hX := HX13.out.on hO; have hY := HY13.out.on hO
  have hXn := hY.other hX HNE.out hp hz
  have hYn := hY.store hp hz
  obtain ⟨f1, f2, f3, f4, f5, f6⟩ := hY.facts vp vz
  obtain ⟨o5, y5, o6, y6, rfl, rfl⟩ := hYn.shape
  have HX15 := Lib.hid hXn; have HY15 := Lib.hid hYn
  clear a0 a1 a2 a3 hTb hO hX hY hXn hYn hp hz f5 f6
  go_upto_region 11 with fail
  generalize (w14.setCell ⟨RY, 0, none⟩ (.slice o5 (Rt.nl P3) y5)).setCell ⟨RY, 1, none⟩ (.slice o6 (Rt.nl Q3) y6) = w15 at *
  clear f1 f2 f3 f4
  obtain ⟨z1, z2⟩ := HX15.out.cells
  obtain ⟨z3, z4⟩ := HY15.out.cells
  go_wp2_with fail
  with_reducible refine (Rt.rsame_fv _ _ P3 Q3 _ HX15.out.fv HY15.out.fv).mono ?_
  rintro e w16 ⟨rfl, hO6⟩
  have HX16 := Lib.hid (HX15.out.on hO6); have HY16 := Lib.hid (HY15.out.on hO6)
  clear z1 z2 z3 z4 hO6
  have HOZ : Hid (On w w16) := HO1.out.trans (on_rt HX16.out.1 HO1.out.tab)
  go_wp2_with fail
  with_reducible refine (HWK.out _ HOZ.out.tab).mono ?_
  rintro e w17 ⟨rfl, hO17⟩
  have HO17 := Lib.hid (HOZ.out.trans hO17)
  clear hO17
  go_wp2
  go_ret
  exact ⟨rfl, HO17.out⟩
end Go.Proofs.YthgidehapcfciaaDoor
