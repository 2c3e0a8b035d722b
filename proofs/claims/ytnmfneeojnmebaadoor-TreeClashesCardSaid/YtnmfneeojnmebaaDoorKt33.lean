/- The walk of the law TreeClashes: it returns true. -/
import Derived.Test.YtnmfneeojnmebaaDoorKt24
import Derived.Test.YtnmfneeojnmebaaDoorKt31
import Derived.Test.YtnmfneeojnmebaaDoorKt20
import Derived.Test.YtnmfneeojnmebaaDoorKt32
import Derived.Deep.CutBlock
set_option linter.unusedSimpArgs false
set_option linter.unusedVariables false
/- The walk of the law TreeClashes: it returns true. -/
namespace Go.Proofs.YtnmfneeojnmebaaDoor
open Go.RowKit
set_option linter.unusedVariables false
set_option linter.unusedSimpArgs false

theorem take_smc {l : List Dg} (h : ∀ t, t < l.length → SmD (l.getD t zD)) (n : Nat) : ∀ j, j < (l.take n).length → SmD ((l.take n).getD j zD) := fun j hj => by
  rw [List.length_take] at hj
  have e : (l.take n).getD j zD = l.getD j zD := by rw [List.getD_eq_getElem?_getD, List.getD_eq_getElem?_getD, List.getElem?_take, if_pos (by omega)]
  rw [e]; exact h j (by omega)
set_option maxHeartbeats 2000000 in
set_option maxRecDepth 100000 in
theorem clashes_any (f : Int) (i : Int) (a b : Dg) (pv qv : Value) (p0 q0 : List Dg) (w : World) (hT : TZ w) (hi : i ≤ 9223372036854775807) (ha : SmD a) (hb : SmD b) (hP : DRw w pv p0) (hPS : ShapeD pv p0) (hQ : DRw w qv q0) (hQS : ShapeD qv q0) :
    Calls Tryd.prog 6 #[.int .i64 f, .agg #[.int .i64 i, .int .u64 ((a.1 : Nat) : Int), .int .u64 ((a.2 : Nat) : Int), .int .u64 ((b.1 : Nat) : Int), .int .u64 ((b.2 : Nat) : Int), pv, qv]] w fun e w' => e = .returned (.bool true) ∧ On w w' := by
  have hPS0 := hPS
  have hQS0 := hQS
  obtain ⟨pa, pc, rfl, hp1, hp2, hp3⟩ := hPS
  obtain ⟨qa, qc, rfl, hq1, hq2, hq3⟩ := hQS
  obtain ⟨p, hp⟩ : ∃ p, p = p0.take 20 := ⟨_, rfl⟩
  obtain ⟨q, hq⟩ : ∃ q, q = q0.take 20 := ⟨_, rfl⟩
  have HCU1 : Hid (∀ u, On w u → Calls Tryd.prog 12 #[.slice pa p0.length pc, .int .i64 20] u fun e w' => (∃ v', e = .returned v' ∧ OD u.heap.size w' v' p) ∧ On u w') := fun u hu => by rw [hp]; exact cutw_any p0 20 _ u hu.tab (hP.onw hu) hPS0 (by decide)
  have HCU2 : Hid (∀ u, On w u → Calls Tryd.prog 12 #[.slice qa q0.length qc, .int .i64 20] u fun e w' => (∃ v', e = .returned v' ∧ OD u.heap.size w' v' q) ∧ On u w') := fun u hu => by rw [hq]; exact cutw_any q0 20 _ u hu.tab (hQ.onw hu) hQS0 (by decide)
  have HLP : Hid (p.length ≤ 4611686018427387903) := by refine Lib.hid ?_; rw [hp, List.length_take]; omega
  have HLQ : Hid (q.length ≤ 4611686018427387903) := by refine Lib.hid ?_; rw [hq, List.length_take]; omega
  have HSP : Hid (∀ j, j < p.length → SmD (p.getD j zD)) := by rw [hp]; exact take_smc hP.1 20
  have HSQ : Hid (∀ j, j < q.length → SmD (q.getD j zD)) := by rw [hq]; exact take_smc hQ.1 20
  obtain ⟨R, hR⟩ : ∃ R, R = clashV f i a b p q := ⟨_, rfl⟩
  have HC1 : Hid (∀ {va vb : Value} u, On w u → DR u va p → DR u vb q → Calls Tryd.prog 31 #[.int .i64 f, .int .i64 i, dgV a, dgV b, va, vb] u fun e w' => e = .returned (clV R) ∧ On u w') := fun u hu h1 h2 => by rw [hR]; exact clash_any f i a b p q _ _ u hu.tab ha hb h1 h2 hi
  have HC2 : Hid (∀ {va vb : Value} u, On w u → DR u va p → DR u vb q → Calls Tryd.prog 32 #[.int .i64 f, .int .i64 i, dgV a, dgV b, va, vb] u fun e w' => e = .returned (clV R) ∧ On u w') := fun u hu h1 h2 => by rw [hR]; exact rclash_any f i a b p q _ _ u hu.tab ha hb h1 h2 hi
  have HLV : Hid (∀ u, On w u → Calls Tryd.prog 21 #[] u fun e w' => e = .returned (.bool true) ∧ On u w') := fun u hu => lives_tree u (hT.on hu)
  obtain ⟨P1, P2, fd⟩ := R
  dsimp only [clV] at HC1 HC2
  obtain ⟨W0, hW0⟩ : ∃ W0, W0 = w.alloc (.cells #[.int .i64 i, .int .u64 ((a.1 : Nat) : Int), .int .u64 ((a.2 : Nat) : Int), .int .u64 ((b.1 : Nat) : Int), .int .u64 ((b.2 : Nat) : Int), .slice pa p0.length pc, .slice qa q0.length qc] 47) := ⟨_, rfl⟩
  have HO : Hid (On w W0) := by rw [hW0]; exact (On.refl hT.1).alloc _
  have HVB : Hid (VB w.heap.size W0 [.int .i64 i, .int .u64 ((a.1 : Nat) : Int), .int .u64 ((a.2 : Nat) : Int), .int .u64 ((b.1 : Nat) : Int), .int .u64 ((b.2 : Nat) : Int), .slice pa p0.length pc, .slice qa q0.length qc]) := by rw [hW0]; exact vb_new w _ _
  have HW0 := Lib.hid hW0
  have HK : Hid (∀ wq, On W0 wq → ∀ k v, ([.int .i64 i, .int .u64 ((a.1 : Nat) : Int), .int .u64 ((a.2 : Nat) : Int), .int .u64 ((b.1 : Nat) : Int), .int .u64 ((b.2 : Nat) : Int), .slice pa p0.length pc, .slice qa q0.length qc] : List Value)[k]? = some v → wq.cell? ⟨w.heap.size, k, none⟩ = some v) := fun wq h => (HVB.out.on h).2.1
  clear hT hi ha hb hP hQ hPS0 hQS0 hp hq hR hp1 hp2 hp3 hq1 hq2 hq3 hW0
  go_enter Tryd.func6, Tryd.ntmps6
  go_upto_region 1 with fail
  rw [← HW0.out]
  go_cut [5, 6] (fun v5 v6 wx => ∃ (ra sa : Option Addr) (rc sc : Nat), v5 = .slice ra p.length rc ∧ v6 = .slice sa q.length sc ∧ DR wx (.slice ra p.length rc) p ∧ DR wx (.slice sa q.length sc) q ∧ On W0 wx)
  case first =>
    refine region_head_tail (S := fun wq => On W0 wq) 7 (by kernel_rfl) (by kernel_rfl) ?_
    obtain ⟨V0, hV0⟩ : ∃ V0, V0 = W0.drew := ⟨_, rfl⟩
    have HV0 : Hid (On W0 V0) := by rw [hV0]; exact (On.refl HO.out.tab).drew
    rw [← hV0]
    clear hV0
    have hSd := HV0.out
    refine HeadG.take (i := 0) (v := ?hev1z0) rfl (by kernel_rfl) (by kernel_rfl) (by kernel_rfl) (by kernel_rfl) (by kernel_rfl) (by kernel_rfl) (by kernel_rfl) (fun _ _ _ h => h) (Or.inl ⟨by kernel_rfl, ?hey1z0⟩) hSd ?her1z0
    case hey1z0 => (intro w' hSw; skip; go_simp; try with_reducible rfl)
    try simp only [Act.put, List.setIfInBounds_toArray, List.set_cons_zero, List.set_cons_succ, List.getElem_toArray, List.getElem_cons_zero, List.getElem_cons_succ]
    refine HeadG.take (i := 1) (v := .slice pa p0.length pc) rfl (by kernel_rfl) (by kernel_rfl) (by kernel_rfl) (by kernel_rfl) (by kernel_rfl) (by kernel_rfl) (by kernel_rfl) (fun _ _ _ h => h) (Or.inl ⟨by kernel_rfl, ?hey2z1⟩) hSd ?her2z1
    case hey2z1 => (intro w' hSw; have x0 := HK.out _ hSw 0 _ rfl; have x1 := HK.out _ hSw 1 _ rfl; have x2 := HK.out _ hSw 2 _ rfl; have x3 := HK.out _ hSw 3 _ rfl; have x4 := HK.out _ hSw 4 _ rfl; have x5 := HK.out _ hSw 5 _ rfl; have x6 := HK.out _ hSw 6 _ rfl; go_simp; try with_reducible rfl; try simp)
    try simp only [Act.put, List.setIfInBounds_toArray, List.set_cons_zero, List.set_cons_succ, List.getElem_toArray, List.getElem_cons_zero, List.getElem_cons_succ]
    refine HeadG.take (i := 3) (v := ?hev3z3) rfl (by kernel_rfl) (by kernel_rfl) (by kernel_rfl) (by kernel_rfl) (by kernel_rfl) (by kernel_rfl) (by kernel_rfl) (fun _ _ _ h => h) (Or.inl ⟨by kernel_rfl, ?hey3z3⟩) hSd ?her3z3
    case hey3z3 => (intro w' hSw; skip; go_simp; try with_reducible rfl)
    try simp only [Act.put, List.setIfInBounds_toArray, List.set_cons_zero, List.set_cons_succ, List.getElem_toArray, List.getElem_cons_zero, List.getElem_cons_succ]
    refine HeadG.take (i := 4) (v := .slice qa q0.length qc) rfl (by kernel_rfl) (by kernel_rfl) (by kernel_rfl) (by kernel_rfl) (by kernel_rfl) (by kernel_rfl) (by kernel_rfl) (fun _ _ _ h => h) (Or.inl ⟨by kernel_rfl, ?hey4z4⟩) hSd ?her4z4
    case hey4z4 => (intro w' hSw; have x0 := HK.out _ hSw 0 _ rfl; have x1 := HK.out _ hSw 1 _ rfl; have x2 := HK.out _ hSw 2 _ rfl; have x3 := HK.out _ hSw 3 _ rfl; have x4 := HK.out _ hSw 4 _ rfl; have x5 := HK.out _ hSw 5 _ rfl; have x6 := HK.out _ hSw 6 _ rfl; go_simp; try with_reducible rfl; try simp)
    try simp only [Act.put, List.setIfInBounds_toArray, List.set_cons_zero, List.set_cons_succ, List.getElem_toArray, List.getElem_cons_zero, List.getElem_cons_succ]
    clear hSd
    refine HeadG.one (i := 2) rfl (by kernel_rfl) (by kernel_rfl) (fun K9 hK9 => ?_)
    go_simp
    go_at_call 12
    with_reducible refine (HCU1.out _ (HO.out.trans HV0.out)).mono ?_
    rintro e V1 ⟨⟨v1, rfl, hD1⟩, hO1⟩
    obtain ⟨ra, rc, rfl⟩ := hD1.shape
    have HV1 := Lib.hid (HV0.out.trans hO1)
    have HP := Lib.hid (hD1.dr HSP.out HLP.out)
    clear hO1 hD1
    refine hK9.out _ _ HV1.out ?_
    clear hK9 K9
    try simp only [Act.put, List.setIfInBounds_toArray, List.set_cons_zero, List.set_cons_succ, List.getElem_toArray, List.getElem_cons_zero, List.getElem_cons_succ]
    refine HeadG.one (i := 5) rfl (by kernel_rfl) (by kernel_rfl) (fun K9 hK9 => ?_)
    go_simp
    go_at_call 12
    with_reducible refine (HCU2.out _ (HO.out.trans HV1.out)).mono ?_
    rintro e V2 ⟨⟨v2, rfl, hD2⟩, hO2⟩
    obtain ⟨sa, sc, rfl⟩ := hD2.shape
    have HV2 := Lib.hid (HV1.out.trans hO2)
    have HQ := Lib.hid (hD2.dr HSQ.out HLQ.out)
    have HP := Lib.hid (HP.out.on hO2)
    clear hO2 hD2
    refine hK9.out _ _ HV2.out ?_
    clear hK9 K9
    try simp only [Act.put, List.setIfInBounds_toArray, List.set_cons_zero, List.set_cons_succ, List.getElem_toArray, List.getElem_cons_zero, List.getElem_cons_succ]
    refine HeadG.one (i := 6) rfl (by kernel_rfl) (by kernel_rfl) (fun K9 hK9 => ?_)
    go_simp
    refine hK9.out _ _ HV2.out ?_
    clear hK9 K9
    try simp only [Act.put, List.setIfInBounds_toArray, List.set_cons_zero, List.set_cons_succ, List.getElem_toArray, List.getElem_cons_zero, List.getElem_cons_succ]
    refine HeadG.last (i := 7) rfl (by kernel_rfl) (by kernel_rfl) (by kernel_rfl) (fun K9 hK9 => ?_)
    go_simp
    refine hK9.out _ _ ?_
    clear hK9 K9
    try simp only [Act.put, List.setIfInBounds_toArray, List.set_cons_zero, List.set_cons_succ, List.getElem_toArray, List.getElem_cons_zero, List.getElem_cons_succ]
    go_wp2_with fail
    go_meet
    exact ⟨_, _, _, _, rfl, rfl, HP.out, HQ.out, HV2.out⟩
  case rest =>
  rename World => u
  obtain ⟨ra, sa, rc, sc, rfl, rfl, hP2, hQ2, hO2⟩ := hcut
  have HP := Lib.hid hP2
  have HQ := Lib.hid hQ2
  have HOu := Lib.hid (HO.out.trans hO2)
  have HV := Lib.hid (HVB.out.on hO2)
  clear hP2 hQ2 hO2 HCU1 HCU2 HSP HSQ HLP HLQ HK HVB HO HW0
  have x0 := HV.out.2.1 0 _ rfl
  have x1 := HV.out.2.1 1 _ rfl
  have x2 := HV.out.2.1 2 _ rfl
  have x3 := HV.out.2.1 3 _ rfl
  have x4 := HV.out.2.1 4 _ rfl
  have x5 := HV.out.2.1 5 _ rfl
  have x6 := HV.out.2.1 6 _ rfl
  go_wp2_with fail
  with_reducible refine (HC1.out _ HOu.out HP.out HQ.out).mono ?_
  rintro e u2 ⟨rfl, hO⟩
  clear x0 x1 x2 x3 x4 x5 x6
  have hoa : On u2 ((u2.alloc (.cells #[.int .u64 ((P1.1.1 : Nat) : Int), .int .u64 ((P1.1.2 : Nat) : Int), .int .u64 ((P1.2.1 : Nat) : Int), .int .u64 ((P1.2.2 : Nat) : Int)] 48)).alloc (.cells #[.int .u64 ((P2.1.1 : Nat) : Int), .int .u64 ((P2.1.2 : Nat) : Int), .int .u64 ((P2.2.1 : Nat) : Int), .int .u64 ((P2.2.2 : Nat) : Int)] 48)) := ((On.refl hO.tab).alloc _).alloc _
  have hon := hO.trans hoa
  have hg : Blk (u2.heap.size) ((u2.alloc (.cells #[.int .u64 ((P1.1.1 : Nat) : Int), .int .u64 ((P1.1.2 : Nat) : Int), .int .u64 ((P1.2.1 : Nat) : Int), .int .u64 ((P1.2.2 : Nat) : Int)] 48)).alloc (.cells #[.int .u64 ((P2.1.1 : Nat) : Int), .int .u64 ((P2.1.2 : Nat) : Int), .int .u64 ((P2.2.1 : Nat) : Int), .int .u64 ((P2.2.2 : Nat) : Int)] 48)) (fl4 (ix (pst P1))) := (blk_new4 u2 P1.1.1 P1.1.2 P1.2.1 P1.2.2 48).on ((On.refl ((On.refl hO.tab).alloc _).tab).alloc _)
  have hh : Blk (u2.heap.size + 1) ((u2.alloc (.cells #[.int .u64 ((P1.1.1 : Nat) : Int), .int .u64 ((P1.1.2 : Nat) : Int), .int .u64 ((P1.2.1 : Nat) : Int), .int .u64 ((P1.2.2 : Nat) : Int)] 48)).alloc (.cells #[.int .u64 ((P2.1.1 : Nat) : Int), .int .u64 ((P2.1.2 : Nat) : Int), .int .u64 ((P2.2.1 : Nat) : Int), .int .u64 ((P2.2.2 : Nat) : Int)] 48)) (fl4 (ix (pst P2))) := by have h := blk_new4 (u2.alloc (.cells #[.int .u64 ((P1.1.1 : Nat) : Int), .int .u64 ((P1.1.2 : Nat) : Int), .int .u64 ((P1.2.1 : Nat) : Int), .int .u64 ((P1.2.2 : Nat) : Int)] 48)) P2.1.1 P2.1.2 P2.2.1 P2.2.2 48; rw [show (u2.alloc (.cells #[.int .u64 ((P1.1.1 : Nat) : Int), .int .u64 ((P1.1.2 : Nat) : Int), .int .u64 ((P1.2.1 : Nat) : Int), .int .u64 ((P1.2.2 : Nat) : Int)] 48)).heap.size = u2.heap.size + 1 by simp] at h; exact h
  have HGa := Lib.hid (And.intro hg hh)
  have HV := Lib.hid (HV.out.on hon)
  have HP := Lib.hid (HP.out.on hon)
  have HQ := Lib.hid (HQ.out.on hon)
  have HOu := Lib.hid (HOu.out.trans hon)
  clear hO hoa hg hh hon
  go_upto_region 3 with fail
  generalize (u2.alloc (.cells #[.int .u64 ((P1.1.1 : Nat) : Int), .int .u64 ((P1.1.2 : Nat) : Int), .int .u64 ((P1.2.1 : Nat) : Int), .int .u64 ((P1.2.2 : Nat) : Int)] 48)).alloc (.cells #[.int .u64 ((P2.1.1 : Nat) : Int), .int .u64 ((P2.1.2 : Nat) : Int), .int .u64 ((P2.2.1 : Nat) : Int), .int .u64 ((P2.2.2 : Nat) : Int)] 48) = u2b at *
  generalize u2.heap.size = Ba at *
  have x0 := HV.out.2.1 0 _ rfl
  have x1 := HV.out.2.1 1 _ rfl
  have x2 := HV.out.2.1 2 _ rfl
  have x3 := HV.out.2.1 3 _ rfl
  have x4 := HV.out.2.1 4 _ rfl
  have x5 := HV.out.2.1 5 _ rfl
  have x6 := HV.out.2.1 6 _ rfl
  go_wp2_with fail
  with_reducible refine (HC2.out _ HOu.out HP.out HQ.out).mono ?_
  rintro e u4 ⟨rfl, hO⟩
  clear x0 x1 x2 x3 x4 x5 x6
  have hoa : On u4 ((u4.alloc (.cells #[.int .u64 ((P1.1.1 : Nat) : Int), .int .u64 ((P1.1.2 : Nat) : Int), .int .u64 ((P1.2.1 : Nat) : Int), .int .u64 ((P1.2.2 : Nat) : Int)] 48)).alloc (.cells #[.int .u64 ((P2.1.1 : Nat) : Int), .int .u64 ((P2.1.2 : Nat) : Int), .int .u64 ((P2.2.1 : Nat) : Int), .int .u64 ((P2.2.2 : Nat) : Int)] 48)) := ((On.refl hO.tab).alloc _).alloc _
  have hon := hO.trans hoa
  have hg : Blk (u4.heap.size) ((u4.alloc (.cells #[.int .u64 ((P1.1.1 : Nat) : Int), .int .u64 ((P1.1.2 : Nat) : Int), .int .u64 ((P1.2.1 : Nat) : Int), .int .u64 ((P1.2.2 : Nat) : Int)] 48)).alloc (.cells #[.int .u64 ((P2.1.1 : Nat) : Int), .int .u64 ((P2.1.2 : Nat) : Int), .int .u64 ((P2.2.1 : Nat) : Int), .int .u64 ((P2.2.2 : Nat) : Int)] 48)) (fl4 (ix (pst P1))) := (blk_new4 u4 P1.1.1 P1.1.2 P1.2.1 P1.2.2 48).on ((On.refl ((On.refl hO.tab).alloc _).tab).alloc _)
  have hh : Blk (u4.heap.size + 1) ((u4.alloc (.cells #[.int .u64 ((P1.1.1 : Nat) : Int), .int .u64 ((P1.1.2 : Nat) : Int), .int .u64 ((P1.2.1 : Nat) : Int), .int .u64 ((P1.2.2 : Nat) : Int)] 48)).alloc (.cells #[.int .u64 ((P2.1.1 : Nat) : Int), .int .u64 ((P2.1.2 : Nat) : Int), .int .u64 ((P2.2.1 : Nat) : Int), .int .u64 ((P2.2.2 : Nat) : Int)] 48)) (fl4 (ix (pst P2))) := by have h := blk_new4 (u4.alloc (.cells #[.int .u64 ((P1.1.1 : Nat) : Int), .int .u64 ((P1.1.2 : Nat) : Int), .int .u64 ((P1.2.1 : Nat) : Int), .int .u64 ((P1.2.2 : Nat) : Int)] 48)) P2.1.1 P2.1.2 P2.2.1 P2.2.2 48; rw [show (u4.alloc (.cells #[.int .u64 ((P1.1.1 : Nat) : Int), .int .u64 ((P1.1.2 : Nat) : Int), .int .u64 ((P1.2.1 : Nat) : Int), .int .u64 ((P1.2.2 : Nat) : Int)] 48)).heap.size = u4.heap.size + 1 by simp] at h; exact h
  have HGb := Lib.hid (And.intro hg hh)
  have HV := Lib.hid (HV.out.on hon)
  have HP := Lib.hid (HP.out.on hon)
  have HQ := Lib.hid (HQ.out.on hon)
  have HOu := Lib.hid (HOu.out.trans hon)
  have HGa := Lib.hid (And.intro (HGa.out.1.on hon) (HGa.out.2.on hon))
  clear hO hoa hg hh hon
  go_upto_region 4 with fail
  generalize (u4.alloc (.cells #[.int .u64 ((P1.1.1 : Nat) : Int), .int .u64 ((P1.1.2 : Nat) : Int), .int .u64 ((P1.2.1 : Nat) : Int), .int .u64 ((P1.2.2 : Nat) : Int)] 48)).alloc (.cells #[.int .u64 ((P2.1.1 : Nat) : Int), .int .u64 ((P2.1.2 : Nat) : Int), .int .u64 ((P2.2.1 : Nat) : Int), .int .u64 ((P2.2.2 : Nat) : Int)] 48) = u4b at *
  generalize u4.heap.size = Bb at *
  obtain ⟨g0, g1, g2, g3⟩ := HGa.out.1.cells4
  obtain ⟨h0, h1, h2, h3⟩ := HGa.out.2.cells4
  obtain ⟨k0, k1, k2, k3⟩ := HGb.out.1.cells4
  obtain ⟨l0, l1, l2, l3⟩ := HGb.out.2.cells4
  simp only [pst, ix] at g0 g1 g2 g3 h0 h1 h2 h3 k0 k1 k2 k3 l0 l1 l2 l3
  have hq1 := fun w => eq_pr P1 P1 w
  have hq2 := fun w => eq_pr P2 P2 w
  simp only [decide_true] at hq1 hq2
  go_wp2_with fail
  with_reducible refine (HLV.out _ HOu.out).mono ?_
  rintro e u9 ⟨rfl, hO9⟩
  have HOu := Lib.hid (HOu.out.trans hO9)
  clear hO9
  go_wp2
  go_ret
  exact ⟨by simp, HOu.out⟩
end Go.Proofs.YtnmfneeojnmebaaDoor
