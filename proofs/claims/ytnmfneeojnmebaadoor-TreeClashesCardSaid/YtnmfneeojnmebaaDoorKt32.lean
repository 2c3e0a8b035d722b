/- The walk of the law TreeBinds: it returns true. -/
import Derived.Test.YtnmfneeojnmebaaDoorKt24
import Derived.Test.YtnmfneeojnmebaaDoorKt19
import Derived.Test.YtnmfneeojnmebaaDoorKt20
import Derived.Deep.CutBlock
import Derived.Deep.DeepCutAuto
set_option linter.unusedSimpArgs false
set_option linter.unusedVariables false
/- The walk of the law TreeBinds: it returns true. -/
namespace Go.Proofs.YtnmfneeojnmebaaDoor
open Go.RowKit
set_option linter.unusedVariables false

/-- Block B holds the values l from its first cell on, and may be written. -/
def VB (B : Nat) (w : World) (l : List Value) : Prop :=
  B < w.heap.size ∧ (∀ i v, l[i]? = some v → w.cell? ⟨B, i, none⟩ = some v) ∧ ∀ i, w.frozen? ⟨B, i, none⟩ = false
theorem VB.kept {B : Nat} {w w' : World} {l : List Value} (h : VB B w l) (hs : w.heap.size ≤ w'.heap.size) (hb : w'.heap[B]? = w.heap[B]?) : VB B w' l :=
  ⟨Nat.lt_of_lt_of_le h.1 hs, fun i v hi => (World.cell?_of_block (a := ⟨B, i, none⟩) hb).trans (h.2.1 i v hi), fun i => (World.frozen?_of_block (a := ⟨B, i, none⟩) hb).trans (h.2.2 i)⟩
theorem VB.on {B : Nat} {w w' : World} {l : List Value} (h : VB B w l) (k : On w w') : VB B w' l := h.kept k.size (k.2.block B h.1)
theorem vb_new (w : World) (a : Array Value) (t : TypeId) : VB w.heap.size (w.alloc (.cells a t)) a.toList := by
  refine ⟨by simp, fun i v hi => ?_, fun i => World.frozen?_alloc_new ..⟩
  rw [World.cell?_alloc_new]
  simpa using hi
set_option maxHeartbeats 1000000 in
set_option maxRecDepth 100000 in
theorem same_any (i : Int) (a b : Dg) (p q : List Dg) (pa qa : Option Addr) (pc qc : Nat) (w : World) (hT : Tab w) (hP : DR w (.slice pa p.length pc) p) (hQ : DR w (.slice qa q.length qc) q) :
    Calls Tryd.prog 34 #[.agg #[.int .i64 i, .int .u64 ((a.1 : Nat) : Int), .int .u64 ((a.2 : Nat) : Int), .int .u64 ((b.1 : Nat) : Int), .int .u64 ((b.2 : Nat) : Int), .slice pa p.length pc, .slice qa q.length qc]] w fun e w' => e = .returned (.bool (decide (a = b) && decide (p = q))) ∧ On w w' := by
  obtain ⟨W0, hW0⟩ : ∃ W0, W0 = w.alloc (.cells #[.int .i64 i, .int .u64 ((a.1 : Nat) : Int), .int .u64 ((a.2 : Nat) : Int), .int .u64 ((b.1 : Nat) : Int), .int .u64 ((b.2 : Nat) : Int), .slice pa p.length pc, .slice qa q.length qc] 47) := ⟨_, rfl⟩
  have HO : Hid (On w W0) := by rw [hW0]; exact (On.refl hT).alloc _
  have HV0 : Hid (VB w.heap.size W0 [.int .i64 i, .int .u64 ((a.1 : Nat) : Int), .int .u64 ((a.2 : Nat) : Int), .int .u64 ((b.1 : Nat) : Int), .int .u64 ((b.2 : Nat) : Int), .slice pa p.length pc, .slice qa q.length qc]) := by rw [hW0]; exact vb_new w _ _
  have HW0 := Lib.hid hW0
  have HEQ : Hid (Calls Tryd.prog 18 #[.slice pa p.length pc, .slice qa q.length qc] W0 fun e w' => e = .returned (.bool (decide (p = q))) ∧ On W0 w') := requal_any p q _ _ W0 HO.out.tab (hP.on HO.out) (hQ.on HO.out)
  generalize decide (p = q) = S at *
  have hq := eq_dg a b
  have o0 := HV0.out.2.1 0 _ rfl
  have o1 := HV0.out.2.1 1 _ rfl
  have o2 := HV0.out.2.1 2 _ rfl
  have o3 := HV0.out.2.1 3 _ rfl
  have o4 := HV0.out.2.1 4 _ rfl
  have o5 := HV0.out.2.1 5 _ rfl
  have o6 := HV0.out.2.1 6 _ rfl
  clear hW0 hT hP hQ
  cases hd : decide (a = b)
  · rw [hd] at hq
    clear hd
    go_enter Tryd.func34, Tryd.ntmps34
    go_upto_region 1 with fail
    rw [← HW0.out]
    go_wp2
    go_ret
    exact ⟨rfl, HO.out⟩
  · rw [hd] at hq
    clear hd
    go_enter Tryd.func34, Tryd.ntmps34
    go_upto_region 1 with fail
    rw [← HW0.out]
    go_wp2_with fail
    with_reducible refine HEQ.out.mono ?_
    rintro e w2 ⟨rfl, hO2⟩
    have HO2 := Lib.hid (HO.out.trans hO2)
    clear hO2
    go_wp2
    go_ret
    exact ⟨by simp, HO2.out⟩
theorem DRw.onw {W w : World} {v : Value} {l : List Dg} (h : DRw W v l) (hW : On W w) : DRw w v l := by
  obtain ⟨hU, hL, h1 | ⟨b, off, cap, rfl, hc⟩⟩ := h
  · exact ⟨hU, hL, .inl h1⟩
  · refine ⟨hU, hL, .inr ⟨b, off, cap, rfl, fun i hi => ?_⟩⟩
    have c := hc i hi
    rw [hW.2.cell (p := ⟨b, off + i * 2, none⟩) (cell_size c.1), hW.2.cell (p := ⟨b, off + i * 2 + 1, none⟩) (cell_size c.2)]
    exact c
theorem getD_sm {l : List Dg} (h : ∀ t, t < l.length → SmD (l.getD t zD)) (t : Nat) : SmD (l.getD t zD) := by
  rcases Nat.lt_or_ge t l.length with ht | ht
  · exact h t ht
  · rw [List.getD_eq_getElem?_getD, List.getElem?_eq_none ht]; exact zD_sm
theorem csF_sm (f : Int) (i : Nat) (a b : Dg) (p q : List Dg) (ha : SmD a) (hb : SmD b) (hp : ∀ t, SmD (p.getD t zD)) (hq : ∀ t, SmD (q.getD t zD)) : ∀ j, (SmD (csF f i a b p q j).1.1 ∧ SmD (csF f i a b p q j).1.2) ∧ SmD (csF f i a b p q j).2.1.1 ∧ SmD (csF f i a b p q j).2.1.2 := by
  intro j
  induction j with
  | zero => exact ⟨⟨zD_sm, zD_sm⟩, zD_sm, zD_sm⟩
  | succ j ih =>
    unfold csF
    split
    · exact ⟨prD_sm (clF_sm f i a p ha j) (hp j), prD_sm (clF_sm f i b q hb j) (hq j)⟩
    · exact ih
theorem clashV_sm (f i : Int) (a b : Dg) (p q : List Dg) (ha : SmD a) (hb : SmD b) (hp : ∀ t, t < p.length → SmD (p.getD t zD)) (hq : ∀ t, t < q.length → SmD (q.getD t zD)) : SmD (clashV f i a b p q).1.1 ∧ SmD (clashV f i a b p q).1.2 ∧ SmD (clashV f i a b p q).2.1.1 ∧ SmD (clashV f i a b p q).2.1.2 := by
  unfold clashV
  split
  · obtain ⟨⟨h1, h2⟩, h3, h4⟩ := csF_sm f i.toNat a b p q ha hb (getD_sm hp) (getD_sm hq) p.length
    exact ⟨h1, h2, h3, h4⟩
  · exact ⟨zD_sm, zD_sm, zD_sm, zD_sm⟩
set_option maxHeartbeats 4000000 in
set_option maxRecDepth 100000 in
theorem binds_any (n : Nat) (cl : List Dg) (cv : Value) (i : Int) (a b : Dg) (pv qv : Value) (p q : List Dg) (w : World) (hT : TZ w) (hn : n ≤ 255) (hC : DRw w cv cl) (hCS : ShapeD cv cl) (hi : i ≤ 9223372036854775807) (ha : SmD a) (hb : SmD b) (hP : DRw w pv p) (hPS : ShapeD pv p) (hQ : DRw w qv q) (hQS : ShapeD qv q) :
    Calls Tryd.prog 8 #[.int .u8 (n : Int), cv, .agg #[.int .i64 i, .int .u64 ((a.1 : Nat) : Int), .int .u64 ((a.2 : Nat) : Int), .int .u64 ((b.1 : Nat) : Int), .int .u64 ((b.2 : Nat) : Int), pv, qv]] w fun e w' => e = .returned (.bool true) ∧ On w w' := by
  obtain ⟨pa, pc, rfl, hp1, hp2, hp3⟩ := hPS
  obtain ⟨qa, qc, rfl, hq1, hq2, hq3⟩ := hQS
  obtain ⟨F, hF⟩ : ∃ F : Nat, F = n % 4 := ⟨_, rfl⟩
  have hF2 : (n : Int) % 4 = (F : Int) := by omega
  have hwF : IntKind.i64.wrap (F : Int) = (F : Int) := IntWalk.i64_in _ (by omega)
  have hv : validB (F : Int) = true := by unfold validB; simp; omega
  have HF2 := Lib.hid hF2
  have HTZ := Lib.hid hT
  have HLV := Lib.hid lives_tree
  have HSA := Lib.hid ha
  obtain ⟨cp, hcp⟩ : ∃ cp, cp = cl.take 70 := ⟨_, rfl⟩
  have HCUT : Hid (∀ u, On w u → Calls Tryd.prog 12 #[cv, .int .i64 70] u fun e w' => (∃ v', e = .returned v' ∧ OD u.heap.size w' v' cp) ∧ On u w') := fun u hu => by rw [hcp]; exact cutw_any cl 70 cv u hu.tab (hC.onw hu) hCS (by decide)
  have HTL : Hid (cp.length ≤ 4611686018427387903) := by refine Lib.hid ?_; rw [hcp, List.length_take]; omega
  have HTL2 : Hid (cp.length ≤ 70) := by refine Lib.hid ?_; rw [hcp, List.length_take]; omega
  have HTU : Hid (∀ j, j < cp.length → SmD (cp.getD j zD)) := fun j hj => by
    rw [hcp, List.length_take] at hj
    rw [hcp]
    have e : (cl.take 70).getD j zD = cl.getD j zD := by rw [List.getD_eq_getElem?_getD, List.getD_eq_getElem?_getD, List.getElem?_take, if_pos (by omega)]
    rw [e]; exact hC.1 j (by omega)
  have HCM : Hid (p.length ≤ 18 → ∀ u, On w u → Calls Tryd.prog 27 #[.int .i64 (F : Int), .int .i64 i, dgV a, .slice pa p.length pc] u fun e w' => e = .returned (dgV (climbV (F : Int) i a p)) ∧ On u w') := fun h u hu => climb_any (F : Int) i a p _ u hu.tab ha ((hP.dr (by omega)).on hu) hi
  obtain ⟨R, hR⟩ : ∃ R, R = clashV (F : Int) i a b p q := ⟨_, rfl⟩
  have hfd : R.2.2 = true → R.1 ≠ R.2.1 ∧ nodeF (F : Int) R.1.1 R.1.2 = nodeF (F : Int) R.2.1.1 R.2.1.2 := fun h => by rw [hR] at h ⊢; exact clash_found _ _ _ _ _ _ h
  have HBI0 : Hid (p.length = q.length → ∀ cp : List Dg, checkB (F : Int) cp i a p = true → checkB (F : Int) cp i b q = true → R.2.2 = false → a = b ∧ p = q) := fun h cp h1 h2 h3 => by rw [hR] at h3; exact binds_plain _ _ cp a b p q h h1 h2 h3
  have HCLA0 : Hid (p.length = q.length → p.length ≤ 18 → ∀ u, On w u → Calls Tryd.prog 31 #[.int .i64 (F : Int), .int .i64 i, dgV a, dgV b, .slice pa p.length pc, .slice qa q.length qc] u fun e w' => e = .returned (clV R) ∧ On u w') := fun h1 h2 u hu => by rw [hR]; exact clash_any (F : Int) i a b p q _ _ u hu.tab ha hb ((hP.dr (by omega)).on hu) ((hQ.dr (by omega)).on hu) hi
  have HCK : Hid (p.length ≤ 18 → ∀ (u : World) (cp : List Dg) (cv : Value), On w u → DR u cv cp → Calls Tryd.prog 29 #[.int .i64 (F : Int), cv, .int .i64 i, dgV a, .slice pa p.length pc] u fun e w' => e = .returned (.bool (checkB (F : Int) cp i a p)) ∧ On u w') := fun h u cp cv hu hd => check_any (F : Int) cp cv i a p _ u (hT.on hu) hd ha ((hP.dr (by omega)).on hu) hi
  have HCKB0 : Hid (q.length ≤ 18 → ∀ (u : World) (cp : List Dg) (cv : Value), On w u → DR u cv cp → Calls Tryd.prog 29 #[.int .i64 (F : Int), cv, .int .i64 i, dgV b, .slice qa q.length qc] u fun e w' => e = .returned (.bool (checkB (F : Int) cp i b q)) ∧ On u w') := fun h u cp cv hu hd => check_any (F : Int) cp cv i b q _ u (hT.on hu) hd hb ((hQ.dr (by omega)).on hu) hi
  have HSM0 : Hid (p.length ≤ 18 → q.length ≤ 18 → ∀ u, On w u → Calls Tryd.prog 34 #[.agg #[.int .i64 i, .int .u64 ((a.1 : Nat) : Int), .int .u64 ((a.2 : Nat) : Int), .int .u64 ((b.1 : Nat) : Int), .int .u64 ((b.2 : Nat) : Int), .slice pa p.length pc, .slice qa q.length qc]] u fun e w' => e = .returned (.bool (decide (a = b) && decide (p = q))) ∧ On u w') := fun h1 h2 u hu => same_any i a b p q pa qa pc qc u hu.tab ((hP.dr (by omega)).on hu) ((hQ.dr (by omega)).on hu)
  have HND : Hid (∀ (u : World) (x y : Dg), On w u → SmD x → SmD y → Calls Tryd.prog 35 #[.int .i64 (F : Int), dgV x, dgV y] u fun e w' => e = .returned (dgV (nodeF (F : Int) x y)) ∧ On u w') := fun u x y hu hx hy => node_dgE (F : Int) x y _ u hu.tab hx hy rfl
  have hsm : SmD R.1.1 ∧ SmD R.1.2 ∧ SmD R.2.1.1 ∧ SmD R.2.1.2 := by rw [hR]; exact clashV_sm _ _ _ _ _ _ ha hb (fun t ht => hP.1 t ht) (fun t ht => hQ.1 t ht)
  obtain ⟨P1, P2, fd⟩ := R
  simp only at hfd hsm HBI0 HCLA0
  have HFD := Lib.hid hfd
  have HSMD := Lib.hid hsm
  have HPQ1 := Lib.hid (And.intro hp2 hq2)
  obtain ⟨W0, hW0⟩ : ∃ W0, W0 = w.alloc (.cells #[.int .i64 i, .int .u64 ((a.1 : Nat) : Int), .int .u64 ((a.2 : Nat) : Int), .int .u64 ((b.1 : Nat) : Int), .int .u64 ((b.2 : Nat) : Int), .slice pa p.length pc, .slice qa q.length qc] 47) := ⟨_, rfl⟩
  have HO : Hid (On w W0) := by rw [hW0]; exact (On.refl hT.1).alloc _
  have HV0 : Hid (VB w.heap.size W0 [.int .i64 i, .int .u64 ((a.1 : Nat) : Int), .int .u64 ((a.2 : Nat) : Int), .int .u64 ((b.1 : Nat) : Int), .int .u64 ((b.2 : Nat) : Int), .slice pa p.length pc, .slice qa q.length qc]) := by rw [hW0]; exact vb_new w _ _
  have HW0 := Lib.hid hW0
  clear hT hF hv ha hb hcp hC hP hQ hR hfd hsm hW0 hn hi hp1 hp3 hq1 hq3 hCS
  go_enter Tryd.func8, Tryd.ntmps8
  go_upto_region 1 with fail
  rw [← HW0.out]
  go_upto_region 2 with fail
  simp only [HF2.out]
  clear hF2 hwF
  go_wp2_with fail
  with_reducible refine (HCUT.out _ HO.out).mono ?_
  rintro e w1 ⟨⟨v', rfl, hD⟩, hO1⟩
  obtain ⟨ca, cc, rfl⟩ := hD.shape
  have HD := Lib.hid (hD.dr HTU.out HTL.out)
  have HO1 := Lib.hid (HO.out.trans hO1)
  have HV := Lib.hid (HV0.out.on hO1)
  clear hO1 hD
  have o0 := HV.out.2.1 0 _ rfl
  have o1 := HV.out.2.1 1 _ rfl
  have o2 := HV.out.2.1 2 _ rfl
  have o3 := HV.out.2.1 3 _ rfl
  have o4 := HV.out.2.1 4 _ rfl
  have o5 := HV.out.2.1 5 _ rfl
  have o6 := HV.out.2.1 6 _ rfl
  by_cases hpq : p.length = q.length
  · have hnb : ((p.length : Int) != (q.length : Int)) = false := by simp; omega
    have HPQ := Lib.hid hpq
    clear hpq
    by_cases h18 : p.length ≤ 18
    · have hlt : decide ((18 : Int) < (p.length : Int)) = false := by simp; omega
      have hlt2 : ¬ ((18 : Int) < (p.length : Int)) := by omega
      go_upto_region 5 with fail
      clear hnb hlt hlt2
      clear o0 o1 o2 o3 o4 o5 o6
      have HCKA := Lib.hid (HCK.out h18)
      have HCLA := Lib.hid (HCLA0.out HPQ.out h18)
      have HBI := Lib.hid (HBI0.out HPQ.out)
      have HCMA := Lib.hid (HCM.out h18)
      have HCKB := Lib.hid (HCKB0.out (by rw [← HPQ.out]; exact h18))
      have HSM := Lib.hid (HSM0.out h18 (by rw [← HPQ.out]; exact h18))
      clear HCK HCLA0 HBI0 HCM HCKB0 HSM0
      by_cases hc0 : cp.length = 0
      · obtain rfl : cp = [] := List.length_eq_zero_iff.1 hc0
        have o0 := HV.out.2.1 0 _ rfl
        have o1 := HV.out.2.1 1 _ rfl
        have o2 := HV.out.2.1 2 _ rfl
        have o3 := HV.out.2.1 3 _ rfl
        have o4 := HV.out.2.1 4 _ rfl
        have o5 := HV.out.2.1 5 _ rfl
        have o6 := HV.out.2.1 6 _ rfl
        go_wp2_with fail
        with_reducible refine (HCMA.out _ HO1.out).mono ?_
        rintro e u0 ⟨rfl, hO2⟩
        clear o0 o1 o2 o3 o4 o5 o6
        have HO2 := Lib.hid (HO1.out.trans hO2)
        have HV2 := Lib.hid (HV.out.on hO2)
        clear hO2
        obtain ⟨X, hX⟩ : ∃ X, X = climbV (F : Int) i a p := ⟨_, rfl⟩
        rw [← hX]
        have hXs : SmD X := by rw [hX]; exact climbV_sm _ _ _ _ HSA.out
        have HDC : Hid (DR (u0.alloc (.cells #[.int .u64 ((X.1 : Nat) : Int), .int .u64 ((X.2 : Nat) : Int)] 36)) (.slice (some ⟨u0.heap.size, 0, none⟩) 1 1) [X]) := one_dg u0 HO2.out.tab X hXs
        have hOa : On u0 (u0.alloc (.cells #[.int .u64 ((X.1 : Nat) : Int), .int .u64 ((X.2 : Nat) : Int)] 36)) := (On.refl HO2.out.tab).alloc _
        have HOu := Lib.hid (HO2.out.trans hOa)
        have HO7 := Lib.hid (HV2.out.on hOa)
        clear hOa hX hXs HO1 HV HV2 HO2 HD
        go_upto_region 7 with fail
        generalize u0.alloc (.cells #[.int .u64 ((X.1 : Nat) : Int), .int .u64 ((X.2 : Nat) : Int)] 36) = u at *
        have o0 := HO7.out.2.1 0 _ rfl
        have o1 := HO7.out.2.1 1 _ rfl
        have o2 := HO7.out.2.1 2 _ rfl
        have o3 := HO7.out.2.1 3 _ rfl
        have o4 := HO7.out.2.1 4 _ rfl
        have o5 := HO7.out.2.1 5 _ rfl
        have o6 := HO7.out.2.1 6 _ rfl
        go_wp2_with fail
        with_reducible refine (HCLA.out _ HOu.out).mono ?_
        rintro e u1 ⟨rfl, hO1⟩
        clear o0 o1 o2 o3 o4 o5 o6
        have HOu1 := Lib.hid (HOu.out.trans hO1)
        have HV1 := Lib.hid (HO7.out.on hO1)
        have HD1 := Lib.hid (HDC.out.on hO1)
        clear hO1
        have hb8 : VB u1.heap.size ((u1.alloc (.cells #[.int .u64 ((P1.1.1 : Nat) : Int), .int .u64 ((P1.1.2 : Nat) : Int), .int .u64 ((P1.2.1 : Nat) : Int), .int .u64 ((P1.2.2 : Nat) : Int)] 48)).alloc (.cells #[.int .u64 ((P2.1.1 : Nat) : Int), .int .u64 ((P2.1.2 : Nat) : Int), .int .u64 ((P2.2.1 : Nat) : Int), .int .u64 ((P2.2.2 : Nat) : Int)] 48)) [.int .u64 ((P1.1.1 : Nat) : Int), .int .u64 ((P1.1.2 : Nat) : Int), .int .u64 ((P1.2.1 : Nat) : Int), .int .u64 ((P1.2.2 : Nat) : Int)] := (vb_new u1 _ _).on ((On.refl ((On.refl HOu1.out.tab).alloc _).tab).alloc _)
        have hb9 : VB (u1.heap.size + 1) ((u1.alloc (.cells #[.int .u64 ((P1.1.1 : Nat) : Int), .int .u64 ((P1.1.2 : Nat) : Int), .int .u64 ((P1.2.1 : Nat) : Int), .int .u64 ((P1.2.2 : Nat) : Int)] 48)).alloc (.cells #[.int .u64 ((P2.1.1 : Nat) : Int), .int .u64 ((P2.1.2 : Nat) : Int), .int .u64 ((P2.2.1 : Nat) : Int), .int .u64 ((P2.2.2 : Nat) : Int)] 48)) [.int .u64 ((P2.1.1 : Nat) : Int), .int .u64 ((P2.1.2 : Nat) : Int), .int .u64 ((P2.2.1 : Nat) : Int), .int .u64 ((P2.2.2 : Nat) : Int)] := by have := vb_new (u1.alloc (.cells #[.int .u64 ((P1.1.1 : Nat) : Int), .int .u64 ((P1.1.2 : Nat) : Int), .int .u64 ((P1.2.1 : Nat) : Int), .int .u64 ((P1.2.2 : Nat) : Int)] 48)) #[.int .u64 ((P2.1.1 : Nat) : Int), .int .u64 ((P2.1.2 : Nat) : Int), .int .u64 ((P2.2.1 : Nat) : Int), .int .u64 ((P2.2.2 : Nat) : Int)] 48; simpa using this
        have HB8 := Lib.hid hb8
        have HB9 := Lib.hid hb9
        clear hb8 hb9
        have hoa : On u1 ((u1.alloc (.cells #[.int .u64 ((P1.1.1 : Nat) : Int), .int .u64 ((P1.1.2 : Nat) : Int), .int .u64 ((P1.2.1 : Nat) : Int), .int .u64 ((P1.2.2 : Nat) : Int)] 48)).alloc (.cells #[.int .u64 ((P2.1.1 : Nat) : Int), .int .u64 ((P2.1.2 : Nat) : Int), .int .u64 ((P2.2.1 : Nat) : Int), .int .u64 ((P2.2.2 : Nat) : Int)] 48)) := ((On.refl HOu1.out.tab).alloc _).alloc _
        have HOu2 := Lib.hid (HOu1.out.trans hoa)
        have HV2 := Lib.hid (HV1.out.on hoa)
        have HD2 := Lib.hid (HD1.out.on hoa)
        clear hoa HV1 HD1 HOu1
        go_upto_region 8 with fail
        generalize (u1.alloc (.cells #[.int .u64 ((P1.1.1 : Nat) : Int), .int .u64 ((P1.1.2 : Nat) : Int), .int .u64 ((P1.2.1 : Nat) : Int), .int .u64 ((P1.2.2 : Nat) : Int)] 48)).alloc (.cells #[.int .u64 ((P2.1.1 : Nat) : Int), .int .u64 ((P2.1.2 : Nat) : Int), .int .u64 ((P2.2.1 : Nat) : Int), .int .u64 ((P2.2.2 : Nat) : Int)] 48) = u2 at *
        generalize u1.heap.size = bq at *
        go_cut [86] (fun s86 wx => s86 = .bool false ∧ Hid (On u2 wx))
        case first =>
          have HC1 := Lib.hid (HCKA.out _ _ _ HOu2.out HD2.out)
          have HBX := Lib.hid (HBI.out [X])
          cases hcA : checkB (F : Int) [X] i a p
          · rw [hcA] at HC1
            clear hcA
            have o0 := HV2.out.2.1 0 _ rfl
            have o1 := HV2.out.2.1 1 _ rfl
            have o2 := HV2.out.2.1 2 _ rfl
            have o3 := HV2.out.2.1 3 _ rfl
            have o4 := HV2.out.2.1 4 _ rfl
            have o5 := HV2.out.2.1 5 _ rfl
            have o6 := HV2.out.2.1 6 _ rfl
            go_wp2_with fail
            with_reducible refine HC1.out.mono ?_
            rintro e u3 ⟨rfl, hO3⟩
            go_wp2_with fail
            go_meet
            exact ⟨rfl, hO3⟩
          · rw [hcA] at HC1
            have o0 := HV2.out.2.1 0 _ rfl
            have o1 := HV2.out.2.1 1 _ rfl
            have o2 := HV2.out.2.1 2 _ rfl
            have o3 := HV2.out.2.1 3 _ rfl
            have o4 := HV2.out.2.1 4 _ rfl
            have o5 := HV2.out.2.1 5 _ rfl
            have o6 := HV2.out.2.1 6 _ rfl
            go_wp2_with fail
            with_reducible refine HC1.out.mono ?_
            rintro e u3 ⟨rfl, hO3⟩
            clear o0 o1 o2 o3 o4 o5 o6
            have HO3 := Lib.hid hO3
            have HV3 := Lib.hid (HV2.out.on hO3)
            have HC2 := Lib.hid (HCKB.out _ _ _ (HOu2.out.trans hO3) (HD2.out.on hO3))
            clear hO3
            cases hcB : checkB (F : Int) [X] i b q
            · rw [hcB] at HC2
              clear hcB hcA
              have o0 := HV3.out.2.1 0 _ rfl
              have o1 := HV3.out.2.1 1 _ rfl
              have o2 := HV3.out.2.1 2 _ rfl
              have o3 := HV3.out.2.1 3 _ rfl
              have o4 := HV3.out.2.1 4 _ rfl
              have o5 := HV3.out.2.1 5 _ rfl
              have o6 := HV3.out.2.1 6 _ rfl
              go_wp2_with fail
              with_reducible refine HC2.out.mono ?_
              rintro e u4 ⟨rfl, hO4⟩
              go_wp2_with fail
              go_meet
              exact ⟨rfl, HO3.out.trans hO4⟩
            · rw [hcB] at HC2
              have o0 := HV3.out.2.1 0 _ rfl
              have o1 := HV3.out.2.1 1 _ rfl
              have o2 := HV3.out.2.1 2 _ rfl
              have o3 := HV3.out.2.1 3 _ rfl
              have o4 := HV3.out.2.1 4 _ rfl
              have o5 := HV3.out.2.1 5 _ rfl
              have o6 := HV3.out.2.1 6 _ rfl
              go_wp2_with fail
              with_reducible refine HC2.out.mono ?_
              rintro e u4 ⟨rfl, hO4⟩
              clear o0 o1 o2 o3 o4 o5 o6
              have HO4 := Lib.hid (HO3.out.trans hO4)
              have HV4 := Lib.hid (HV3.out.on hO4)
              clear hO4
              have HS1 := Lib.hid (HSM.out _ (HOu2.out.trans HO4.out))
              have hSS : fd = false → (decide (a = b) && decide (p = q)) = true := fun h => by obtain ⟨e1, e2⟩ := HBX.out hcA hcB h; simp [e1, e2]
              generalize (decide (a = b) && decide (p = q)) = S at *
              clear hcA hcB HBX HBI
              cases S
              · have hft : fd = true := by cases fd with
                  | false => exact absurd (hSS rfl) (by simp)
                  | true => rfl
                subst hft
                clear hSS
                have o0 := HV4.out.2.1 0 _ rfl
                have o1 := HV4.out.2.1 1 _ rfl
                have o2 := HV4.out.2.1 2 _ rfl
                have o3 := HV4.out.2.1 3 _ rfl
                have o4 := HV4.out.2.1 4 _ rfl
                have o5 := HV4.out.2.1 5 _ rfl
                have o6 := HV4.out.2.1 6 _ rfl
                go_wp2_with fail
                with_reducible refine HS1.out.mono ?_
                rintro e u5 ⟨rfl, hO5⟩
                go_wp2_with fail
                go_meet
                exact ⟨rfl, HO4.out.trans hO5⟩
              · clear hSS
                have o0 := HV4.out.2.1 0 _ rfl
                have o1 := HV4.out.2.1 1 _ rfl
                have o2 := HV4.out.2.1 2 _ rfl
                have o3 := HV4.out.2.1 3 _ rfl
                have o4 := HV4.out.2.1 4 _ rfl
                have o5 := HV4.out.2.1 5 _ rfl
                have o6 := HV4.out.2.1 6 _ rfl
                go_wp2_with fail
                with_reducible refine HS1.out.mono ?_
                rintro e u5 ⟨rfl, hO5⟩
                go_wp2_with fail
                go_meet
                exact ⟨rfl, HO4.out.trans hO5⟩
        case rest =>
          obtain ⟨rfl, HO3⟩ := hcut
          generalize wc = u5 at *
          have HOu5 := Lib.hid (HOu2.out.trans HO3.out)
          have HK : Hid (∀ wq, On u5 wq → _) := fun wq hq => And.intro ((HB8.out.on HO3.out).on hq) ((HB9.out.on HO3.out).on hq)
          clear HB8 HB9 HV2 HD2 HOu2 HO3
          have HCL : Hid (∀ wq, On u5 wq → Calls Tryd.prog 21 #[] wq fun e w' => e = .returned (.bool true) ∧ On u5 w') := fun wq h => (HLV.out wq (HTZ.out.on (HOu5.out.trans h))).mono fun e w' ⟨he, ho⟩ => ⟨he, h.trans ho⟩
          go_upto_region 10 with fail
          cases fd
          · refine region_keep_tail (fun wq => On u5 wq) 25 (by kernel_rfl) (by kernel_rfl) (On.refl HOu5.out.tab).drew ?_
            simp only [List.take_succ_cons, List.take_zero, List.drop_succ_cons, List.drop_zero]
            refine quiet_start fun L9 hL9 => ?_
            refine quiet_take (v := .bool false) hL9 (by kernel_rfl) (fun wq hwq => ?fay0) (fun L9 hL9 => ?far0)
            case fay0 => (go_simp; try with_reducible rfl)
            try simp only [Act.put, List.setIfInBounds_toArray, List.set_cons_zero, List.set_cons_succ]
            refine quiet_take (v := .bool true) hL9 (by kernel_rfl) (fun wq hwq => ?fay1) (fun L9 hL9 => ?far1)
            case fay1 => (go_simp; try with_reducible rfl)
            try simp only [Act.put, List.setIfInBounds_toArray, List.set_cons_zero, List.set_cons_succ]
            refine quiet_take (v := .bool true) hL9 (by kernel_rfl) (fun wq hwq => ?fay2) (fun L9 hL9 => ?far2)
            case fay2 => (go_simp; try with_reducible rfl)
            try simp only [Act.put, List.setIfInBounds_toArray, List.set_cons_zero, List.set_cons_succ]
            refine quiet_skip hL9 (by kernel_rfl) (fun L9 hL9 => ?_)
            try simp only [Act.put, List.setIfInBounds_toArray, List.set_cons_zero, List.set_cons_succ]
            refine quiet_skip hL9 (by kernel_rfl) (fun L9 hL9 => ?_)
            try simp only [Act.put, List.setIfInBounds_toArray, List.set_cons_zero, List.set_cons_succ]
            refine quiet_skip hL9 (by kernel_rfl) (fun L9 hL9 => ?_)
            try simp only [Act.put, List.setIfInBounds_toArray, List.set_cons_zero, List.set_cons_succ]
            refine quiet_skip hL9 (by kernel_rfl) (fun L9 hL9 => ?_)
            try simp only [Act.put, List.setIfInBounds_toArray, List.set_cons_zero, List.set_cons_succ]
            refine quiet_skip hL9 (by kernel_rfl) (fun L9 hL9 => ?_)
            try simp only [Act.put, List.setIfInBounds_toArray, List.set_cons_zero, List.set_cons_succ]
            refine quiet_skip hL9 (by kernel_rfl) (fun L9 hL9 => ?_)
            try simp only [Act.put, List.setIfInBounds_toArray, List.set_cons_zero, List.set_cons_succ]
            refine quiet_skip hL9 (by kernel_rfl) (fun L9 hL9 => ?_)
            try simp only [Act.put, List.setIfInBounds_toArray, List.set_cons_zero, List.set_cons_succ]
            refine quiet_skip hL9 (by kernel_rfl) (fun L9 hL9 => ?_)
            try simp only [Act.put, List.setIfInBounds_toArray, List.set_cons_zero, List.set_cons_succ]
            refine quiet_skip hL9 (by kernel_rfl) (fun L9 hL9 => ?_)
            try simp only [Act.put, List.setIfInBounds_toArray, List.set_cons_zero, List.set_cons_succ]
            refine quiet_skip hL9 (by kernel_rfl) (fun L9 hL9 => ?_)
            try simp only [Act.put, List.setIfInBounds_toArray, List.set_cons_zero, List.set_cons_succ]
            refine quiet_skip hL9 (by kernel_rfl) (fun L9 hL9 => ?_)
            try simp only [Act.put, List.setIfInBounds_toArray, List.set_cons_zero, List.set_cons_succ]
            refine quiet_skip hL9 (by kernel_rfl) (fun L9 hL9 => ?_)
            try simp only [Act.put, List.setIfInBounds_toArray, List.set_cons_zero, List.set_cons_succ]
            refine quiet_skip hL9 (by kernel_rfl) (fun L9 hL9 => ?_)
            try simp only [Act.put, List.setIfInBounds_toArray, List.set_cons_zero, List.set_cons_succ]
            refine quiet_skip hL9 (by kernel_rfl) (fun L9 hL9 => ?_)
            try simp only [Act.put, List.setIfInBounds_toArray, List.set_cons_zero, List.set_cons_succ]
            refine quiet_skip hL9 (by kernel_rfl) (fun L9 hL9 => ?_)
            try simp only [Act.put, List.setIfInBounds_toArray, List.set_cons_zero, List.set_cons_succ]
            refine quiet_skip hL9 (by kernel_rfl) (fun L9 hL9 => ?_)
            try simp only [Act.put, List.setIfInBounds_toArray, List.set_cons_zero, List.set_cons_succ]
            refine quiet_skip hL9 (by kernel_rfl) (fun L9 hL9 => ?_)
            try simp only [Act.put, List.setIfInBounds_toArray, List.set_cons_zero, List.set_cons_succ]
            refine quiet_skip hL9 (by kernel_rfl) (fun L9 hL9 => ?_)
            try simp only [Act.put, List.setIfInBounds_toArray, List.set_cons_zero, List.set_cons_succ]
            refine quiet_take (v := .bool true) hL9 (by kernel_rfl) (fun wq hwq => ?fay21) (fun L9 hL9 => ?far21)
            case fay21 => (go_simp; try with_reducible rfl)
            try simp only [Act.put, List.setIfInBounds_toArray, List.set_cons_zero, List.set_cons_succ]
            refine quiet_take (v := .bool true) hL9 (by kernel_rfl) (fun wq hwq => ?fay22) (fun L9 hL9 => ?far22)
            case fay22 => (go_simp; try with_reducible rfl)
            try simp only [Act.put, List.setIfInBounds_toArray, List.set_cons_zero, List.set_cons_succ]
            refine quiet_take (v := .bool true) hL9 (by kernel_rfl) (fun wq hwq => ?fay23) (fun L9 hL9 => ?far23)
            case fay23 => (go_simp; go_at_call 21; exact HCL.out wq hwq)
            try simp only [Act.put, List.setIfInBounds_toArray, List.set_cons_zero, List.set_cons_succ]
            refine quiet_take (v := .bool true) hL9 (by kernel_rfl) (fun wq hwq => ?fay24) (fun L9 hL9 => ?far24)
            case fay24 => (go_simp; try with_reducible rfl)
            try simp only [Act.put, List.setIfInBounds_toArray, List.set_cons_zero, List.set_cons_succ]
            refine quiet_nil hL9 ?_
            clear hL9
            intro wy hOy
            have hOz := HOu5.out.trans hOy
            go_wp2
            go_ret
            exact ⟨rfl, hOz⟩
          · obtain ⟨hne, hnd⟩ := HFD.out rfl
            obtain ⟨D, hD⟩ : ∃ D, D = nodeF (F : Int) P1.1 P1.2 := ⟨_, rfl⟩
            have HQN : Hid (∀ w, (Op.equalIn 10000 48 (prV P1) (prV P2)).run Tryd.prog w = .ok false w) := fun w => by rw [eq_pr, decide_eq_false hne]
            have HQD : Hid (∀ w, (Op.equalIn 10000 36 (dgV D) (dgV D)).run Tryd.prog w = .ok true w) := fun w => by rw [eq_dg, decide_eq_true rfl]
            have HN1 : Hid (∀ wq, On u5 wq → Calls Tryd.prog 35 #[.int .i64 (F : Int), dgV P1.1, dgV P1.2] wq fun e w' => e = .returned (dgV D) ∧ On u5 w') := fun wq h => by rw [hD]; exact (HND.out wq _ _ (HOu5.out.trans h) HSMD.out.1 HSMD.out.2.1).mono fun e w' ⟨he, ho⟩ => ⟨he, h.trans ho⟩
            have HN2 : Hid (∀ wq, On u5 wq → Calls Tryd.prog 35 #[.int .i64 (F : Int), dgV P2.1, dgV P2.2] wq fun e w' => e = .returned (dgV D) ∧ On u5 w') := fun wq h => by rw [hD, hnd]; exact (HND.out wq _ _ (HOu5.out.trans h) HSMD.out.2.2.1 HSMD.out.2.2.2).mono fun e w' ⟨he, ho⟩ => ⟨he, h.trans ho⟩
            clear hne hnd hD
            refine region_keep_tail (fun wq => On u5 wq) 25 (by kernel_rfl) (by kernel_rfl) (On.refl HOu5.out.tab).drew ?_
            simp only [List.take_succ_cons, List.take_zero, List.drop_succ_cons, List.drop_zero]
            refine quiet_start fun L9 hL9 => ?_
            refine quiet_take (v := .bool true) hL9 (by kernel_rfl) (fun wq hwq => ?tay0) (fun L9 hL9 => ?tar0)
            case tay0 => (go_simp; try with_reducible rfl)
            try simp only [Act.put, List.setIfInBounds_toArray, List.set_cons_zero, List.set_cons_succ]
            refine quiet_take (v := .bool false) hL9 (by kernel_rfl) (fun wq hwq => ?tay1) (fun L9 hL9 => ?tar1)
            case tay1 => (go_simp; try with_reducible rfl)
            try simp only [Act.put, List.setIfInBounds_toArray, List.set_cons_zero, List.set_cons_succ]
            refine quiet_take (v := .bool false) hL9 (by kernel_rfl) (fun wq hwq => ?tay2) (fun L9 hL9 => ?tar2)
            case tay2 => (go_simp; try with_reducible rfl)
            try simp only [Act.put, List.setIfInBounds_toArray, List.set_cons_zero, List.set_cons_succ]
            refine quiet_take (v := prV P1) hL9 (by kernel_rfl) (fun wq hwq => ?tay3) (fun L9 hL9 => ?tar3)
            case tay3 => (obtain ⟨m1, m2⟩ := HK.out wq hwq; have a0 := m1.2.1 0 _ rfl; have a1 := m1.2.1 1 _ rfl; have a2 := m1.2.1 2 _ rfl; have a3 := m1.2.1 3 _ rfl; have b0 := m2.2.1 0 _ rfl; have b1 := m2.2.1 1 _ rfl; have b2 := m2.2.1 2 _ rfl; have b3 := m2.2.1 3 _ rfl; go_simp; try with_reducible rfl)
            try simp only [Act.put, List.setIfInBounds_toArray, List.set_cons_zero, List.set_cons_succ]
            refine quiet_take (v := prV P2) hL9 (by kernel_rfl) (fun wq hwq => ?tay4) (fun L9 hL9 => ?tar4)
            case tay4 => (obtain ⟨m1, m2⟩ := HK.out wq hwq; have a0 := m1.2.1 0 _ rfl; have a1 := m1.2.1 1 _ rfl; have a2 := m1.2.1 2 _ rfl; have a3 := m1.2.1 3 _ rfl; have b0 := m2.2.1 0 _ rfl; have b1 := m2.2.1 1 _ rfl; have b2 := m2.2.1 2 _ rfl; have b3 := m2.2.1 3 _ rfl; go_simp; try with_reducible rfl)
            try simp only [Act.put, List.setIfInBounds_toArray, List.set_cons_zero, List.set_cons_succ]
            refine quiet_take (v := .bool true) hL9 (by kernel_rfl) (fun wq hwq => ?tay5) (fun L9 hL9 => ?tar5)
            case tay5 => (have hq := HQN.out; go_simp; try with_reducible rfl)
            try simp only [Act.put, List.setIfInBounds_toArray, List.set_cons_zero, List.set_cons_succ]
            refine quiet_take (v := .bool true) hL9 (by kernel_rfl) (fun wq hwq => ?tay6) (fun L9 hL9 => ?tar6)
            case tay6 => (go_simp; try with_reducible rfl)
            try simp only [Act.put, List.setIfInBounds_toArray, List.set_cons_zero, List.set_cons_succ]
            refine quiet_take (v := ?tav7) hL9 (by kernel_rfl) (fun wq hwq => ?tay7) (fun L9 hL9 => ?tar7)
            case tay7 => (go_simp; try with_reducible rfl)
            try simp only [Act.put, List.setIfInBounds_toArray, List.set_cons_zero, List.set_cons_succ]
            refine quiet_take (v := ?tav8) hL9 (by kernel_rfl) (fun wq hwq => ?tay8) (fun L9 hL9 => ?tar8)
            case tay8 => (go_simp; try with_reducible rfl)
            try simp only [Act.put, List.setIfInBounds_toArray, List.set_cons_zero, List.set_cons_succ]
            refine quiet_take (v := dgV P1.1) hL9 (by kernel_rfl) (fun wq hwq => ?tay9) (fun L9 hL9 => ?tar9)
            case tay9 => (obtain ⟨m1, m2⟩ := HK.out wq hwq; have a0 := m1.2.1 0 _ rfl; have a1 := m1.2.1 1 _ rfl; have a2 := m1.2.1 2 _ rfl; have a3 := m1.2.1 3 _ rfl; have b0 := m2.2.1 0 _ rfl; have b1 := m2.2.1 1 _ rfl; have b2 := m2.2.1 2 _ rfl; have b3 := m2.2.1 3 _ rfl; go_simp; try with_reducible rfl)
            try simp only [Act.put, List.setIfInBounds_toArray, List.set_cons_zero, List.set_cons_succ]
            refine quiet_take (v := ?tav10) hL9 (by kernel_rfl) (fun wq hwq => ?tay10) (fun L9 hL9 => ?tar10)
            case tay10 => (go_simp; try with_reducible rfl)
            try simp only [Act.put, List.setIfInBounds_toArray, List.set_cons_zero, List.set_cons_succ]
            refine quiet_take (v := dgV P1.2) hL9 (by kernel_rfl) (fun wq hwq => ?tay11) (fun L9 hL9 => ?tar11)
            case tay11 => (obtain ⟨m1, m2⟩ := HK.out wq hwq; have a0 := m1.2.1 0 _ rfl; have a1 := m1.2.1 1 _ rfl; have a2 := m1.2.1 2 _ rfl; have a3 := m1.2.1 3 _ rfl; have b0 := m2.2.1 0 _ rfl; have b1 := m2.2.1 1 _ rfl; have b2 := m2.2.1 2 _ rfl; have b3 := m2.2.1 3 _ rfl; go_simp; try with_reducible rfl)
            try simp only [Act.put, List.setIfInBounds_toArray, List.set_cons_zero, List.set_cons_succ]
            refine quiet_take (v := dgV D) hL9 (by kernel_rfl) (fun wq hwq => ?tay12) (fun L9 hL9 => ?tar12)
            case tay12 => (go_simp; go_at_call 35; exact HN1.out wq hwq)
            try simp only [Act.put, List.setIfInBounds_toArray, List.set_cons_zero, List.set_cons_succ]
            refine quiet_take (v := ?tav13) hL9 (by kernel_rfl) (fun wq hwq => ?tay13) (fun L9 hL9 => ?tar13)
            case tay13 => (go_simp; try with_reducible rfl)
            try simp only [Act.put, List.setIfInBounds_toArray, List.set_cons_zero, List.set_cons_succ]
            refine quiet_take (v := ?tav14) hL9 (by kernel_rfl) (fun wq hwq => ?tay14) (fun L9 hL9 => ?tar14)
            case tay14 => (go_simp; try with_reducible rfl)
            try simp only [Act.put, List.setIfInBounds_toArray, List.set_cons_zero, List.set_cons_succ]
            refine quiet_take (v := dgV P2.1) hL9 (by kernel_rfl) (fun wq hwq => ?tay15) (fun L9 hL9 => ?tar15)
            case tay15 => (obtain ⟨m1, m2⟩ := HK.out wq hwq; have a0 := m1.2.1 0 _ rfl; have a1 := m1.2.1 1 _ rfl; have a2 := m1.2.1 2 _ rfl; have a3 := m1.2.1 3 _ rfl; have b0 := m2.2.1 0 _ rfl; have b1 := m2.2.1 1 _ rfl; have b2 := m2.2.1 2 _ rfl; have b3 := m2.2.1 3 _ rfl; go_simp; try with_reducible rfl)
            try simp only [Act.put, List.setIfInBounds_toArray, List.set_cons_zero, List.set_cons_succ]
            refine quiet_take (v := ?tav16) hL9 (by kernel_rfl) (fun wq hwq => ?tay16) (fun L9 hL9 => ?tar16)
            case tay16 => (go_simp; try with_reducible rfl)
            try simp only [Act.put, List.setIfInBounds_toArray, List.set_cons_zero, List.set_cons_succ]
            refine quiet_take (v := dgV P2.2) hL9 (by kernel_rfl) (fun wq hwq => ?tay17) (fun L9 hL9 => ?tar17)
            case tay17 => (obtain ⟨m1, m2⟩ := HK.out wq hwq; have a0 := m1.2.1 0 _ rfl; have a1 := m1.2.1 1 _ rfl; have a2 := m1.2.1 2 _ rfl; have a3 := m1.2.1 3 _ rfl; have b0 := m2.2.1 0 _ rfl; have b1 := m2.2.1 1 _ rfl; have b2 := m2.2.1 2 _ rfl; have b3 := m2.2.1 3 _ rfl; go_simp; try with_reducible rfl)
            try simp only [Act.put, List.setIfInBounds_toArray, List.set_cons_zero, List.set_cons_succ]
            refine quiet_take (v := dgV D) hL9 (by kernel_rfl) (fun wq hwq => ?tay18) (fun L9 hL9 => ?tar18)
            case tay18 => (go_simp; go_at_call 35; exact HN2.out wq hwq)
            try simp only [Act.put, List.setIfInBounds_toArray, List.set_cons_zero, List.set_cons_succ]
            refine quiet_take (v := .bool true) hL9 (by kernel_rfl) (fun wq hwq => ?tay19) (fun L9 hL9 => ?tar19)
            case tay19 => (have hq := HQD.out; go_simp; try with_reducible rfl)
            try simp only [Act.put, List.setIfInBounds_toArray, List.set_cons_zero, List.set_cons_succ]
            refine quiet_take (v := .bool true) hL9 (by kernel_rfl) (fun wq hwq => ?tay20) (fun L9 hL9 => ?tar20)
            case tay20 => (go_simp; try with_reducible rfl)
            try simp only [Act.put, List.setIfInBounds_toArray, List.set_cons_zero, List.set_cons_succ]
            refine quiet_take (v := .bool true) hL9 (by kernel_rfl) (fun wq hwq => ?tay21) (fun L9 hL9 => ?tar21)
            case tay21 => (go_simp; try with_reducible rfl)
            try simp only [Act.put, List.setIfInBounds_toArray, List.set_cons_zero, List.set_cons_succ]
            refine quiet_take (v := .bool true) hL9 (by kernel_rfl) (fun wq hwq => ?tay22) (fun L9 hL9 => ?tar22)
            case tay22 => (go_simp; try with_reducible rfl)
            try simp only [Act.put, List.setIfInBounds_toArray, List.set_cons_zero, List.set_cons_succ]
            refine quiet_take (v := .bool true) hL9 (by kernel_rfl) (fun wq hwq => ?tay23) (fun L9 hL9 => ?tar23)
            case tay23 => (go_simp; go_at_call 21; exact HCL.out wq hwq)
            try simp only [Act.put, List.setIfInBounds_toArray, List.set_cons_zero, List.set_cons_succ]
            refine quiet_take (v := .bool true) hL9 (by kernel_rfl) (fun wq hwq => ?tay24) (fun L9 hL9 => ?tar24)
            case tay24 => (go_simp; try with_reducible rfl)
            try simp only [Act.put, List.setIfInBounds_toArray, List.set_cons_zero, List.set_cons_succ]
            refine quiet_nil hL9 ?_
            clear hL9
            intro wy hOy
            have hOz := HOu5.out.trans hOy
            go_wp2
            go_ret
            exact ⟨rfl, hOz⟩
      · have hcn : ((cp.length : Int) == 0) = false := by rw [beq_eq_false_iff_ne]; omega
        have hcn2 : ¬ (cp.length = 0) := hc0
        go_upto_region 7 with fail
        clear hcn hcn2
        have HDC := HD
        have HOu := HO1
        have HO7 := HV
        generalize w1 = u at *
        have o0 := HO7.out.2.1 0 _ rfl
        have o1 := HO7.out.2.1 1 _ rfl
        have o2 := HO7.out.2.1 2 _ rfl
        have o3 := HO7.out.2.1 3 _ rfl
        have o4 := HO7.out.2.1 4 _ rfl
        have o5 := HO7.out.2.1 5 _ rfl
        have o6 := HO7.out.2.1 6 _ rfl
        go_wp2_with fail
        with_reducible refine (HCLA.out _ HOu.out).mono ?_
        rintro e u1 ⟨rfl, hO1⟩
        clear o0 o1 o2 o3 o4 o5 o6
        have HOu1 := Lib.hid (HOu.out.trans hO1)
        have HV1 := Lib.hid (HO7.out.on hO1)
        have HD1 := Lib.hid (HDC.out.on hO1)
        clear hO1
        have hb8 : VB u1.heap.size ((u1.alloc (.cells #[.int .u64 ((P1.1.1 : Nat) : Int), .int .u64 ((P1.1.2 : Nat) : Int), .int .u64 ((P1.2.1 : Nat) : Int), .int .u64 ((P1.2.2 : Nat) : Int)] 48)).alloc (.cells #[.int .u64 ((P2.1.1 : Nat) : Int), .int .u64 ((P2.1.2 : Nat) : Int), .int .u64 ((P2.2.1 : Nat) : Int), .int .u64 ((P2.2.2 : Nat) : Int)] 48)) [.int .u64 ((P1.1.1 : Nat) : Int), .int .u64 ((P1.1.2 : Nat) : Int), .int .u64 ((P1.2.1 : Nat) : Int), .int .u64 ((P1.2.2 : Nat) : Int)] := (vb_new u1 _ _).on ((On.refl ((On.refl HOu1.out.tab).alloc _).tab).alloc _)
        have hb9 : VB (u1.heap.size + 1) ((u1.alloc (.cells #[.int .u64 ((P1.1.1 : Nat) : Int), .int .u64 ((P1.1.2 : Nat) : Int), .int .u64 ((P1.2.1 : Nat) : Int), .int .u64 ((P1.2.2 : Nat) : Int)] 48)).alloc (.cells #[.int .u64 ((P2.1.1 : Nat) : Int), .int .u64 ((P2.1.2 : Nat) : Int), .int .u64 ((P2.2.1 : Nat) : Int), .int .u64 ((P2.2.2 : Nat) : Int)] 48)) [.int .u64 ((P2.1.1 : Nat) : Int), .int .u64 ((P2.1.2 : Nat) : Int), .int .u64 ((P2.2.1 : Nat) : Int), .int .u64 ((P2.2.2 : Nat) : Int)] := by have := vb_new (u1.alloc (.cells #[.int .u64 ((P1.1.1 : Nat) : Int), .int .u64 ((P1.1.2 : Nat) : Int), .int .u64 ((P1.2.1 : Nat) : Int), .int .u64 ((P1.2.2 : Nat) : Int)] 48)) #[.int .u64 ((P2.1.1 : Nat) : Int), .int .u64 ((P2.1.2 : Nat) : Int), .int .u64 ((P2.2.1 : Nat) : Int), .int .u64 ((P2.2.2 : Nat) : Int)] 48; simpa using this
        have HB8 := Lib.hid hb8
        have HB9 := Lib.hid hb9
        clear hb8 hb9
        have hoa : On u1 ((u1.alloc (.cells #[.int .u64 ((P1.1.1 : Nat) : Int), .int .u64 ((P1.1.2 : Nat) : Int), .int .u64 ((P1.2.1 : Nat) : Int), .int .u64 ((P1.2.2 : Nat) : Int)] 48)).alloc (.cells #[.int .u64 ((P2.1.1 : Nat) : Int), .int .u64 ((P2.1.2 : Nat) : Int), .int .u64 ((P2.2.1 : Nat) : Int), .int .u64 ((P2.2.2 : Nat) : Int)] 48)) := ((On.refl HOu1.out.tab).alloc _).alloc _
        have HOu2 := Lib.hid (HOu1.out.trans hoa)
        have HV2 := Lib.hid (HV1.out.on hoa)
        have HD2 := Lib.hid (HD1.out.on hoa)
        clear hoa HV1 HD1 HOu1
        go_upto_region 8 with fail
        generalize (u1.alloc (.cells #[.int .u64 ((P1.1.1 : Nat) : Int), .int .u64 ((P1.1.2 : Nat) : Int), .int .u64 ((P1.2.1 : Nat) : Int), .int .u64 ((P1.2.2 : Nat) : Int)] 48)).alloc (.cells #[.int .u64 ((P2.1.1 : Nat) : Int), .int .u64 ((P2.1.2 : Nat) : Int), .int .u64 ((P2.2.1 : Nat) : Int), .int .u64 ((P2.2.2 : Nat) : Int)] 48) = u2 at *
        generalize u1.heap.size = bq at *
        go_cut [86] (fun s86 wx => s86 = .bool false ∧ Hid (On u2 wx))
        case first =>
          have HC1 := Lib.hid (HCKA.out _ _ _ HOu2.out HD2.out)
          have HBX := Lib.hid (HBI.out cp)
          cases hcA : checkB (F : Int) cp i a p
          · rw [hcA] at HC1
            clear hcA
            have o0 := HV2.out.2.1 0 _ rfl
            have o1 := HV2.out.2.1 1 _ rfl
            have o2 := HV2.out.2.1 2 _ rfl
            have o3 := HV2.out.2.1 3 _ rfl
            have o4 := HV2.out.2.1 4 _ rfl
            have o5 := HV2.out.2.1 5 _ rfl
            have o6 := HV2.out.2.1 6 _ rfl
            go_wp2_with fail
            with_reducible refine HC1.out.mono ?_
            rintro e u3 ⟨rfl, hO3⟩
            go_wp2_with fail
            go_meet
            exact ⟨rfl, hO3⟩
          · rw [hcA] at HC1
            have o0 := HV2.out.2.1 0 _ rfl
            have o1 := HV2.out.2.1 1 _ rfl
            have o2 := HV2.out.2.1 2 _ rfl
            have o3 := HV2.out.2.1 3 _ rfl
            have o4 := HV2.out.2.1 4 _ rfl
            have o5 := HV2.out.2.1 5 _ rfl
            have o6 := HV2.out.2.1 6 _ rfl
            go_wp2_with fail
            with_reducible refine HC1.out.mono ?_
            rintro e u3 ⟨rfl, hO3⟩
            clear o0 o1 o2 o3 o4 o5 o6
            have HO3 := Lib.hid hO3
            have HV3 := Lib.hid (HV2.out.on hO3)
            have HC2 := Lib.hid (HCKB.out _ _ _ (HOu2.out.trans hO3) (HD2.out.on hO3))
            clear hO3
            cases hcB : checkB (F : Int) cp i b q
            · rw [hcB] at HC2
              clear hcB hcA
              have o0 := HV3.out.2.1 0 _ rfl
              have o1 := HV3.out.2.1 1 _ rfl
              have o2 := HV3.out.2.1 2 _ rfl
              have o3 := HV3.out.2.1 3 _ rfl
              have o4 := HV3.out.2.1 4 _ rfl
              have o5 := HV3.out.2.1 5 _ rfl
              have o6 := HV3.out.2.1 6 _ rfl
              go_wp2_with fail
              with_reducible refine HC2.out.mono ?_
              rintro e u4 ⟨rfl, hO4⟩
              go_wp2_with fail
              go_meet
              exact ⟨rfl, HO3.out.trans hO4⟩
            · rw [hcB] at HC2
              have o0 := HV3.out.2.1 0 _ rfl
              have o1 := HV3.out.2.1 1 _ rfl
              have o2 := HV3.out.2.1 2 _ rfl
              have o3 := HV3.out.2.1 3 _ rfl
              have o4 := HV3.out.2.1 4 _ rfl
              have o5 := HV3.out.2.1 5 _ rfl
              have o6 := HV3.out.2.1 6 _ rfl
              go_wp2_with fail
              with_reducible refine HC2.out.mono ?_
              rintro e u4 ⟨rfl, hO4⟩
              clear o0 o1 o2 o3 o4 o5 o6
              have HO4 := Lib.hid (HO3.out.trans hO4)
              have HV4 := Lib.hid (HV3.out.on hO4)
              clear hO4
              have HS1 := Lib.hid (HSM.out _ (HOu2.out.trans HO4.out))
              have hSS : fd = false → (decide (a = b) && decide (p = q)) = true := fun h => by obtain ⟨e1, e2⟩ := HBX.out hcA hcB h; simp [e1, e2]
              generalize (decide (a = b) && decide (p = q)) = S at *
              clear hcA hcB HBX HBI
              cases S
              · have hft : fd = true := by cases fd with
                  | false => exact absurd (hSS rfl) (by simp)
                  | true => rfl
                subst hft
                clear hSS
                have o0 := HV4.out.2.1 0 _ rfl
                have o1 := HV4.out.2.1 1 _ rfl
                have o2 := HV4.out.2.1 2 _ rfl
                have o3 := HV4.out.2.1 3 _ rfl
                have o4 := HV4.out.2.1 4 _ rfl
                have o5 := HV4.out.2.1 5 _ rfl
                have o6 := HV4.out.2.1 6 _ rfl
                go_wp2_with fail
                with_reducible refine HS1.out.mono ?_
                rintro e u5 ⟨rfl, hO5⟩
                go_wp2_with fail
                go_meet
                exact ⟨rfl, HO4.out.trans hO5⟩
              · clear hSS
                have o0 := HV4.out.2.1 0 _ rfl
                have o1 := HV4.out.2.1 1 _ rfl
                have o2 := HV4.out.2.1 2 _ rfl
                have o3 := HV4.out.2.1 3 _ rfl
                have o4 := HV4.out.2.1 4 _ rfl
                have o5 := HV4.out.2.1 5 _ rfl
                have o6 := HV4.out.2.1 6 _ rfl
                go_wp2_with fail
                with_reducible refine HS1.out.mono ?_
                rintro e u5 ⟨rfl, hO5⟩
                go_wp2_with fail
                go_meet
                exact ⟨rfl, HO4.out.trans hO5⟩
        case rest =>
          obtain ⟨rfl, HO3⟩ := hcut
          generalize wc = u5 at *
          have HOu5 := Lib.hid (HOu2.out.trans HO3.out)
          have HK : Hid (∀ wq, On u5 wq → _) := fun wq hq => And.intro ((HB8.out.on HO3.out).on hq) ((HB9.out.on HO3.out).on hq)
          clear HB8 HB9 HV2 HD2 HOu2 HO3
          have HCL : Hid (∀ wq, On u5 wq → Calls Tryd.prog 21 #[] wq fun e w' => e = .returned (.bool true) ∧ On u5 w') := fun wq h => (HLV.out wq (HTZ.out.on (HOu5.out.trans h))).mono fun e w' ⟨he, ho⟩ => ⟨he, h.trans ho⟩
          go_upto_region 10 with fail
          cases fd
          · refine region_keep_tail (fun wq => On u5 wq) 25 (by kernel_rfl) (by kernel_rfl) (On.refl HOu5.out.tab).drew ?_
            simp only [List.take_succ_cons, List.take_zero, List.drop_succ_cons, List.drop_zero]
            refine quiet_start fun L9 hL9 => ?_
            refine quiet_take (v := .bool false) hL9 (by kernel_rfl) (fun wq hwq => ?fby0) (fun L9 hL9 => ?fbr0)
            case fby0 => (go_simp; try with_reducible rfl)
            try simp only [Act.put, List.setIfInBounds_toArray, List.set_cons_zero, List.set_cons_succ]
            refine quiet_take (v := .bool true) hL9 (by kernel_rfl) (fun wq hwq => ?fby1) (fun L9 hL9 => ?fbr1)
            case fby1 => (go_simp; try with_reducible rfl)
            try simp only [Act.put, List.setIfInBounds_toArray, List.set_cons_zero, List.set_cons_succ]
            refine quiet_take (v := .bool true) hL9 (by kernel_rfl) (fun wq hwq => ?fby2) (fun L9 hL9 => ?fbr2)
            case fby2 => (go_simp; try with_reducible rfl)
            try simp only [Act.put, List.setIfInBounds_toArray, List.set_cons_zero, List.set_cons_succ]
            refine quiet_skip hL9 (by kernel_rfl) (fun L9 hL9 => ?_)
            try simp only [Act.put, List.setIfInBounds_toArray, List.set_cons_zero, List.set_cons_succ]
            refine quiet_skip hL9 (by kernel_rfl) (fun L9 hL9 => ?_)
            try simp only [Act.put, List.setIfInBounds_toArray, List.set_cons_zero, List.set_cons_succ]
            refine quiet_skip hL9 (by kernel_rfl) (fun L9 hL9 => ?_)
            try simp only [Act.put, List.setIfInBounds_toArray, List.set_cons_zero, List.set_cons_succ]
            refine quiet_skip hL9 (by kernel_rfl) (fun L9 hL9 => ?_)
            try simp only [Act.put, List.setIfInBounds_toArray, List.set_cons_zero, List.set_cons_succ]
            refine quiet_skip hL9 (by kernel_rfl) (fun L9 hL9 => ?_)
            try simp only [Act.put, List.setIfInBounds_toArray, List.set_cons_zero, List.set_cons_succ]
            refine quiet_skip hL9 (by kernel_rfl) (fun L9 hL9 => ?_)
            try simp only [Act.put, List.setIfInBounds_toArray, List.set_cons_zero, List.set_cons_succ]
            refine quiet_skip hL9 (by kernel_rfl) (fun L9 hL9 => ?_)
            try simp only [Act.put, List.setIfInBounds_toArray, List.set_cons_zero, List.set_cons_succ]
            refine quiet_skip hL9 (by kernel_rfl) (fun L9 hL9 => ?_)
            try simp only [Act.put, List.setIfInBounds_toArray, List.set_cons_zero, List.set_cons_succ]
            refine quiet_skip hL9 (by kernel_rfl) (fun L9 hL9 => ?_)
            try simp only [Act.put, List.setIfInBounds_toArray, List.set_cons_zero, List.set_cons_succ]
            refine quiet_skip hL9 (by kernel_rfl) (fun L9 hL9 => ?_)
            try simp only [Act.put, List.setIfInBounds_toArray, List.set_cons_zero, List.set_cons_succ]
            refine quiet_skip hL9 (by kernel_rfl) (fun L9 hL9 => ?_)
            try simp only [Act.put, List.setIfInBounds_toArray, List.set_cons_zero, List.set_cons_succ]
            refine quiet_skip hL9 (by kernel_rfl) (fun L9 hL9 => ?_)
            try simp only [Act.put, List.setIfInBounds_toArray, List.set_cons_zero, List.set_cons_succ]
            refine quiet_skip hL9 (by kernel_rfl) (fun L9 hL9 => ?_)
            try simp only [Act.put, List.setIfInBounds_toArray, List.set_cons_zero, List.set_cons_succ]
            refine quiet_skip hL9 (by kernel_rfl) (fun L9 hL9 => ?_)
            try simp only [Act.put, List.setIfInBounds_toArray, List.set_cons_zero, List.set_cons_succ]
            refine quiet_skip hL9 (by kernel_rfl) (fun L9 hL9 => ?_)
            try simp only [Act.put, List.setIfInBounds_toArray, List.set_cons_zero, List.set_cons_succ]
            refine quiet_skip hL9 (by kernel_rfl) (fun L9 hL9 => ?_)
            try simp only [Act.put, List.setIfInBounds_toArray, List.set_cons_zero, List.set_cons_succ]
            refine quiet_skip hL9 (by kernel_rfl) (fun L9 hL9 => ?_)
            try simp only [Act.put, List.setIfInBounds_toArray, List.set_cons_zero, List.set_cons_succ]
            refine quiet_skip hL9 (by kernel_rfl) (fun L9 hL9 => ?_)
            try simp only [Act.put, List.setIfInBounds_toArray, List.set_cons_zero, List.set_cons_succ]
            refine quiet_take (v := .bool true) hL9 (by kernel_rfl) (fun wq hwq => ?fby21) (fun L9 hL9 => ?fbr21)
            case fby21 => (go_simp; try with_reducible rfl)
            try simp only [Act.put, List.setIfInBounds_toArray, List.set_cons_zero, List.set_cons_succ]
            refine quiet_take (v := .bool true) hL9 (by kernel_rfl) (fun wq hwq => ?fby22) (fun L9 hL9 => ?fbr22)
            case fby22 => (go_simp; try with_reducible rfl)
            try simp only [Act.put, List.setIfInBounds_toArray, List.set_cons_zero, List.set_cons_succ]
            refine quiet_take (v := .bool true) hL9 (by kernel_rfl) (fun wq hwq => ?fby23) (fun L9 hL9 => ?fbr23)
            case fby23 => (go_simp; go_at_call 21; exact HCL.out wq hwq)
            try simp only [Act.put, List.setIfInBounds_toArray, List.set_cons_zero, List.set_cons_succ]
            refine quiet_take (v := .bool true) hL9 (by kernel_rfl) (fun wq hwq => ?fby24) (fun L9 hL9 => ?fbr24)
            case fby24 => (go_simp; try with_reducible rfl)
            try simp only [Act.put, List.setIfInBounds_toArray, List.set_cons_zero, List.set_cons_succ]
            refine quiet_nil hL9 ?_
            clear hL9
            intro wy hOy
            have hOz := HOu5.out.trans hOy
            go_wp2
            go_ret
            exact ⟨rfl, hOz⟩
          · obtain ⟨hne, hnd⟩ := HFD.out rfl
            obtain ⟨D, hD⟩ : ∃ D, D = nodeF (F : Int) P1.1 P1.2 := ⟨_, rfl⟩
            have HQN : Hid (∀ w, (Op.equalIn 10000 48 (prV P1) (prV P2)).run Tryd.prog w = .ok false w) := fun w => by rw [eq_pr, decide_eq_false hne]
            have HQD : Hid (∀ w, (Op.equalIn 10000 36 (dgV D) (dgV D)).run Tryd.prog w = .ok true w) := fun w => by rw [eq_dg, decide_eq_true rfl]
            have HN1 : Hid (∀ wq, On u5 wq → Calls Tryd.prog 35 #[.int .i64 (F : Int), dgV P1.1, dgV P1.2] wq fun e w' => e = .returned (dgV D) ∧ On u5 w') := fun wq h => by rw [hD]; exact (HND.out wq _ _ (HOu5.out.trans h) HSMD.out.1 HSMD.out.2.1).mono fun e w' ⟨he, ho⟩ => ⟨he, h.trans ho⟩
            have HN2 : Hid (∀ wq, On u5 wq → Calls Tryd.prog 35 #[.int .i64 (F : Int), dgV P2.1, dgV P2.2] wq fun e w' => e = .returned (dgV D) ∧ On u5 w') := fun wq h => by rw [hD, hnd]; exact (HND.out wq _ _ (HOu5.out.trans h) HSMD.out.2.2.1 HSMD.out.2.2.2).mono fun e w' ⟨he, ho⟩ => ⟨he, h.trans ho⟩
            clear hne hnd hD
            refine region_keep_tail (fun wq => On u5 wq) 25 (by kernel_rfl) (by kernel_rfl) (On.refl HOu5.out.tab).drew ?_
            simp only [List.take_succ_cons, List.take_zero, List.drop_succ_cons, List.drop_zero]
            refine quiet_start fun L9 hL9 => ?_
            refine quiet_take (v := .bool true) hL9 (by kernel_rfl) (fun wq hwq => ?tby0) (fun L9 hL9 => ?tbr0)
            case tby0 => (go_simp; try with_reducible rfl)
            try simp only [Act.put, List.setIfInBounds_toArray, List.set_cons_zero, List.set_cons_succ]
            refine quiet_take (v := .bool false) hL9 (by kernel_rfl) (fun wq hwq => ?tby1) (fun L9 hL9 => ?tbr1)
            case tby1 => (go_simp; try with_reducible rfl)
            try simp only [Act.put, List.setIfInBounds_toArray, List.set_cons_zero, List.set_cons_succ]
            refine quiet_take (v := .bool false) hL9 (by kernel_rfl) (fun wq hwq => ?tby2) (fun L9 hL9 => ?tbr2)
            case tby2 => (go_simp; try with_reducible rfl)
            try simp only [Act.put, List.setIfInBounds_toArray, List.set_cons_zero, List.set_cons_succ]
            refine quiet_take (v := prV P1) hL9 (by kernel_rfl) (fun wq hwq => ?tby3) (fun L9 hL9 => ?tbr3)
            case tby3 => (obtain ⟨m1, m2⟩ := HK.out wq hwq; have a0 := m1.2.1 0 _ rfl; have a1 := m1.2.1 1 _ rfl; have a2 := m1.2.1 2 _ rfl; have a3 := m1.2.1 3 _ rfl; have b0 := m2.2.1 0 _ rfl; have b1 := m2.2.1 1 _ rfl; have b2 := m2.2.1 2 _ rfl; have b3 := m2.2.1 3 _ rfl; go_simp; try with_reducible rfl)
            try simp only [Act.put, List.setIfInBounds_toArray, List.set_cons_zero, List.set_cons_succ]
            refine quiet_take (v := prV P2) hL9 (by kernel_rfl) (fun wq hwq => ?tby4) (fun L9 hL9 => ?tbr4)
            case tby4 => (obtain ⟨m1, m2⟩ := HK.out wq hwq; have a0 := m1.2.1 0 _ rfl; have a1 := m1.2.1 1 _ rfl; have a2 := m1.2.1 2 _ rfl; have a3 := m1.2.1 3 _ rfl; have b0 := m2.2.1 0 _ rfl; have b1 := m2.2.1 1 _ rfl; have b2 := m2.2.1 2 _ rfl; have b3 := m2.2.1 3 _ rfl; go_simp; try with_reducible rfl)
            try simp only [Act.put, List.setIfInBounds_toArray, List.set_cons_zero, List.set_cons_succ]
            refine quiet_take (v := .bool true) hL9 (by kernel_rfl) (fun wq hwq => ?tby5) (fun L9 hL9 => ?tbr5)
            case tby5 => (have hq := HQN.out; go_simp; try with_reducible rfl)
            try simp only [Act.put, List.setIfInBounds_toArray, List.set_cons_zero, List.set_cons_succ]
            refine quiet_take (v := .bool true) hL9 (by kernel_rfl) (fun wq hwq => ?tby6) (fun L9 hL9 => ?tbr6)
            case tby6 => (go_simp; try with_reducible rfl)
            try simp only [Act.put, List.setIfInBounds_toArray, List.set_cons_zero, List.set_cons_succ]
            refine quiet_take (v := ?tbv7) hL9 (by kernel_rfl) (fun wq hwq => ?tby7) (fun L9 hL9 => ?tbr7)
            case tby7 => (go_simp; try with_reducible rfl)
            try simp only [Act.put, List.setIfInBounds_toArray, List.set_cons_zero, List.set_cons_succ]
            refine quiet_take (v := ?tbv8) hL9 (by kernel_rfl) (fun wq hwq => ?tby8) (fun L9 hL9 => ?tbr8)
            case tby8 => (go_simp; try with_reducible rfl)
            try simp only [Act.put, List.setIfInBounds_toArray, List.set_cons_zero, List.set_cons_succ]
            refine quiet_take (v := dgV P1.1) hL9 (by kernel_rfl) (fun wq hwq => ?tby9) (fun L9 hL9 => ?tbr9)
            case tby9 => (obtain ⟨m1, m2⟩ := HK.out wq hwq; have a0 := m1.2.1 0 _ rfl; have a1 := m1.2.1 1 _ rfl; have a2 := m1.2.1 2 _ rfl; have a3 := m1.2.1 3 _ rfl; have b0 := m2.2.1 0 _ rfl; have b1 := m2.2.1 1 _ rfl; have b2 := m2.2.1 2 _ rfl; have b3 := m2.2.1 3 _ rfl; go_simp; try with_reducible rfl)
            try simp only [Act.put, List.setIfInBounds_toArray, List.set_cons_zero, List.set_cons_succ]
            refine quiet_take (v := ?tbv10) hL9 (by kernel_rfl) (fun wq hwq => ?tby10) (fun L9 hL9 => ?tbr10)
            case tby10 => (go_simp; try with_reducible rfl)
            try simp only [Act.put, List.setIfInBounds_toArray, List.set_cons_zero, List.set_cons_succ]
            refine quiet_take (v := dgV P1.2) hL9 (by kernel_rfl) (fun wq hwq => ?tby11) (fun L9 hL9 => ?tbr11)
            case tby11 => (obtain ⟨m1, m2⟩ := HK.out wq hwq; have a0 := m1.2.1 0 _ rfl; have a1 := m1.2.1 1 _ rfl; have a2 := m1.2.1 2 _ rfl; have a3 := m1.2.1 3 _ rfl; have b0 := m2.2.1 0 _ rfl; have b1 := m2.2.1 1 _ rfl; have b2 := m2.2.1 2 _ rfl; have b3 := m2.2.1 3 _ rfl; go_simp; try with_reducible rfl)
            try simp only [Act.put, List.setIfInBounds_toArray, List.set_cons_zero, List.set_cons_succ]
            refine quiet_take (v := dgV D) hL9 (by kernel_rfl) (fun wq hwq => ?tby12) (fun L9 hL9 => ?tbr12)
            case tby12 => (go_simp; go_at_call 35; exact HN1.out wq hwq)
            try simp only [Act.put, List.setIfInBounds_toArray, List.set_cons_zero, List.set_cons_succ]
            refine quiet_take (v := ?tbv13) hL9 (by kernel_rfl) (fun wq hwq => ?tby13) (fun L9 hL9 => ?tbr13)
            case tby13 => (go_simp; try with_reducible rfl)
            try simp only [Act.put, List.setIfInBounds_toArray, List.set_cons_zero, List.set_cons_succ]
            refine quiet_take (v := ?tbv14) hL9 (by kernel_rfl) (fun wq hwq => ?tby14) (fun L9 hL9 => ?tbr14)
            case tby14 => (go_simp; try with_reducible rfl)
            try simp only [Act.put, List.setIfInBounds_toArray, List.set_cons_zero, List.set_cons_succ]
            refine quiet_take (v := dgV P2.1) hL9 (by kernel_rfl) (fun wq hwq => ?tby15) (fun L9 hL9 => ?tbr15)
            case tby15 => (obtain ⟨m1, m2⟩ := HK.out wq hwq; have a0 := m1.2.1 0 _ rfl; have a1 := m1.2.1 1 _ rfl; have a2 := m1.2.1 2 _ rfl; have a3 := m1.2.1 3 _ rfl; have b0 := m2.2.1 0 _ rfl; have b1 := m2.2.1 1 _ rfl; have b2 := m2.2.1 2 _ rfl; have b3 := m2.2.1 3 _ rfl; go_simp; try with_reducible rfl)
            try simp only [Act.put, List.setIfInBounds_toArray, List.set_cons_zero, List.set_cons_succ]
            refine quiet_take (v := ?tbv16) hL9 (by kernel_rfl) (fun wq hwq => ?tby16) (fun L9 hL9 => ?tbr16)
            case tby16 => (go_simp; try with_reducible rfl)
            try simp only [Act.put, List.setIfInBounds_toArray, List.set_cons_zero, List.set_cons_succ]
            refine quiet_take (v := dgV P2.2) hL9 (by kernel_rfl) (fun wq hwq => ?tby17) (fun L9 hL9 => ?tbr17)
            case tby17 => (obtain ⟨m1, m2⟩ := HK.out wq hwq; have a0 := m1.2.1 0 _ rfl; have a1 := m1.2.1 1 _ rfl; have a2 := m1.2.1 2 _ rfl; have a3 := m1.2.1 3 _ rfl; have b0 := m2.2.1 0 _ rfl; have b1 := m2.2.1 1 _ rfl; have b2 := m2.2.1 2 _ rfl; have b3 := m2.2.1 3 _ rfl; go_simp; try with_reducible rfl)
            try simp only [Act.put, List.setIfInBounds_toArray, List.set_cons_zero, List.set_cons_succ]
            refine quiet_take (v := dgV D) hL9 (by kernel_rfl) (fun wq hwq => ?tby18) (fun L9 hL9 => ?tbr18)
            case tby18 => (go_simp; go_at_call 35; exact HN2.out wq hwq)
            try simp only [Act.put, List.setIfInBounds_toArray, List.set_cons_zero, List.set_cons_succ]
            refine quiet_take (v := .bool true) hL9 (by kernel_rfl) (fun wq hwq => ?tby19) (fun L9 hL9 => ?tbr19)
            case tby19 => (have hq := HQD.out; go_simp; try with_reducible rfl)
            try simp only [Act.put, List.setIfInBounds_toArray, List.set_cons_zero, List.set_cons_succ]
            refine quiet_take (v := .bool true) hL9 (by kernel_rfl) (fun wq hwq => ?tby20) (fun L9 hL9 => ?tbr20)
            case tby20 => (go_simp; try with_reducible rfl)
            try simp only [Act.put, List.setIfInBounds_toArray, List.set_cons_zero, List.set_cons_succ]
            refine quiet_take (v := .bool true) hL9 (by kernel_rfl) (fun wq hwq => ?tby21) (fun L9 hL9 => ?tbr21)
            case tby21 => (go_simp; try with_reducible rfl)
            try simp only [Act.put, List.setIfInBounds_toArray, List.set_cons_zero, List.set_cons_succ]
            refine quiet_take (v := .bool true) hL9 (by kernel_rfl) (fun wq hwq => ?tby22) (fun L9 hL9 => ?tbr22)
            case tby22 => (go_simp; try with_reducible rfl)
            try simp only [Act.put, List.setIfInBounds_toArray, List.set_cons_zero, List.set_cons_succ]
            refine quiet_take (v := .bool true) hL9 (by kernel_rfl) (fun wq hwq => ?tby23) (fun L9 hL9 => ?tbr23)
            case tby23 => (go_simp; go_at_call 21; exact HCL.out wq hwq)
            try simp only [Act.put, List.setIfInBounds_toArray, List.set_cons_zero, List.set_cons_succ]
            refine quiet_take (v := .bool true) hL9 (by kernel_rfl) (fun wq hwq => ?tby24) (fun L9 hL9 => ?tbr24)
            case tby24 => (go_simp; try with_reducible rfl)
            try simp only [Act.put, List.setIfInBounds_toArray, List.set_cons_zero, List.set_cons_succ]
            refine quiet_nil hL9 ?_
            clear hL9
            intro wy hOy
            have hOz := HOu5.out.trans hOy
            go_wp2
            go_ret
            exact ⟨rfl, hOz⟩
    · have hlt : decide ((18 : Int) < (p.length : Int)) = true := by simp; omega
      have hlt2 : (18 : Int) < (p.length : Int) := by omega
      go_wp2_with fail
      with_reducible refine (HLV.out _ (HTZ.out.on HO1.out)).mono ?_
      rintro e wz ⟨rfl, hwz⟩
      go_wp2
      go_ret
      exact ⟨rfl, HO1.out.trans hwz⟩
  · have hnb : ((p.length : Int) != (q.length : Int)) = true := by simp; omega
    go_wp2_with fail
    with_reducible refine (HLV.out _ (HTZ.out.on HO1.out)).mono ?_
    rintro e wz ⟨rfl, hwz⟩
    go_wp2
    go_ret
    exact ⟨rfl, HO1.out.trans hwz⟩
end Go.Proofs.YtnmfneeojnmebaaDoor
