/- The document's systems: perm, lookup: what the calls return. -/
import Derived.Test.YtnanjacllmdenaaDoorKe16
import Derived.Test.YtnanjacllmdenaaDoorKe04
set_option linter.unusedSimpArgs false
set_option linter.unusedVariables false
/- The document's systems: perm, lookup: what the calls return. -/
namespace Go.Proofs.YtnanjacllmdenaaDoor
open Go.RowKit
set_option linter.unusedVariables false

/-- A tuple of length n. -/
def tuN (S : Sy) (n : Nat) (t : List Vr) : Bool := decide (t.length = n) && t.all (tvB S false)
theorem tnB_tuN (S : Sy) {n : Nat} (h : 1 ≤ n ∧ n ≤ 4) (t : List Vr) : tnB S n t = tuN S n t := by
  unfold tnB tuN tuB
  rw [tvB_false]
  by_cases e : t.length = n
  · rw [decide_eq_true e, decide_eq_true (by rw [e]; exact h : 1 ≤ t.length ∧ t.length ≤ 4)]; rfl
  · rw [decide_eq_false e]; rfl
/-- Both sides' tuples. -/
def bothB (S : Sy) (n : Nat) (p : Pm) (i : Nat) : Bool := tuN S n (p.1.getD i []) && tuN S n (p.2.getD i [])
theorem pmB_doc (S : Sy) (p : Pm) : pmB S p = (decide (1 ≤ p.1.length ∧ p.1.length ≤ 4) && (decide (p.2.length = p.1.length) && (decide (1 ≤ (p.1.getD 0 []).length ∧ (p.1.getD 0 []).length ≤ 4) && (List.range p.1.length).all (bothB S (p.1.getD 0 []).length p)))) := by
  unfold pmB
  by_cases h1 : 1 ≤ p.1.length ∧ p.1.length ≤ 4
  rotate_left
  · rw [decide_eq_false h1]; rfl
  by_cases h2 : p.2.length = p.1.length
  rotate_left
  · rw [decide_eq_false h2]; simp
  rw [decide_eq_true h1, decide_eq_true h2]
  by_cases h3 : 1 ≤ (p.1.getD 0 []).length ∧ (p.1.getD 0 []).length ≤ 4
  rotate_left
  · rw [decide_eq_false h3]
    have : (p.1 ++ p.2).all (tnB S (p.1.getD 0 []).length) = false := by
      refine all_no _ [] (p.1 ++ p.2) 0 (by rw [List.length_append]; omega) ?_
      have e : (p.1 ++ p.2).getD 0 [] = p.1.getD 0 [] := by rw [List.getD_eq_getElem?_getD, List.getElem?_append_left (by omega), List.getD_eq_getElem?_getD]
      rw [e]
      unfold tnB tuB
      rw [decide_eq_false h3]; simp
    rw [this]; rfl
  rw [decide_eq_true h3]
  have e : (p.1 ++ p.2).all (tnB S (p.1.getD 0 []).length) = (List.range p.1.length).all (bothB S (p.1.getD 0 []).length p) := by
    generalize (p.1.getD 0 []).length = N at h3 ⊢
    rw [Bool.eq_iff_iff, all_getD _ [], List.all_eq_true]
    constructor
    · intro h i hi
      have hi := List.mem_range.1 hi
      have a := h i (by rw [List.length_append]; omega)
      have b := h (p.1.length + i) (by rw [List.length_append]; omega)
      rw [List.getD_eq_getElem?_getD, List.getElem?_append_left (by omega), ← List.getD_eq_getElem?_getD, tnB_tuN S h3] at a
      rw [List.getD_eq_getElem?_getD, List.getElem?_append_right (by omega), Nat.add_sub_cancel_left, ← List.getD_eq_getElem?_getD, tnB_tuN S h3] at b
      unfold bothB; rw [a, b]; rfl
    · intro h i hi
      rw [List.length_append] at hi
      rw [tnB_tuN S h3]
      rcases Nat.lt_or_ge i p.1.length with hl | hl
      · have a := h i (List.mem_range.2 hl)
        unfold bothB at a
        rw [Bool.and_eq_true] at a
        rw [List.getD_eq_getElem?_getD, List.getElem?_append_left (by omega), ← List.getD_eq_getElem?_getD]; exact a.1
      · have a := h (i - p.1.length) (List.mem_range.2 (by omega))
        unfold bothB at a
        rw [Bool.and_eq_true] at a
        rw [List.getD_eq_getElem?_getD, List.getElem?_append_right (by omega), ← List.getD_eq_getElem?_getD]; exact a.2
  rw [e]; rfl
set_option maxHeartbeats 4000000 in
set_option maxRecDepth 100000 in
theorem rperm_any (S : Sy) (H : Sh) (p : Pm) (pa qa : Option Addr) (pc qc : Nat) (w : World) (hT : Tab w) (hp : TupL w (.slice pa p.1.length pc) p.1) (hq : TupL w (.slice qa p.2.length qc) p.2) :
    Calls Tryd.prog 112 #[syA S H, .agg #[.slice pa p.1.length pc, .slice qa p.2.length qc]] w fun e w' => e = .returned (.bool (pmB S p)) ∧ On w w' := by
  obtain ⟨W0, hW0⟩ : ∃ W0, W0 = (w.alloc (syO S H)).alloc (.cells #[.slice pa p.1.length pc, .slice qa p.2.length qc] 56) := ⟨_, rfl⟩
  have hO0 : On w W0 := by rw [hW0]; exact ((On.refl hT).alloc _).alloc _
  obtain ⟨Q, hQ⟩ : ∃ Q, Q = w.heap.size := ⟨_, rfl⟩
  have HB0 : Hid (VB Q W0 (syL S H)) := by rw [hW0, hQ]; exact Lib.hid ((vb_newS S H w).on ((On.refl ((On.refl hT).alloc _).tab).alloc _))
  have HB1 : Hid (VB (Q + 1) W0 [.slice pa p.1.length pc, .slice qa p.2.length qc]) := by
    have h := vb_new (w.alloc (syO S H)) #[.slice pa p.1.length pc, .slice qa p.2.length qc] 56
    rw [World.size_alloc] at h
    rw [hW0, hQ]; exact Lib.hid h
  have HOK : Hid (On W0 W0) := On.refl hO0.tab
  have HBOX : Hid (∀ V, On W0 V → V.cell? ⟨Q + 1, 0, none⟩ = some (.slice pa p.1.length pc) ∧ V.cell? ⟨Q + 1, 1, none⟩ = some (.slice qa p.2.length qc)) := fun V h => ⟨(HB1.out.on h).2.1 0 _ rfl, (HB1.out.on h).2.1 1 _ rfl⟩
  have HP := Lib.hid hp; have HQQ := Lib.hid hq
  have HW0 := Lib.hid hW0; have HQ := Lib.hid hQ; have HO0 := Lib.hid hO0
  have hL1 := hp.1; have hL2 := hq.1
  rw [pmB_doc]
  obtain ⟨N, hN⟩ : ∃ N, N = (p.1.getD 0 []).length := ⟨_, rfl⟩
  rw [← hN]
  have HNO : Hid (∀ j, j < p.1.length → bothB S N p j = false → (List.range p.1.length).all (bothB S N p) = false) := fun j hj h => by
    rw [Bool.eq_false_iff]; intro h2
    rw [List.all_eq_true] at h2
    rw [h2 j (List.mem_range.2 hj)] at h; cases h
  have HYES : Hid ((∀ j, j < p.1.length → bothB S N p j = true) → (List.range p.1.length).all (bothB S N p) = true) := fun h => List.all_eq_true.2 fun j hj => h j (List.mem_range.1 hj)
  have HNE := Lib.hid hN
  have HTU : Hid (∀ (t : List Vr) (v : Value) (V : World), On W0 V → VRw V v t → Calls Tryd.prog 154 #[syA S H, v, .int .i64 (N : Int), .bool false] V fun e w' => e = .returned (.bool (tuN S N t)) ∧ On V w') := fun t v V h hv => rtuple_any S H t v N false V h.tab hv
  clear hT hp hq hW0 hQ hO0 hN
  generalize (List.range p.1.length).all (bothB S N p) = RR at *
  have HPL : Hid (∀ i, i < p.1.length → ∃ b o a c, pa = some ⟨b, o, none⟩ ∧ w.cell? ⟨b, o + i, none⟩ = some (.slice a (p.1.getD i []).length c) ∧ VRw w (.slice a (p.1.getD i []).length c) (p.1.getD i [])) := fun i hi => by
    obtain ⟨b, o, e, u, c0, c1⟩ := HP.out.cells i hi
    obtain ⟨a, c, rfl⟩ := c1.shape
    exact ⟨b, o, a, c, e, by simpa using c0, c1⟩
  have HQL : Hid (∀ i, i < p.2.length → ∃ b o a c, qa = some ⟨b, o, none⟩ ∧ w.cell? ⟨b, o + i, none⟩ = some (.slice a (p.2.getD i []).length c) ∧ VRw w (.slice a (p.2.getD i []).length c) (p.2.getD i [])) := fun i hi => by
    obtain ⟨b, o, e, u, c0, c1⟩ := HQQ.out.cells i hi
    obtain ⟨a, c, rfl⟩ := c1.shape
    exact ⟨b, o, a, c, e, by simpa using c0, c1⟩
  clear HP HQQ
  obtain ⟨p1, p2⟩ := p
  simp only at hL1 hL2 HB1 HBOX HNE HNO HYES HPL HQL HW0 ⊢
  generalize hn : p1.length = n at *
  generalize hm : p2.length = m at *
  clear hn hm HB1
  by_cases h14 : 1 ≤ n ∧ n ≤ 4
  rotate_left
  · have e : (decide (1 ≤ n ∧ n ≤ 4) && (decide (m = n) && (decide (1 ≤ N ∧ N ≤ 4) && RR))) = false := by rw [decide_eq_false h14]; rfl
    rw [e]; clear e
    by_cases h1 : (n : Int) < 1
    · clear h14
      go_enter Tryd.func112, Tryd.ntmps112
      go_upto_region 1 with fail
      rw [← HW0.out, ← HQ.out]
      obtain ⟨l0, l1⟩ := HBOX.out _ HOK.out
      go_wp2
      go_ret
      exact ⟨rfl, HO0.out⟩
    · have h4 : (4 : Int) < (n : Int) := by omega
      clear h14
      go_enter Tryd.func112, Tryd.ntmps112
      go_upto_region 1 with fail
      rw [← HW0.out, ← HQ.out]
      obtain ⟨l0, l1⟩ := HBOX.out _ HOK.out
      go_wp2
      go_ret
      exact ⟨rfl, HO0.out⟩
  have h1 : ¬ (n : Int) < 1 := by omega
  have h4 : ¬ (4 : Int) < (n : Int) := by omega
  by_cases hmn : m = n
  rotate_left
  · have e : (decide (1 ≤ n ∧ n ≤ 4) && (decide (m = n) && (decide (1 ≤ N ∧ N ≤ 4) && RR))) = false := by rw [decide_eq_false hmn]; simp
    have e2 : ((m : Int) != (n : Int)) = true := by simp; omega
    rw [e]; clear e hmn h14
    go_enter Tryd.func112, Tryd.ntmps112
    go_upto_region 1 with fail
    rw [← HW0.out, ← HQ.out]
    obtain ⟨l0, l1⟩ := HBOX.out _ HOK.out
    go_wp2
    go_ret
    exact ⟨rfl, HO0.out⟩
  obtain rfl : n = m := hmn.symm
  have e : (decide (1 ≤ n ∧ n ≤ 4) && (decide (n = n) && (decide (1 ≤ N ∧ N ≤ 4) && RR))) = (decide (1 ≤ N ∧ N ≤ 4) && RR) := by rw [decide_eq_true h14]; simp
  rw [e]; clear e
  have hn0 : 0 < n := by omega
  have hn0' : (0 : Int) < (n : Int) := by omega
  obtain ⟨lb, lo, a0, c00, rfl, g0, g1⟩ := HPL.out 0 hn0
  rw [← HNE.out] at g0
  have HG0 := Lib.hid (cell_on HO0.out g0)
  clear g0 g1 h14
  by_cases hN14 : 1 ≤ N ∧ N ≤ 4
  rotate_left
  · have e : (decide (1 ≤ N ∧ N ≤ 4) && RR) = false := by rw [decide_eq_false hN14]; rfl
    rw [e]; clear e
    have g0 := HG0.out
    rw [Nat.add_zero] at g0
    by_cases hN1 : (N : Int) < 1
    · clear hN14
      go_enter Tryd.func112, Tryd.ntmps112
      go_upto_region 1 with fail
      rw [← HW0.out, ← HQ.out]
      obtain ⟨l0, l1⟩ := HBOX.out _ HOK.out
      go_wp2
      go_ret
      exact ⟨rfl, HO0.out⟩
    · have hN4 : (4 : Int) < (N : Int) := by omega
      clear hN14
      go_enter Tryd.func112, Tryd.ntmps112
      go_upto_region 1 with fail
      rw [← HW0.out, ← HQ.out]
      obtain ⟨l0, l1⟩ := HBOX.out _ HOK.out
      go_wp2
      go_ret
      exact ⟨rfl, HO0.out⟩
  have e : (decide (1 ≤ N ∧ N ≤ 4) && RR) = RR := by rw [decide_eq_true hN14]; rfl
  rw [e]; clear e
  have hN1 : ¬ (N : Int) < 1 := by omega
  have hN4 : ¬ (4 : Int) < (N : Int) := by omega
  have g0 := HG0.out
  rw [Nat.add_zero] at g0
  clear hN14
  go_enter Tryd.func112, Tryd.ntmps112
  go_upto_region 1 with fail
  rw [← HW0.out, ← HQ.out]
  obtain ⟨l0, l1⟩ := HBOX.out _ HOK.out
  go_wp2_with fail
  clear l0 l1 g0 hN1 hN4 h1 h4
  go_loopw [6] (fun vi wr => ∃ i : Nat, i ≤ n ∧ vi = .int .i64 (i : Int) ∧ Hid (∀ j, j < i → bothB S N (p1, p2) j = true) ∧ Hid (On W0 wr)) (fun vi _ => n - (intOf vi).toNat)
  case atStart => exact ⟨0, Nat.zero_le _, rfl, Lib.hid (fun j hj => absurd hj (Nat.not_lt_zero _)), HOK⟩
  case round =>
    rename World => wr
    obtain ⟨i, hi, rfl, HJ, HO⟩ := hrel
    by_cases hlt : i < n
    · have hlt' : (i : Int) < (n : Int) := by omega
      obtain ⟨lb2, lo2, ta, tc, he, d0, d1⟩ := HPL.out i hlt
      obtain ⟨rb, ro, ra, rc, rfl, f0, f1⟩ := HQL.out i hlt
      simp only [Option.some.injEq, Addr.mk.injEq, and_true] at he
      obtain ⟨rfl, rfl⟩ := he
      have hWr := HO0.out.trans HO.out
      have HJ2 : Hid (bothB S N (p1, p2) i = true → ∀ j, j < i + 1 → bothB S N (p1, p2) j = true) := fun h j hj => by
        by_cases e : j = i
        · rw [e]; exact h
        · exact HJ.out j (by omega)
      have HN := Lib.hid (HNO.out i hlt)
      have e : bothB S N (p1, p2) i = (tuN S N (p1.getD i []) && tuN S N (p2.getD i [])) := rfl
      rw [e] at HJ2 HN
      have HT1 : Hid (∀ wq, On wr wq → Calls Tryd.prog 154 #[syA S H, .slice ta (p1.getD i []).length tc, .int .i64 (N : Int), .bool false] wq fun e w' => e = .returned (.bool (tuN S N (p1.getD i []))) ∧ On wr w') := fun wq h => (HTU.out _ _ wq (HO.out.trans h) (d1.on (hWr.trans h))).mono fun e w' ⟨he, ho⟩ => ⟨he, h.trans ho⟩
      have HT2 : Hid (∀ wq, On wr wq → Calls Tryd.prog 154 #[syA S H, .slice ra (p2.getD i []).length rc, .int .i64 (N : Int), .bool false] wq fun e w' => e = .returned (.bool (tuN S N (p2.getD i []))) ∧ On wr w') := fun wq h => (HTU.out _ _ wq (HO.out.trans h) (f1.on (hWr.trans h))).mono fun e w' ⟨he, ho⟩ => ⟨he, h.trans ho⟩
      have HSY : Hid (∀ wq, On wr wq → _) := fun wq h => sy_cells ((HB0.out.on HO.out).on h)
      have HPB : Hid (∀ wq, On wr wq → wq.cell? ⟨Q + 1, 0, none⟩ = some (.slice (some ⟨lb, lo, none⟩) n pc) ∧ wq.cell? ⟨Q + 1, 1, none⟩ = some (.slice (some ⟨rb, ro, none⟩) n qc)) := fun wq h => HBOX.out wq (HO.out.trans h)
      have HEL : Hid (∀ wq, On wr wq → wq.cell? ⟨lb, lo + i, none⟩ = some (.slice ta (p1.getD i []).length tc) ∧ wq.cell? ⟨rb, ro + i, none⟩ = some (.slice ra (p2.getD i []).length rc)) := fun wq h => ⟨cell_on (hWr.trans h) d0, cell_on (hWr.trans h) f0⟩
      obtain ⟨l0, l1⟩ := HBOX.out wr HO.out
      clear HJ d0 d1 f0 f1 e hWr
      generalize tuN S N (p1.getD i []) = B1 at *
      generalize tuN S N (p2.getD i []) = B2 at *
      generalize (p1.getD i ([] : List Vr)).length = tn at *
      generalize (p2.getD i ([] : List Vr)).length = rn at *
      go_upto_region 9 with fail
      clear l0 l1
      cases B1 with
      | false =>
        refine region_keep_tail (fun wq => On wr wq) 19 (by kernel_rfl) (by kernel_rfl) (On.refl HO.out.tab).drew ?_
        simp only [List.take_succ_cons, List.take_zero, List.drop_succ_cons, List.drop_zero]
        refine quiet_start fun L9 hL9 => ?_
        refine quiet_take (v := syA S H) hL9 (by kernel_rfl) (fun wq hwq => ?ay0) (fun L9 hL9 => ?ar0)
        case ay0 => (obtain ⟨s0, s1, s2, s3, s4, s5, s6, s7⟩ := HSY.out wq hwq; go_simp; try with_reducible rfl)
        try simp only [Act.put, List.setIfInBounds_toArray, List.set_cons_zero, List.set_cons_succ]
        refine quiet_take (v := ?av1) hL9 (by kernel_rfl) (fun wq hwq => ?ay1) (fun L9 hL9 => ?ar1)
        case ay1 => (go_simp; try with_reducible rfl)
        try simp only [Act.put, List.setIfInBounds_toArray, List.set_cons_zero, List.set_cons_succ]
        refine quiet_take (v := .slice (some ⟨lb, lo, none⟩) n pc) hL9 (by kernel_rfl) (fun wq hwq => ?ay2) (fun L9 hL9 => ?ar2)
        case ay2 => (obtain ⟨l0, l1⟩ := HPB.out wq hwq; go_simp; try with_reducible rfl)
        try simp only [Act.put, List.setIfInBounds_toArray, List.set_cons_zero, List.set_cons_succ]
        refine quiet_take (v := ?av3) hL9 (by kernel_rfl) (fun wq hwq => ?ay3) (fun L9 hL9 => ?ar3)
        case ay3 => (go_simp; try with_reducible rfl)
        try simp only [Act.put, List.setIfInBounds_toArray, List.set_cons_zero, List.set_cons_succ]
        refine quiet_take (v := ?av4) hL9 (by kernel_rfl) (fun wq hwq => ?ay4) (fun L9 hL9 => ?ar4)
        case ay4 => (go_simp; try with_reducible rfl)
        try simp only [Act.put, List.setIfInBounds_toArray, List.set_cons_zero, List.set_cons_succ]
        refine quiet_take (v := .slice ta tn tc) hL9 (by kernel_rfl) (fun wq hwq => ?ay5) (fun L9 hL9 => ?ar5)
        case ay5 => (obtain ⟨z0, z1⟩ := HEL.out wq hwq; go_simp; try with_reducible rfl)
        try simp only [Act.put, List.setIfInBounds_toArray, List.set_cons_zero, List.set_cons_succ]
        refine quiet_take (v := ?av6) hL9 (by kernel_rfl) (fun wq hwq => ?ay6) (fun L9 hL9 => ?ar6)
        case ay6 => (go_simp; try with_reducible rfl)
        try simp only [Act.put, List.setIfInBounds_toArray, List.set_cons_zero, List.set_cons_succ]
        refine quiet_take (v := .bool false) hL9 (by kernel_rfl) (fun wq hwq => ?ay7) (fun L9 hL9 => ?ar7)
        case ay7 => (go_simp; go_at_call 154; exact HT1.out wq hwq)
        try simp only [Act.put, List.setIfInBounds_toArray, List.set_cons_zero, List.set_cons_succ]
        refine quiet_take (v := .bool true) hL9 (by kernel_rfl) (fun wq hwq => ?ay8) (fun L9 hL9 => ?ar8)
        case ay8 => (go_simp; try with_reducible rfl)
        try simp only [Act.put, List.setIfInBounds_toArray, List.set_cons_zero, List.set_cons_succ]
        refine quiet_take (v := .bool true) hL9 (by kernel_rfl) (fun wq hwq => ?ay9) (fun L9 hL9 => ?ar9)
        case ay9 => (go_simp; try with_reducible rfl)
        try simp only [Act.put, List.setIfInBounds_toArray, List.set_cons_zero, List.set_cons_succ]
        refine quiet_skip hL9 (by kernel_rfl) (fun L9 hL9 => ?_)
        try simp only [Act.put, List.setIfInBounds_toArray, List.set_cons_zero, List.set_cons_succ]
        refine quiet_skip hL9 (by kernel_rfl) (fun L9 hL9 => ?_)
        try simp only [Act.put, List.setIfInBounds_toArray, List.set_cons_zero, List.set_cons_succ]
        refine quiet_skip hL9 (by kernel_rfl) (fun L9 hL9 => ?_)
        try simp only [Act.put, List.setIfInBounds_toArray, List.set_cons_zero, List.set_cons_succ]
        refine quiet_skip hL9 (by kernel_rfl) (fun L9 hL9 => ?_)
        try simp only [Act.put, List.setIfInBounds_toArray, List.set_cons_zero, List.set_cons_succ]
        refine quiet_skip hL9 (by kernel_rfl) (fun L9 hL9 => ?_)
        try simp only [Act.put, List.setIfInBounds_toArray, List.set_cons_zero, List.set_cons_succ]
        refine quiet_skip hL9 (by kernel_rfl) (fun L9 hL9 => ?_)
        try simp only [Act.put, List.setIfInBounds_toArray, List.set_cons_zero, List.set_cons_succ]
        refine quiet_skip hL9 (by kernel_rfl) (fun L9 hL9 => ?_)
        try simp only [Act.put, List.setIfInBounds_toArray, List.set_cons_zero, List.set_cons_succ]
        refine quiet_skip hL9 (by kernel_rfl) (fun L9 hL9 => ?_)
        try simp only [Act.put, List.setIfInBounds_toArray, List.set_cons_zero, List.set_cons_succ]
        refine quiet_skip hL9 (by kernel_rfl) (fun L9 hL9 => ?_)
        try simp only [Act.put, List.setIfInBounds_toArray, List.set_cons_zero, List.set_cons_succ]
        refine quiet_nil hL9 ?_
        clear hL9
        intro wy hOy
        have HF := Lib.hid (HN.out rfl)
        have hOz := HO0.out.trans (HO.out.trans hOy)
        go_wp2
        go_ret
        exact ⟨by rw [HF.out]; rfl, hOz⟩
      | true =>
        cases B2 with
        | false =>
          refine region_keep_tail (fun wq => On wr wq) 19 (by kernel_rfl) (by kernel_rfl) (On.refl HO.out.tab).drew ?_
          simp only [List.take_succ_cons, List.take_zero, List.drop_succ_cons, List.drop_zero]
          refine quiet_start fun L9 hL9 => ?_
          refine quiet_take (v := syA S H) hL9 (by kernel_rfl) (fun wq hwq => ?by0) (fun L9 hL9 => ?br0)
          case by0 => (obtain ⟨s0, s1, s2, s3, s4, s5, s6, s7⟩ := HSY.out wq hwq; go_simp; try with_reducible rfl)
          try simp only [Act.put, List.setIfInBounds_toArray, List.set_cons_zero, List.set_cons_succ]
          refine quiet_take (v := ?bv1) hL9 (by kernel_rfl) (fun wq hwq => ?by1) (fun L9 hL9 => ?br1)
          case by1 => (go_simp; try with_reducible rfl)
          try simp only [Act.put, List.setIfInBounds_toArray, List.set_cons_zero, List.set_cons_succ]
          refine quiet_take (v := .slice (some ⟨lb, lo, none⟩) n pc) hL9 (by kernel_rfl) (fun wq hwq => ?by2) (fun L9 hL9 => ?br2)
          case by2 => (obtain ⟨l0, l1⟩ := HPB.out wq hwq; go_simp; try with_reducible rfl)
          try simp only [Act.put, List.setIfInBounds_toArray, List.set_cons_zero, List.set_cons_succ]
          refine quiet_take (v := ?bv3) hL9 (by kernel_rfl) (fun wq hwq => ?by3) (fun L9 hL9 => ?br3)
          case by3 => (go_simp; try with_reducible rfl)
          try simp only [Act.put, List.setIfInBounds_toArray, List.set_cons_zero, List.set_cons_succ]
          refine quiet_take (v := ?bv4) hL9 (by kernel_rfl) (fun wq hwq => ?by4) (fun L9 hL9 => ?br4)
          case by4 => (go_simp; try with_reducible rfl)
          try simp only [Act.put, List.setIfInBounds_toArray, List.set_cons_zero, List.set_cons_succ]
          refine quiet_take (v := .slice ta tn tc) hL9 (by kernel_rfl) (fun wq hwq => ?by5) (fun L9 hL9 => ?br5)
          case by5 => (obtain ⟨z0, z1⟩ := HEL.out wq hwq; go_simp; try with_reducible rfl)
          try simp only [Act.put, List.setIfInBounds_toArray, List.set_cons_zero, List.set_cons_succ]
          refine quiet_take (v := ?bv6) hL9 (by kernel_rfl) (fun wq hwq => ?by6) (fun L9 hL9 => ?br6)
          case by6 => (go_simp; try with_reducible rfl)
          try simp only [Act.put, List.setIfInBounds_toArray, List.set_cons_zero, List.set_cons_succ]
          refine quiet_take (v := .bool true) hL9 (by kernel_rfl) (fun wq hwq => ?by7) (fun L9 hL9 => ?br7)
          case by7 => (go_simp; go_at_call 154; exact HT1.out wq hwq)
          try simp only [Act.put, List.setIfInBounds_toArray, List.set_cons_zero, List.set_cons_succ]
          refine quiet_take (v := .bool false) hL9 (by kernel_rfl) (fun wq hwq => ?by8) (fun L9 hL9 => ?br8)
          case by8 => (go_simp; try with_reducible rfl)
          try simp only [Act.put, List.setIfInBounds_toArray, List.set_cons_zero, List.set_cons_succ]
          refine quiet_take (v := .bool false) hL9 (by kernel_rfl) (fun wq hwq => ?by9) (fun L9 hL9 => ?br9)
          case by9 => (go_simp; try with_reducible rfl)
          try simp only [Act.put, List.setIfInBounds_toArray, List.set_cons_zero, List.set_cons_succ]
          refine quiet_take (v := syA S H) hL9 (by kernel_rfl) (fun wq hwq => ?by10) (fun L9 hL9 => ?br10)
          case by10 => (obtain ⟨s0, s1, s2, s3, s4, s5, s6, s7⟩ := HSY.out wq hwq; go_simp; try with_reducible rfl)
          try simp only [Act.put, List.setIfInBounds_toArray, List.set_cons_zero, List.set_cons_succ]
          refine quiet_take (v := ?bv11) hL9 (by kernel_rfl) (fun wq hwq => ?by11) (fun L9 hL9 => ?br11)
          case by11 => (go_simp; try with_reducible rfl)
          try simp only [Act.put, List.setIfInBounds_toArray, List.set_cons_zero, List.set_cons_succ]
          refine quiet_take (v := .slice (some ⟨rb, ro, none⟩) n qc) hL9 (by kernel_rfl) (fun wq hwq => ?by12) (fun L9 hL9 => ?br12)
          case by12 => (obtain ⟨l0, l1⟩ := HPB.out wq hwq; go_simp; try with_reducible rfl)
          try simp only [Act.put, List.setIfInBounds_toArray, List.set_cons_zero, List.set_cons_succ]
          refine quiet_take (v := ?bv13) hL9 (by kernel_rfl) (fun wq hwq => ?by13) (fun L9 hL9 => ?br13)
          case by13 => (go_simp; try with_reducible rfl)
          try simp only [Act.put, List.setIfInBounds_toArray, List.set_cons_zero, List.set_cons_succ]
          refine quiet_take (v := ?bv14) hL9 (by kernel_rfl) (fun wq hwq => ?by14) (fun L9 hL9 => ?br14)
          case by14 => (go_simp; try with_reducible rfl)
          try simp only [Act.put, List.setIfInBounds_toArray, List.set_cons_zero, List.set_cons_succ]
          refine quiet_take (v := .slice ra rn rc) hL9 (by kernel_rfl) (fun wq hwq => ?by15) (fun L9 hL9 => ?br15)
          case by15 => (obtain ⟨z0, z1⟩ := HEL.out wq hwq; go_simp; try with_reducible rfl)
          try simp only [Act.put, List.setIfInBounds_toArray, List.set_cons_zero, List.set_cons_succ]
          refine quiet_take (v := ?bv16) hL9 (by kernel_rfl) (fun wq hwq => ?by16) (fun L9 hL9 => ?br16)
          case by16 => (go_simp; try with_reducible rfl)
          try simp only [Act.put, List.setIfInBounds_toArray, List.set_cons_zero, List.set_cons_succ]
          refine quiet_take (v := .bool false) hL9 (by kernel_rfl) (fun wq hwq => ?by17) (fun L9 hL9 => ?br17)
          case by17 => (go_simp; go_at_call 154; exact HT2.out wq hwq)
          try simp only [Act.put, List.setIfInBounds_toArray, List.set_cons_zero, List.set_cons_succ]
          refine quiet_take (v := .bool true) hL9 (by kernel_rfl) (fun wq hwq => ?by18) (fun L9 hL9 => ?br18)
          case by18 => (go_simp; try with_reducible rfl)
          try simp only [Act.put, List.setIfInBounds_toArray, List.set_cons_zero, List.set_cons_succ]
          refine quiet_nil hL9 ?_
          clear hL9
          intro wy hOy
          have HF := Lib.hid (HN.out rfl)
          have hOz := HO0.out.trans (HO.out.trans hOy)
          go_wp2
          go_ret
          exact ⟨by rw [HF.out]; rfl, hOz⟩
        | true =>
          refine region_keep_tail (fun wq => On wr wq) 19 (by kernel_rfl) (by kernel_rfl) (On.refl HO.out.tab).drew ?_
          simp only [List.take_succ_cons, List.take_zero, List.drop_succ_cons, List.drop_zero]
          refine quiet_start fun L9 hL9 => ?_
          refine quiet_take (v := syA S H) hL9 (by kernel_rfl) (fun wq hwq => ?cy0) (fun L9 hL9 => ?cr0)
          case cy0 => (obtain ⟨s0, s1, s2, s3, s4, s5, s6, s7⟩ := HSY.out wq hwq; go_simp; try with_reducible rfl)
          try simp only [Act.put, List.setIfInBounds_toArray, List.set_cons_zero, List.set_cons_succ]
          refine quiet_take (v := ?cv1) hL9 (by kernel_rfl) (fun wq hwq => ?cy1) (fun L9 hL9 => ?cr1)
          case cy1 => (go_simp; try with_reducible rfl)
          try simp only [Act.put, List.setIfInBounds_toArray, List.set_cons_zero, List.set_cons_succ]
          refine quiet_take (v := .slice (some ⟨lb, lo, none⟩) n pc) hL9 (by kernel_rfl) (fun wq hwq => ?cy2) (fun L9 hL9 => ?cr2)
          case cy2 => (obtain ⟨l0, l1⟩ := HPB.out wq hwq; go_simp; try with_reducible rfl)
          try simp only [Act.put, List.setIfInBounds_toArray, List.set_cons_zero, List.set_cons_succ]
          refine quiet_take (v := ?cv3) hL9 (by kernel_rfl) (fun wq hwq => ?cy3) (fun L9 hL9 => ?cr3)
          case cy3 => (go_simp; try with_reducible rfl)
          try simp only [Act.put, List.setIfInBounds_toArray, List.set_cons_zero, List.set_cons_succ]
          refine quiet_take (v := ?cv4) hL9 (by kernel_rfl) (fun wq hwq => ?cy4) (fun L9 hL9 => ?cr4)
          case cy4 => (go_simp; try with_reducible rfl)
          try simp only [Act.put, List.setIfInBounds_toArray, List.set_cons_zero, List.set_cons_succ]
          refine quiet_take (v := .slice ta tn tc) hL9 (by kernel_rfl) (fun wq hwq => ?cy5) (fun L9 hL9 => ?cr5)
          case cy5 => (obtain ⟨z0, z1⟩ := HEL.out wq hwq; go_simp; try with_reducible rfl)
          try simp only [Act.put, List.setIfInBounds_toArray, List.set_cons_zero, List.set_cons_succ]
          refine quiet_take (v := ?cv6) hL9 (by kernel_rfl) (fun wq hwq => ?cy6) (fun L9 hL9 => ?cr6)
          case cy6 => (go_simp; try with_reducible rfl)
          try simp only [Act.put, List.setIfInBounds_toArray, List.set_cons_zero, List.set_cons_succ]
          refine quiet_take (v := .bool true) hL9 (by kernel_rfl) (fun wq hwq => ?cy7) (fun L9 hL9 => ?cr7)
          case cy7 => (go_simp; go_at_call 154; exact HT1.out wq hwq)
          try simp only [Act.put, List.setIfInBounds_toArray, List.set_cons_zero, List.set_cons_succ]
          refine quiet_take (v := .bool false) hL9 (by kernel_rfl) (fun wq hwq => ?cy8) (fun L9 hL9 => ?cr8)
          case cy8 => (go_simp; try with_reducible rfl)
          try simp only [Act.put, List.setIfInBounds_toArray, List.set_cons_zero, List.set_cons_succ]
          refine quiet_take (v := .bool false) hL9 (by kernel_rfl) (fun wq hwq => ?cy9) (fun L9 hL9 => ?cr9)
          case cy9 => (go_simp; try with_reducible rfl)
          try simp only [Act.put, List.setIfInBounds_toArray, List.set_cons_zero, List.set_cons_succ]
          refine quiet_take (v := syA S H) hL9 (by kernel_rfl) (fun wq hwq => ?cy10) (fun L9 hL9 => ?cr10)
          case cy10 => (obtain ⟨s0, s1, s2, s3, s4, s5, s6, s7⟩ := HSY.out wq hwq; go_simp; try with_reducible rfl)
          try simp only [Act.put, List.setIfInBounds_toArray, List.set_cons_zero, List.set_cons_succ]
          refine quiet_take (v := ?cv11) hL9 (by kernel_rfl) (fun wq hwq => ?cy11) (fun L9 hL9 => ?cr11)
          case cy11 => (go_simp; try with_reducible rfl)
          try simp only [Act.put, List.setIfInBounds_toArray, List.set_cons_zero, List.set_cons_succ]
          refine quiet_take (v := .slice (some ⟨rb, ro, none⟩) n qc) hL9 (by kernel_rfl) (fun wq hwq => ?cy12) (fun L9 hL9 => ?cr12)
          case cy12 => (obtain ⟨l0, l1⟩ := HPB.out wq hwq; go_simp; try with_reducible rfl)
          try simp only [Act.put, List.setIfInBounds_toArray, List.set_cons_zero, List.set_cons_succ]
          refine quiet_take (v := ?cv13) hL9 (by kernel_rfl) (fun wq hwq => ?cy13) (fun L9 hL9 => ?cr13)
          case cy13 => (go_simp; try with_reducible rfl)
          try simp only [Act.put, List.setIfInBounds_toArray, List.set_cons_zero, List.set_cons_succ]
          refine quiet_take (v := ?cv14) hL9 (by kernel_rfl) (fun wq hwq => ?cy14) (fun L9 hL9 => ?cr14)
          case cy14 => (go_simp; try with_reducible rfl)
          try simp only [Act.put, List.setIfInBounds_toArray, List.set_cons_zero, List.set_cons_succ]
          refine quiet_take (v := .slice ra rn rc) hL9 (by kernel_rfl) (fun wq hwq => ?cy15) (fun L9 hL9 => ?cr15)
          case cy15 => (obtain ⟨z0, z1⟩ := HEL.out wq hwq; go_simp; try with_reducible rfl)
          try simp only [Act.put, List.setIfInBounds_toArray, List.set_cons_zero, List.set_cons_succ]
          refine quiet_take (v := ?cv16) hL9 (by kernel_rfl) (fun wq hwq => ?cy16) (fun L9 hL9 => ?cr16)
          case cy16 => (go_simp; try with_reducible rfl)
          try simp only [Act.put, List.setIfInBounds_toArray, List.set_cons_zero, List.set_cons_succ]
          refine quiet_take (v := .bool true) hL9 (by kernel_rfl) (fun wq hwq => ?cy17) (fun L9 hL9 => ?cr17)
          case cy17 => (go_simp; go_at_call 154; exact HT2.out wq hwq)
          try simp only [Act.put, List.setIfInBounds_toArray, List.set_cons_zero, List.set_cons_succ]
          refine quiet_take (v := .bool false) hL9 (by kernel_rfl) (fun wq hwq => ?cy18) (fun L9 hL9 => ?cr18)
          case cy18 => (go_simp; try with_reducible rfl)
          try simp only [Act.put, List.setIfInBounds_toArray, List.set_cons_zero, List.set_cons_succ]
          refine quiet_nil hL9 ?_
          clear hL9
          intro wy hOy
          have HF := Lib.hid (HJ2.out rfl)
          have hOz := Lib.hid (HO.out.trans hOy)
          clear hOy
          go_wp2
          go_roundw
          case rel => exact ⟨i + 1, by omega, by simp, HF, hOz⟩
          case measure => simp [intOf]; omega
    · obtain rfl : n = i := by omega
      have HG := Lib.hid (HYES.out HJ.out)
      have hOz := HO0.out.trans HO.out
      obtain ⟨l0, l1⟩ := HBOX.out wr HO.out
      clear HJ
      go_wp2
      go_ret
      exact ⟨by rw [HG.out]; rfl, hOz⟩
theorem lkB_doc (S : Sy) (l : Lk) : lkB S l = (decide (1 ≤ l.tu.length ∧ l.tu.length ≤ 4) && ((l.ct.1 == 1) && (hasV S l.ct && (tuN S l.tu.length l.tu && (decide (l.ta.length = l.tu.length) && l.ta.all (tvB S true)))))) := by
  have e : hasK S [1] l.ct = (hasV S l.ct && (l.ct.1 == 1)) := by unfold hasK; by_cases h : l.ct.1 = 1 <;> simp [h]
  unfold lkB tuB tuN
  rw [tvB_false, tvB_true, e]
  by_cases h2 : l.ta.length = l.tu.length
  · rw [h2]
    generalize decide (1 ≤ l.tu.length ∧ l.tu.length ≤ 4) = a
    generalize l.tu.all (hasK S [1, 3]) = b
    generalize l.ta.all (hasK S [3]) = c
    generalize hasV S l.ct = d
    generalize (l.ct.1 == 1) = e
    cases a <;> cases b <;> cases c <;> cases d <;> cases e <;> simp
  · rw [decide_eq_false h2]; simp
set_option maxHeartbeats 4000000 in
set_option maxRecDepth 100000 in
theorem rlookup_any (S : Sy) (H : Sh) (l : Lk) (au av : Option Addr) (cu cv : Nat) (w : World) (hT : Tab w) (hu : VRw w (.slice au l.tu.length cu) l.tu) (hv : VRw w (.slice av l.ta.length cv) l.ta) :
    Calls Tryd.prog 113 #[syA S H, .agg #[.slice au l.tu.length cu, .slice av l.ta.length cv, .int .u8 l.ct.1, .int .i64 l.ct.2]] w fun e w' => e = .returned (.bool (lkB S l)) ∧ On w w' := by
  obtain ⟨W0, hW0⟩ : ∃ W0, W0 = (w.alloc (syO S H)).alloc (.cells #[.slice au l.tu.length cu, .slice av l.ta.length cv, .int .u8 l.ct.1, .int .i64 l.ct.2] 81) := ⟨_, rfl⟩
  have hO0 : On w W0 := by rw [hW0]; exact ((On.refl hT).alloc _).alloc _
  obtain ⟨Q, hQ⟩ : ∃ Q, Q = w.heap.size := ⟨_, rfl⟩
  have HB0 : Hid (VB Q W0 (syL S H)) := by rw [hW0, hQ]; exact Lib.hid ((vb_newS S H w).on ((On.refl ((On.refl hT).alloc _).tab).alloc _))
  have HB1 : Hid (VB (Q + 1) W0 [.slice au l.tu.length cu, .slice av l.ta.length cv, .int .u8 l.ct.1, .int .i64 l.ct.2]) := by
    have h := vb_new (w.alloc (syO S H)) #[.slice au l.tu.length cu, .slice av l.ta.length cv, .int .u8 l.ct.1, .int .i64 l.ct.2] 81
    rw [World.size_alloc] at h
    rw [hW0, hQ]; exact Lib.hid h
  have HOK : Hid (On W0 W0) := On.refl hO0.tab
  have HSY : Hid (∀ u, On W0 u → _) := fun u h => sy_cells (HB0.out.on h)
  have HLK : Hid (∀ V, On W0 V → V.cell? ⟨Q + 1, 0, none⟩ = some (.slice au l.tu.length cu) ∧ V.cell? ⟨Q + 1, 1, none⟩ = some (.slice av l.ta.length cv) ∧ V.cell? ⟨Q + 1, 2, none⟩ = some (.int .u8 l.ct.1) ∧ V.cell? ⟨Q + 1, 3, none⟩ = some (.int .i64 l.ct.2)) := fun V h => ⟨(HB1.out.on h).2.1 0 _ rfl, (HB1.out.on h).2.1 1 _ rfl, (HB1.out.on h).2.1 2 _ rfl, (HB1.out.on h).2.1 3 _ rfl⟩
  have HWI : Hid (∀ u, On W0 u → Calls Tryd.prog 152 #[syA S H, .agg #[.int .u8 l.ct.1, .int .i64 l.ct.2]] u fun e w' => e = .returned (.bool (hasV S l.ct)) ∧ On W0 w') := fun u h => (rwithin_any S H l.ct u h.tab).mono fun e w' ⟨he, ho⟩ => ⟨he, h.trans ho⟩
  have HT1 : Hid (∀ u, On W0 u → Calls Tryd.prog 154 #[syA S H, .slice au l.tu.length cu, .int .i64 ((l.tu.length : Nat) : Int), .bool false] u fun e w' => e = .returned (.bool (tuN S l.tu.length l.tu)) ∧ On W0 w') := fun u h => (rtuple_any S H l.tu _ l.tu.length false u h.tab (hu.on (hO0.trans h))).mono fun e w' ⟨he, ho⟩ => ⟨he, h.trans ho⟩
  have HT2 : Hid (∀ u, On W0 u → Calls Tryd.prog 154 #[syA S H, .slice av l.ta.length cv, .int .i64 ((l.tu.length : Nat) : Int), .bool true] u fun e w' => e = .returned (.bool (decide (l.ta.length = l.tu.length) && l.ta.all (tvB S true))) ∧ On W0 w') := fun u h => (rtuple_any S H l.ta _ l.tu.length true u h.tab (hv.on (hO0.trans h))).mono fun e w' ⟨he, ho⟩ => ⟨he, h.trans ho⟩
  rw [lkB_doc]
  have HW0 := Lib.hid hW0; have HQ := Lib.hid hQ; have HO0 := Lib.hid hO0
  clear hT hu hv hW0 hQ hO0 HB0 HB1
  generalize tuN S l.tu.length l.tu = B at *
  generalize (decide (l.ta.length = l.tu.length) && l.ta.all (tvB S true)) = C at *
  generalize hasV S l.ct = D at *
  generalize l.tu.length = n at *
  generalize l.ta.length = m at *
  obtain ⟨a0, a1, ct⟩ := l
  obtain ⟨ck, ci⟩ := ct
  simp only at HW0 HLK HWI ⊢
  by_cases h14 : 1 ≤ n ∧ n ≤ 4
  rotate_left
  · have e : (decide (1 ≤ n ∧ n ≤ 4) && ((ck == 1) && (D && (B && C)))) = false := by rw [decide_eq_false h14]; rfl
    rw [e]; clear e
    by_cases h1 : (n : Int) < 1
    · clear h14
      go_enter Tryd.func113, Tryd.ntmps113
      go_upto_region 1 with fail
      rw [← HW0.out, ← HQ.out]
      obtain ⟨l0, l1, l2, l3⟩ := HLK.out _ HOK.out
      go_wp2
      go_ret
      exact ⟨rfl, HO0.out⟩
    · have h4 : (4 : Int) < (n : Int) := by omega
      clear h14
      go_enter Tryd.func113, Tryd.ntmps113
      go_upto_region 1 with fail
      rw [← HW0.out, ← HQ.out]
      obtain ⟨l0, l1, l2, l3⟩ := HLK.out _ HOK.out
      go_wp2
      go_ret
      exact ⟨rfl, HO0.out⟩
  have h1 : ¬ (n : Int) < 1 := by omega
  have h4 : ¬ (4 : Int) < (n : Int) := by omega
  have e : (decide (1 ≤ n ∧ n ≤ 4) && ((ck == 1) && (D && (B && C)))) = ((ck == 1) && (D && (B && C))) := by rw [decide_eq_true h14]; rfl
  rw [e]; clear e h14
  by_cases hk : ck = 1
  rotate_left
  · have e : ((ck == 1) && (D && (B && C))) = false := by rw [beq_no hk]; rfl
    have e1 : (ck != 1) = true := by simp [hk]
    rw [e]; clear e hk
    go_enter Tryd.func113, Tryd.ntmps113
    go_upto_region 1 with fail
    rw [← HW0.out, ← HQ.out]
    obtain ⟨l0, l1, l2, l3⟩ := HLK.out _ HOK.out
    go_wp2
    go_ret
    exact ⟨rfl, HO0.out⟩
  subst hk
  have e : (((1 : Int) == 1) && (D && (B && C))) = (D && (B && C)) := by simp
  rw [e]; clear e
  cases D <;> cases B <;> cases C
  all_goals (go_enter Tryd.func113, Tryd.ntmps113
             go_upto_region 1 with fail
             rw [← HW0.out, ← HQ.out]
             obtain ⟨l0, l1, l2, l3⟩ := HLK.out _ HOK.out
             obtain ⟨s0, s1, s2, s3, s4, s5, s6, s7⟩ := HSY.out _ HOK.out
             go_wp2_with (first
               | (go_at_call 152; (with_reducible refine (HWI.out _ HOK.out).mono ?_); rintro e w1 ⟨rfl, hO1⟩; obtain ⟨s0, s1, s2, s3, s4, s5, s6, s7⟩ := HSY.out w1 hO1; obtain ⟨l0, l1, l2, l3⟩ := HLK.out w1 hO1)
               | (go_at_call 154; (with_reducible refine (HT1.out _ hO1).mono ?_); rintro e w2 ⟨rfl, hO2⟩; obtain ⟨s0, s1, s2, s3, s4, s5, s6, s7⟩ := HSY.out w2 hO2; obtain ⟨l0, l1, l2, l3⟩ := HLK.out w2 hO2)
               | (go_at_call 154; (with_reducible refine (HT2.out _ hO2).mono ?_); rintro e w3 ⟨rfl, hO3⟩)
               | fail)
             go_ret
             first | exact ⟨rfl, HO0.out.trans hO3⟩ | exact ⟨rfl, HO0.out.trans hO2⟩ | exact ⟨rfl, HO0.out.trans hO1⟩ | fail)
end Go.Proofs.YtnanjacllmdenaaDoor

/- The document's systems: Valid: what the call returns. -/
namespace Go.Proofs.YtnanjacllmdenaaDoor
open Go.RowKit
set_option linter.unusedVariables false

theorem rvalid13_sizes (S : Sy) : szS S = (validB S.f && (!decide (S.rows < 1) && (!decide (13 < S.rows) && (!decide ((twoOf S.f : Int) < S.rows) && (!decide (S.main < 1) && (!decide (64 < S.main) && (!decide (S.pub < 0) && (!decide (16 < S.pub) &&
    (!decide ((64 : Int) < ((S.fixed.length : Nat) : Int)) && (!decide ((64 : Int) < ((S.rules.length : Nat) : Int)) && (!decide ((4 : Int) < ((S.perms.length : Nat) : Int)) && !decide ((8 : Int) < ((S.looks.length : Nat) : Int))))))))))))) := by
  rw [Bool.eq_iff_iff]
  unfold szS
  simp only [Bool.and_eq_true, decide_eq_true_eq, Bool.not_eq_true', decide_eq_false_iff_not]
  constructor
  · rintro ⟨⟨⟨⟨⟨⟨⟨h1, h2⟩, h3⟩, h4⟩, h5⟩, h6⟩, h7⟩, h8⟩
    refine ⟨h1, ?_, ?_, ?_, ?_, ?_, ?_, ?_, ?_, ?_, ?_, ?_⟩ <;> omega
  · rintro ⟨h1, h2, h3, h4, h5, h6, h7, h8, h9, ha, hb, hc⟩
    refine ⟨⟨⟨⟨⟨⟨⟨h1, ?_⟩, ?_⟩, ?_⟩, ?_⟩, ?_⟩, ?_⟩, ?_⟩ <;> omega
def loopsB (S : Sy) : Bool := S.fixed.all (colB S) && (S.rules.all (ruB S) && (S.perms.all (pmB S) && S.looks.all (lkB S)))
set_option maxHeartbeats 8000000 in
set_option maxRecDepth 100000 in
theorem rvalid13_no (S : Sy) (H : Sh) (w : World) (hT : Tab w) (hs : szS S = false) :
    Calls Tryd.prog 55 #[syA S H] w fun e w' => e = .returned (.bool (valSy S)) ∧ On w w' := by
  obtain ⟨W0, hW0⟩ : ∃ W0, W0 = w.alloc (syO S H) := ⟨_, rfl⟩
  have hO0 : On w W0 := by rw [hW0]; exact (On.refl hT).alloc _
  obtain ⟨Q, hQ⟩ : ∃ Q, Q = w.heap.size := ⟨_, rfl⟩
  have HB0 : Hid (VB Q W0 (syL S H)) := by rw [hW0, hQ]; exact Lib.hid (vb_newS S H w)
  have HSY0 : Hid (∀ wq, On W0 wq → _) := fun wq h => sy_cells (HB0.out.on h)
  have HOK : Hid (On W0 W0) := On.refl hO0.tab
  have HW0 := Lib.hid hW0; have HO0 := Lib.hid hO0; have HQ := Lib.hid hQ
  have E : valSy S = false := by unfold valSy; rw [hs]; rfl
  rw [E]
  have HVF : Hid (∀ wq, On W0 wq → Calls Tryd.prog 69 #[.int .i64 S.f] wq fun e w' => e = .returned (.bool (validB S.f)) ∧ On W0 w') := fun wq h => (rvalid_any S.f wq).mono fun e w' ⟨he, ho⟩ => ⟨he, ho ▸ h⟩
  have HTW : Hid (∀ wq, On W0 wq → Calls Tryd.prog 110 #[.int .i64 S.f] wq fun e w' => e = .returned (.int .i64 ((twoOf S.f : Nat) : Int)) ∧ On W0 w') := fun wq h => (rtwos_any S.f wq).mono fun e w' ⟨he, ho⟩ => ⟨he, ho ▸ h⟩
  rw [rvalid13_sizes] at hs
  obtain ⟨c1, hc1⟩ : ∃ c, decide (S.rows < 1) = c := ⟨_, rfl⟩
  obtain ⟨c2, hc2⟩ : ∃ c, decide (13 < S.rows) = c := ⟨_, rfl⟩
  obtain ⟨c3, hc3⟩ : ∃ c, decide ((twoOf S.f : Int) < S.rows) = c := ⟨_, rfl⟩
  obtain ⟨c4, hc4⟩ : ∃ c, decide (S.main < 1) = c := ⟨_, rfl⟩
  obtain ⟨c5, hc5⟩ : ∃ c, decide (64 < S.main) = c := ⟨_, rfl⟩
  obtain ⟨c6, hc6⟩ : ∃ c, decide (S.pub < 0) = c := ⟨_, rfl⟩
  obtain ⟨c7, hc7⟩ : ∃ c, decide (16 < S.pub) = c := ⟨_, rfl⟩
  obtain ⟨c8, hc8⟩ : ∃ c, decide ((64 : Int) < ((S.fixed.length : Nat) : Int)) = c := ⟨_, rfl⟩
  obtain ⟨c9, hc9⟩ : ∃ c, decide ((64 : Int) < ((S.rules.length : Nat) : Int)) = c := ⟨_, rfl⟩
  obtain ⟨ca, hca⟩ : ∃ c, decide ((4 : Int) < ((S.perms.length : Nat) : Int)) = c := ⟨_, rfl⟩
  obtain ⟨cb, hcb⟩ : ∃ c, decide ((8 : Int) < ((S.looks.length : Nat) : Int)) = c := ⟨_, rfl⟩
  rw [hc1, hc2, hc3, hc4, hc5, hc6, hc7, hc8, hc9, hca, hcb] at hs
  have HS := Lib.hid hs
  have HG1 := Lib.hid hc1; have HG2 := Lib.hid hc2; have HG3 := Lib.hid hc3; have HG4 := Lib.hid hc4; have HG5 := Lib.hid hc5; have HG6 := Lib.hid hc6; have HG7 := Lib.hid hc7
  have HG8 := Lib.hid hc8; have HG9 := Lib.hid hc9; have HGa := Lib.hid hca; have HGb := Lib.hid hcb
  clear hT hs hW0 hO0 hQ E hc1 hc2 hc3 hc4 hc5 hc6 hc7 hc8 hc9 hca hcb
  have HSY := HSY0
  obtain ⟨c0, hc0⟩ : ∃ c, c = validB S.f := ⟨_, rfl⟩
  rw [← hc0] at HVF HS
  clear hc0
  cases c0 with
  | false =>
    go_enter Tryd.func55, Tryd.ntmps55
    go_upto_region 1 with fail
    rw [← HW0.out, ← HQ.out]
    refine region_keep_tail (fun wq => On W0 wq) 41 (by kernel_rfl) (by kernel_rfl) (On.refl HOK.out.tab).drew ?_
    simp only [List.take_succ_cons, List.take_zero, List.drop_succ_cons, List.drop_zero]
    refine quiet_start fun L9 hL9 => ?_
    refine quiet_take (v := ?r0v0) hL9 (by kernel_rfl) (fun wq hwq => ?r0y0) (fun L9 hL9 => ?r0r0)
    case r0y0 => (go_simp; try with_reducible rfl)
    try simp only [Act.put, List.setIfInBounds_toArray, List.set_cons_zero, List.set_cons_succ]
    refine quiet_take (v := .int .i64 S.f) hL9 (by kernel_rfl) (fun wq hwq => ?r0y1) (fun L9 hL9 => ?r0r1)
    case r0y1 => (obtain ⟨s0, s1, s2, s3, s4, s5, s6, s7⟩ := HSY.out wq hwq; go_simp; try with_reducible rfl)
    try simp only [Act.put, List.setIfInBounds_toArray, List.set_cons_zero, List.set_cons_succ]
    refine quiet_take (v := .bool false) hL9 (by kernel_rfl) (fun wq hwq => ?r0y2) (fun L9 hL9 => ?r0r2)
    case r0y2 => (go_simp; go_at_call 69; exact HVF.out wq hwq)
    try simp only [Act.put, List.setIfInBounds_toArray, List.set_cons_zero, List.set_cons_succ]
    refine quiet_take (v := .bool true) hL9 (by kernel_rfl) (fun wq hwq => ?r0y3) (fun L9 hL9 => ?r0r3)
    case r0y3 => (go_simp; try with_reducible rfl)
    try simp only [Act.put, List.setIfInBounds_toArray, List.set_cons_zero, List.set_cons_succ]
    refine quiet_take (v := .bool true) hL9 (by kernel_rfl) (fun wq hwq => ?r0y4) (fun L9 hL9 => ?r0r4)
    case r0y4 => (go_simp; try with_reducible rfl)
    try simp only [Act.put, List.setIfInBounds_toArray, List.set_cons_zero, List.set_cons_succ]
    refine quiet_skip hL9 (by kernel_rfl) (fun L9 hL9 => ?_)
    try simp only [Act.put, List.setIfInBounds_toArray, List.set_cons_zero, List.set_cons_succ]
    refine quiet_skip hL9 (by kernel_rfl) (fun L9 hL9 => ?_)
    try simp only [Act.put, List.setIfInBounds_toArray, List.set_cons_zero, List.set_cons_succ]
    refine quiet_skip hL9 (by kernel_rfl) (fun L9 hL9 => ?_)
    try simp only [Act.put, List.setIfInBounds_toArray, List.set_cons_zero, List.set_cons_succ]
    refine quiet_take (v := .bool true) hL9 (by kernel_rfl) (fun wq hwq => ?r0y8) (fun L9 hL9 => ?r0r8)
    case r0y8 => (go_simp; try with_reducible rfl)
    try simp only [Act.put, List.setIfInBounds_toArray, List.set_cons_zero, List.set_cons_succ]
    refine quiet_take (v := .bool true) hL9 (by kernel_rfl) (fun wq hwq => ?r0y9) (fun L9 hL9 => ?r0r9)
    case r0y9 => (go_simp; try with_reducible rfl)
    try simp only [Act.put, List.setIfInBounds_toArray, List.set_cons_zero, List.set_cons_succ]
    refine quiet_skip hL9 (by kernel_rfl) (fun L9 hL9 => ?_)
    try simp only [Act.put, List.setIfInBounds_toArray, List.set_cons_zero, List.set_cons_succ]
    refine quiet_skip hL9 (by kernel_rfl) (fun L9 hL9 => ?_)
    try simp only [Act.put, List.setIfInBounds_toArray, List.set_cons_zero, List.set_cons_succ]
    refine quiet_skip hL9 (by kernel_rfl) (fun L9 hL9 => ?_)
    try simp only [Act.put, List.setIfInBounds_toArray, List.set_cons_zero, List.set_cons_succ]
    refine quiet_take (v := .bool true) hL9 (by kernel_rfl) (fun wq hwq => ?r0y13) (fun L9 hL9 => ?r0r13)
    case r0y13 => (go_simp; try with_reducible rfl)
    try simp only [Act.put, List.setIfInBounds_toArray, List.set_cons_zero, List.set_cons_succ]
    refine quiet_take (v := .bool true) hL9 (by kernel_rfl) (fun wq hwq => ?r0y14) (fun L9 hL9 => ?r0r14)
    case r0y14 => (go_simp; try with_reducible rfl)
    try simp only [Act.put, List.setIfInBounds_toArray, List.set_cons_zero, List.set_cons_succ]
    refine quiet_skip hL9 (by kernel_rfl) (fun L9 hL9 => ?_)
    try simp only [Act.put, List.setIfInBounds_toArray, List.set_cons_zero, List.set_cons_succ]
    refine quiet_skip hL9 (by kernel_rfl) (fun L9 hL9 => ?_)
    try simp only [Act.put, List.setIfInBounds_toArray, List.set_cons_zero, List.set_cons_succ]
    refine quiet_skip hL9 (by kernel_rfl) (fun L9 hL9 => ?_)
    try simp only [Act.put, List.setIfInBounds_toArray, List.set_cons_zero, List.set_cons_succ]
    refine quiet_skip hL9 (by kernel_rfl) (fun L9 hL9 => ?_)
    try simp only [Act.put, List.setIfInBounds_toArray, List.set_cons_zero, List.set_cons_succ]
    refine quiet_skip hL9 (by kernel_rfl) (fun L9 hL9 => ?_)
    try simp only [Act.put, List.setIfInBounds_toArray, List.set_cons_zero, List.set_cons_succ]
    refine quiet_skip hL9 (by kernel_rfl) (fun L9 hL9 => ?_)
    try simp only [Act.put, List.setIfInBounds_toArray, List.set_cons_zero, List.set_cons_succ]
    refine quiet_take (v := .bool true) hL9 (by kernel_rfl) (fun wq hwq => ?r0y21) (fun L9 hL9 => ?r0r21)
    case r0y21 => (go_simp; try with_reducible rfl)
    try simp only [Act.put, List.setIfInBounds_toArray, List.set_cons_zero, List.set_cons_succ]
    refine quiet_take (v := .bool true) hL9 (by kernel_rfl) (fun wq hwq => ?r0y22) (fun L9 hL9 => ?r0r22)
    case r0y22 => (go_simp; try with_reducible rfl)
    try simp only [Act.put, List.setIfInBounds_toArray, List.set_cons_zero, List.set_cons_succ]
    refine quiet_skip hL9 (by kernel_rfl) (fun L9 hL9 => ?_)
    try simp only [Act.put, List.setIfInBounds_toArray, List.set_cons_zero, List.set_cons_succ]
    refine quiet_skip hL9 (by kernel_rfl) (fun L9 hL9 => ?_)
    try simp only [Act.put, List.setIfInBounds_toArray, List.set_cons_zero, List.set_cons_succ]
    refine quiet_skip hL9 (by kernel_rfl) (fun L9 hL9 => ?_)
    try simp only [Act.put, List.setIfInBounds_toArray, List.set_cons_zero, List.set_cons_succ]
    refine quiet_take (v := .bool true) hL9 (by kernel_rfl) (fun wq hwq => ?r0y26) (fun L9 hL9 => ?r0r26)
    case r0y26 => (go_simp; try with_reducible rfl)
    try simp only [Act.put, List.setIfInBounds_toArray, List.set_cons_zero, List.set_cons_succ]
    refine quiet_take (v := .bool true) hL9 (by kernel_rfl) (fun wq hwq => ?r0y27) (fun L9 hL9 => ?r0r27)
    case r0y27 => (go_simp; try with_reducible rfl)
    try simp only [Act.put, List.setIfInBounds_toArray, List.set_cons_zero, List.set_cons_succ]
    refine quiet_skip hL9 (by kernel_rfl) (fun L9 hL9 => ?_)
    try simp only [Act.put, List.setIfInBounds_toArray, List.set_cons_zero, List.set_cons_succ]
    refine quiet_skip hL9 (by kernel_rfl) (fun L9 hL9 => ?_)
    try simp only [Act.put, List.setIfInBounds_toArray, List.set_cons_zero, List.set_cons_succ]
    refine quiet_skip hL9 (by kernel_rfl) (fun L9 hL9 => ?_)
    try simp only [Act.put, List.setIfInBounds_toArray, List.set_cons_zero, List.set_cons_succ]
    refine quiet_take (v := .bool true) hL9 (by kernel_rfl) (fun wq hwq => ?r0y31) (fun L9 hL9 => ?r0r31)
    case r0y31 => (go_simp; try with_reducible rfl)
    try simp only [Act.put, List.setIfInBounds_toArray, List.set_cons_zero, List.set_cons_succ]
    refine quiet_take (v := .bool true) hL9 (by kernel_rfl) (fun wq hwq => ?r0y32) (fun L9 hL9 => ?r0r32)
    case r0y32 => (go_simp; try with_reducible rfl)
    try simp only [Act.put, List.setIfInBounds_toArray, List.set_cons_zero, List.set_cons_succ]
    refine quiet_skip hL9 (by kernel_rfl) (fun L9 hL9 => ?_)
    try simp only [Act.put, List.setIfInBounds_toArray, List.set_cons_zero, List.set_cons_succ]
    refine quiet_skip hL9 (by kernel_rfl) (fun L9 hL9 => ?_)
    try simp only [Act.put, List.setIfInBounds_toArray, List.set_cons_zero, List.set_cons_succ]
    refine quiet_skip hL9 (by kernel_rfl) (fun L9 hL9 => ?_)
    try simp only [Act.put, List.setIfInBounds_toArray, List.set_cons_zero, List.set_cons_succ]
    refine quiet_take (v := .bool true) hL9 (by kernel_rfl) (fun wq hwq => ?r0y36) (fun L9 hL9 => ?r0r36)
    case r0y36 => (go_simp; try with_reducible rfl)
    try simp only [Act.put, List.setIfInBounds_toArray, List.set_cons_zero, List.set_cons_succ]
    refine quiet_take (v := .bool true) hL9 (by kernel_rfl) (fun wq hwq => ?r0y37) (fun L9 hL9 => ?r0r37)
    case r0y37 => (go_simp; try with_reducible rfl)
    try simp only [Act.put, List.setIfInBounds_toArray, List.set_cons_zero, List.set_cons_succ]
    refine quiet_skip hL9 (by kernel_rfl) (fun L9 hL9 => ?_)
    try simp only [Act.put, List.setIfInBounds_toArray, List.set_cons_zero, List.set_cons_succ]
    refine quiet_skip hL9 (by kernel_rfl) (fun L9 hL9 => ?_)
    try simp only [Act.put, List.setIfInBounds_toArray, List.set_cons_zero, List.set_cons_succ]
    refine quiet_skip hL9 (by kernel_rfl) (fun L9 hL9 => ?_)
    try simp only [Act.put, List.setIfInBounds_toArray, List.set_cons_zero, List.set_cons_succ]
    refine quiet_nil hL9 ?_
    clear hL9
    intro wy hOy
    have hOz := HO0.out.trans hOy
    go_wp2
    go_ret
    exact ⟨rfl, hOz⟩
  | true =>
    cases c1 with
    | true =>
      go_enter Tryd.func55, Tryd.ntmps55
      go_upto_region 1 with fail
      rw [← HW0.out, ← HQ.out]
      refine region_keep_tail (fun wq => On W0 wq) 41 (by kernel_rfl) (by kernel_rfl) (On.refl HOK.out.tab).drew ?_
      simp only [List.take_succ_cons, List.take_zero, List.drop_succ_cons, List.drop_zero]
      refine quiet_start fun L9 hL9 => ?_
      refine quiet_take (v := ?r1v0) hL9 (by kernel_rfl) (fun wq hwq => ?r1y0) (fun L9 hL9 => ?r1r0)
      case r1y0 => (go_simp; try with_reducible rfl)
      try simp only [Act.put, List.setIfInBounds_toArray, List.set_cons_zero, List.set_cons_succ]
      refine quiet_take (v := .int .i64 S.f) hL9 (by kernel_rfl) (fun wq hwq => ?r1y1) (fun L9 hL9 => ?r1r1)
      case r1y1 => (obtain ⟨s0, s1, s2, s3, s4, s5, s6, s7⟩ := HSY.out wq hwq; go_simp; try with_reducible rfl)
      try simp only [Act.put, List.setIfInBounds_toArray, List.set_cons_zero, List.set_cons_succ]
      refine quiet_take (v := .bool true) hL9 (by kernel_rfl) (fun wq hwq => ?r1y2) (fun L9 hL9 => ?r1r2)
      case r1y2 => (go_simp; go_at_call 69; exact HVF.out wq hwq)
      try simp only [Act.put, List.setIfInBounds_toArray, List.set_cons_zero, List.set_cons_succ]
      refine quiet_take (v := .bool false) hL9 (by kernel_rfl) (fun wq hwq => ?r1y3) (fun L9 hL9 => ?r1r3)
      case r1y3 => (go_simp; try with_reducible rfl)
      try simp only [Act.put, List.setIfInBounds_toArray, List.set_cons_zero, List.set_cons_succ]
      refine quiet_take (v := .bool false) hL9 (by kernel_rfl) (fun wq hwq => ?r1y4) (fun L9 hL9 => ?r1r4)
      case r1y4 => (go_simp; try with_reducible rfl)
      try simp only [Act.put, List.setIfInBounds_toArray, List.set_cons_zero, List.set_cons_succ]
      refine quiet_take (v := ?r1v5) hL9 (by kernel_rfl) (fun wq hwq => ?r1y5) (fun L9 hL9 => ?r1r5)
      case r1y5 => (go_simp; try with_reducible rfl)
      try simp only [Act.put, List.setIfInBounds_toArray, List.set_cons_zero, List.set_cons_succ]
      refine quiet_take (v := .int .i64 S.rows) hL9 (by kernel_rfl) (fun wq hwq => ?r1y6) (fun L9 hL9 => ?r1r6)
      case r1y6 => (obtain ⟨s0, s1, s2, s3, s4, s5, s6, s7⟩ := HSY.out wq hwq; go_simp; try with_reducible rfl)
      try simp only [Act.put, List.setIfInBounds_toArray, List.set_cons_zero, List.set_cons_succ]
      refine quiet_take (v := .bool true) hL9 (by kernel_rfl) (fun wq hwq => ?r1y7) (fun L9 hL9 => ?r1r7)
      case r1y7 => (have h1 := HG1.out; go_simp; try (first | with_reducible rfl | exact h1 | (simpa using h1)))
      try simp only [Act.put, List.setIfInBounds_toArray, List.set_cons_zero, List.set_cons_succ]
      refine quiet_take (v := .bool true) hL9 (by kernel_rfl) (fun wq hwq => ?r1y8) (fun L9 hL9 => ?r1r8)
      case r1y8 => (go_simp; try with_reducible rfl)
      try simp only [Act.put, List.setIfInBounds_toArray, List.set_cons_zero, List.set_cons_succ]
      refine quiet_take (v := .bool true) hL9 (by kernel_rfl) (fun wq hwq => ?r1y9) (fun L9 hL9 => ?r1r9)
      case r1y9 => (go_simp; try with_reducible rfl)
      try simp only [Act.put, List.setIfInBounds_toArray, List.set_cons_zero, List.set_cons_succ]
      refine quiet_skip hL9 (by kernel_rfl) (fun L9 hL9 => ?_)
      try simp only [Act.put, List.setIfInBounds_toArray, List.set_cons_zero, List.set_cons_succ]
      refine quiet_skip hL9 (by kernel_rfl) (fun L9 hL9 => ?_)
      try simp only [Act.put, List.setIfInBounds_toArray, List.set_cons_zero, List.set_cons_succ]
      refine quiet_skip hL9 (by kernel_rfl) (fun L9 hL9 => ?_)
      try simp only [Act.put, List.setIfInBounds_toArray, List.set_cons_zero, List.set_cons_succ]
      refine quiet_take (v := .bool true) hL9 (by kernel_rfl) (fun wq hwq => ?r1y13) (fun L9 hL9 => ?r1r13)
      case r1y13 => (go_simp; try with_reducible rfl)
      try simp only [Act.put, List.setIfInBounds_toArray, List.set_cons_zero, List.set_cons_succ]
      refine quiet_take (v := .bool true) hL9 (by kernel_rfl) (fun wq hwq => ?r1y14) (fun L9 hL9 => ?r1r14)
      case r1y14 => (go_simp; try with_reducible rfl)
      try simp only [Act.put, List.setIfInBounds_toArray, List.set_cons_zero, List.set_cons_succ]
      refine quiet_skip hL9 (by kernel_rfl) (fun L9 hL9 => ?_)
      try simp only [Act.put, List.setIfInBounds_toArray, List.set_cons_zero, List.set_cons_succ]
      refine quiet_skip hL9 (by kernel_rfl) (fun L9 hL9 => ?_)
      try simp only [Act.put, List.setIfInBounds_toArray, List.set_cons_zero, List.set_cons_succ]
      refine quiet_skip hL9 (by kernel_rfl) (fun L9 hL9 => ?_)
      try simp only [Act.put, List.setIfInBounds_toArray, List.set_cons_zero, List.set_cons_succ]
      refine quiet_skip hL9 (by kernel_rfl) (fun L9 hL9 => ?_)
      try simp only [Act.put, List.setIfInBounds_toArray, List.set_cons_zero, List.set_cons_succ]
      refine quiet_skip hL9 (by kernel_rfl) (fun L9 hL9 => ?_)
      try simp only [Act.put, List.setIfInBounds_toArray, List.set_cons_zero, List.set_cons_succ]
      refine quiet_skip hL9 (by kernel_rfl) (fun L9 hL9 => ?_)
      try simp only [Act.put, List.setIfInBounds_toArray, List.set_cons_zero, List.set_cons_succ]
      refine quiet_take (v := .bool true) hL9 (by kernel_rfl) (fun wq hwq => ?r1y21) (fun L9 hL9 => ?r1r21)
      case r1y21 => (go_simp; try with_reducible rfl)
      try simp only [Act.put, List.setIfInBounds_toArray, List.set_cons_zero, List.set_cons_succ]
      refine quiet_take (v := .bool true) hL9 (by kernel_rfl) (fun wq hwq => ?r1y22) (fun L9 hL9 => ?r1r22)
      case r1y22 => (go_simp; try with_reducible rfl)
      try simp only [Act.put, List.setIfInBounds_toArray, List.set_cons_zero, List.set_cons_succ]
      refine quiet_skip hL9 (by kernel_rfl) (fun L9 hL9 => ?_)
      try simp only [Act.put, List.setIfInBounds_toArray, List.set_cons_zero, List.set_cons_succ]
      refine quiet_skip hL9 (by kernel_rfl) (fun L9 hL9 => ?_)
      try simp only [Act.put, List.setIfInBounds_toArray, List.set_cons_zero, List.set_cons_succ]
      refine quiet_skip hL9 (by kernel_rfl) (fun L9 hL9 => ?_)
      try simp only [Act.put, List.setIfInBounds_toArray, List.set_cons_zero, List.set_cons_succ]
      refine quiet_take (v := .bool true) hL9 (by kernel_rfl) (fun wq hwq => ?r1y26) (fun L9 hL9 => ?r1r26)
      case r1y26 => (go_simp; try with_reducible rfl)
      try simp only [Act.put, List.setIfInBounds_toArray, List.set_cons_zero, List.set_cons_succ]
      refine quiet_take (v := .bool true) hL9 (by kernel_rfl) (fun wq hwq => ?r1y27) (fun L9 hL9 => ?r1r27)
      case r1y27 => (go_simp; try with_reducible rfl)
      try simp only [Act.put, List.setIfInBounds_toArray, List.set_cons_zero, List.set_cons_succ]
      refine quiet_skip hL9 (by kernel_rfl) (fun L9 hL9 => ?_)
      try simp only [Act.put, List.setIfInBounds_toArray, List.set_cons_zero, List.set_cons_succ]
      refine quiet_skip hL9 (by kernel_rfl) (fun L9 hL9 => ?_)
      try simp only [Act.put, List.setIfInBounds_toArray, List.set_cons_zero, List.set_cons_succ]
      refine quiet_skip hL9 (by kernel_rfl) (fun L9 hL9 => ?_)
      try simp only [Act.put, List.setIfInBounds_toArray, List.set_cons_zero, List.set_cons_succ]
      refine quiet_take (v := .bool true) hL9 (by kernel_rfl) (fun wq hwq => ?r1y31) (fun L9 hL9 => ?r1r31)
      case r1y31 => (go_simp; try with_reducible rfl)
      try simp only [Act.put, List.setIfInBounds_toArray, List.set_cons_zero, List.set_cons_succ]
      refine quiet_take (v := .bool true) hL9 (by kernel_rfl) (fun wq hwq => ?r1y32) (fun L9 hL9 => ?r1r32)
      case r1y32 => (go_simp; try with_reducible rfl)
      try simp only [Act.put, List.setIfInBounds_toArray, List.set_cons_zero, List.set_cons_succ]
      refine quiet_skip hL9 (by kernel_rfl) (fun L9 hL9 => ?_)
      try simp only [Act.put, List.setIfInBounds_toArray, List.set_cons_zero, List.set_cons_succ]
      refine quiet_skip hL9 (by kernel_rfl) (fun L9 hL9 => ?_)
      try simp only [Act.put, List.setIfInBounds_toArray, List.set_cons_zero, List.set_cons_succ]
      refine quiet_skip hL9 (by kernel_rfl) (fun L9 hL9 => ?_)
      try simp only [Act.put, List.setIfInBounds_toArray, List.set_cons_zero, List.set_cons_succ]
      refine quiet_take (v := .bool true) hL9 (by kernel_rfl) (fun wq hwq => ?r1y36) (fun L9 hL9 => ?r1r36)
      case r1y36 => (go_simp; try with_reducible rfl)
      try simp only [Act.put, List.setIfInBounds_toArray, List.set_cons_zero, List.set_cons_succ]
      refine quiet_take (v := .bool true) hL9 (by kernel_rfl) (fun wq hwq => ?r1y37) (fun L9 hL9 => ?r1r37)
      case r1y37 => (go_simp; try with_reducible rfl)
      try simp only [Act.put, List.setIfInBounds_toArray, List.set_cons_zero, List.set_cons_succ]
      refine quiet_skip hL9 (by kernel_rfl) (fun L9 hL9 => ?_)
      try simp only [Act.put, List.setIfInBounds_toArray, List.set_cons_zero, List.set_cons_succ]
      refine quiet_skip hL9 (by kernel_rfl) (fun L9 hL9 => ?_)
      try simp only [Act.put, List.setIfInBounds_toArray, List.set_cons_zero, List.set_cons_succ]
      refine quiet_skip hL9 (by kernel_rfl) (fun L9 hL9 => ?_)
      try simp only [Act.put, List.setIfInBounds_toArray, List.set_cons_zero, List.set_cons_succ]
      refine quiet_nil hL9 ?_
      clear hL9
      intro wy hOy
      have hOz := HO0.out.trans hOy
      go_wp2
      go_ret
      exact ⟨rfl, hOz⟩
    | false =>
      cases c2 with
      | true =>
        go_enter Tryd.func55, Tryd.ntmps55
        go_upto_region 1 with fail
        rw [← HW0.out, ← HQ.out]
        refine region_keep_tail (fun wq => On W0 wq) 41 (by kernel_rfl) (by kernel_rfl) (On.refl HOK.out.tab).drew ?_
        simp only [List.take_succ_cons, List.take_zero, List.drop_succ_cons, List.drop_zero]
        refine quiet_start fun L9 hL9 => ?_
        refine quiet_take (v := ?r2v0) hL9 (by kernel_rfl) (fun wq hwq => ?r2y0) (fun L9 hL9 => ?r2r0)
        case r2y0 => (go_simp; try with_reducible rfl)
        try simp only [Act.put, List.setIfInBounds_toArray, List.set_cons_zero, List.set_cons_succ]
        refine quiet_take (v := .int .i64 S.f) hL9 (by kernel_rfl) (fun wq hwq => ?r2y1) (fun L9 hL9 => ?r2r1)
        case r2y1 => (obtain ⟨s0, s1, s2, s3, s4, s5, s6, s7⟩ := HSY.out wq hwq; go_simp; try with_reducible rfl)
        try simp only [Act.put, List.setIfInBounds_toArray, List.set_cons_zero, List.set_cons_succ]
        refine quiet_take (v := .bool true) hL9 (by kernel_rfl) (fun wq hwq => ?r2y2) (fun L9 hL9 => ?r2r2)
        case r2y2 => (go_simp; go_at_call 69; exact HVF.out wq hwq)
        try simp only [Act.put, List.setIfInBounds_toArray, List.set_cons_zero, List.set_cons_succ]
        refine quiet_take (v := .bool false) hL9 (by kernel_rfl) (fun wq hwq => ?r2y3) (fun L9 hL9 => ?r2r3)
        case r2y3 => (go_simp; try with_reducible rfl)
        try simp only [Act.put, List.setIfInBounds_toArray, List.set_cons_zero, List.set_cons_succ]
        refine quiet_take (v := .bool false) hL9 (by kernel_rfl) (fun wq hwq => ?r2y4) (fun L9 hL9 => ?r2r4)
        case r2y4 => (go_simp; try with_reducible rfl)
        try simp only [Act.put, List.setIfInBounds_toArray, List.set_cons_zero, List.set_cons_succ]
        refine quiet_take (v := ?r2v5) hL9 (by kernel_rfl) (fun wq hwq => ?r2y5) (fun L9 hL9 => ?r2r5)
        case r2y5 => (go_simp; try with_reducible rfl)
        try simp only [Act.put, List.setIfInBounds_toArray, List.set_cons_zero, List.set_cons_succ]
        refine quiet_take (v := .int .i64 S.rows) hL9 (by kernel_rfl) (fun wq hwq => ?r2y6) (fun L9 hL9 => ?r2r6)
        case r2y6 => (obtain ⟨s0, s1, s2, s3, s4, s5, s6, s7⟩ := HSY.out wq hwq; go_simp; try with_reducible rfl)
        try simp only [Act.put, List.setIfInBounds_toArray, List.set_cons_zero, List.set_cons_succ]
        refine quiet_take (v := .bool false) hL9 (by kernel_rfl) (fun wq hwq => ?r2y7) (fun L9 hL9 => ?r2r7)
        case r2y7 => (have h1 := HG1.out; go_simp; try (first | with_reducible rfl | exact h1 | (simpa using h1)))
        try simp only [Act.put, List.setIfInBounds_toArray, List.set_cons_zero, List.set_cons_succ]
        refine quiet_take (v := .bool false) hL9 (by kernel_rfl) (fun wq hwq => ?r2y8) (fun L9 hL9 => ?r2r8)
        case r2y8 => (go_simp; try with_reducible rfl)
        try simp only [Act.put, List.setIfInBounds_toArray, List.set_cons_zero, List.set_cons_succ]
        refine quiet_take (v := .bool false) hL9 (by kernel_rfl) (fun wq hwq => ?r2y9) (fun L9 hL9 => ?r2r9)
        case r2y9 => (go_simp; try with_reducible rfl)
        try simp only [Act.put, List.setIfInBounds_toArray, List.set_cons_zero, List.set_cons_succ]
        refine quiet_take (v := ?r2v10) hL9 (by kernel_rfl) (fun wq hwq => ?r2y10) (fun L9 hL9 => ?r2r10)
        case r2y10 => (go_simp; try with_reducible rfl)
        try simp only [Act.put, List.setIfInBounds_toArray, List.set_cons_zero, List.set_cons_succ]
        refine quiet_take (v := .int .i64 S.rows) hL9 (by kernel_rfl) (fun wq hwq => ?r2y11) (fun L9 hL9 => ?r2r11)
        case r2y11 => (obtain ⟨s0, s1, s2, s3, s4, s5, s6, s7⟩ := HSY.out wq hwq; go_simp; try with_reducible rfl)
        try simp only [Act.put, List.setIfInBounds_toArray, List.set_cons_zero, List.set_cons_succ]
        refine quiet_take (v := .bool true) hL9 (by kernel_rfl) (fun wq hwq => ?r2y12) (fun L9 hL9 => ?r2r12)
        case r2y12 => (have h1 := HG2.out; go_simp; try (first | with_reducible rfl | exact h1 | (simpa using h1)))
        try simp only [Act.put, List.setIfInBounds_toArray, List.set_cons_zero, List.set_cons_succ]
        refine quiet_take (v := .bool true) hL9 (by kernel_rfl) (fun wq hwq => ?r2y13) (fun L9 hL9 => ?r2r13)
        case r2y13 => (go_simp; try with_reducible rfl)
        try simp only [Act.put, List.setIfInBounds_toArray, List.set_cons_zero, List.set_cons_succ]
        refine quiet_take (v := .bool true) hL9 (by kernel_rfl) (fun wq hwq => ?r2y14) (fun L9 hL9 => ?r2r14)
        case r2y14 => (go_simp; try with_reducible rfl)
        try simp only [Act.put, List.setIfInBounds_toArray, List.set_cons_zero, List.set_cons_succ]
        refine quiet_skip hL9 (by kernel_rfl) (fun L9 hL9 => ?_)
        try simp only [Act.put, List.setIfInBounds_toArray, List.set_cons_zero, List.set_cons_succ]
        refine quiet_skip hL9 (by kernel_rfl) (fun L9 hL9 => ?_)
        try simp only [Act.put, List.setIfInBounds_toArray, List.set_cons_zero, List.set_cons_succ]
        refine quiet_skip hL9 (by kernel_rfl) (fun L9 hL9 => ?_)
        try simp only [Act.put, List.setIfInBounds_toArray, List.set_cons_zero, List.set_cons_succ]
        refine quiet_skip hL9 (by kernel_rfl) (fun L9 hL9 => ?_)
        try simp only [Act.put, List.setIfInBounds_toArray, List.set_cons_zero, List.set_cons_succ]
        refine quiet_skip hL9 (by kernel_rfl) (fun L9 hL9 => ?_)
        try simp only [Act.put, List.setIfInBounds_toArray, List.set_cons_zero, List.set_cons_succ]
        refine quiet_skip hL9 (by kernel_rfl) (fun L9 hL9 => ?_)
        try simp only [Act.put, List.setIfInBounds_toArray, List.set_cons_zero, List.set_cons_succ]
        refine quiet_take (v := .bool true) hL9 (by kernel_rfl) (fun wq hwq => ?r2y21) (fun L9 hL9 => ?r2r21)
        case r2y21 => (go_simp; try with_reducible rfl)
        try simp only [Act.put, List.setIfInBounds_toArray, List.set_cons_zero, List.set_cons_succ]
        refine quiet_take (v := .bool true) hL9 (by kernel_rfl) (fun wq hwq => ?r2y22) (fun L9 hL9 => ?r2r22)
        case r2y22 => (go_simp; try with_reducible rfl)
        try simp only [Act.put, List.setIfInBounds_toArray, List.set_cons_zero, List.set_cons_succ]
        refine quiet_skip hL9 (by kernel_rfl) (fun L9 hL9 => ?_)
        try simp only [Act.put, List.setIfInBounds_toArray, List.set_cons_zero, List.set_cons_succ]
        refine quiet_skip hL9 (by kernel_rfl) (fun L9 hL9 => ?_)
        try simp only [Act.put, List.setIfInBounds_toArray, List.set_cons_zero, List.set_cons_succ]
        refine quiet_skip hL9 (by kernel_rfl) (fun L9 hL9 => ?_)
        try simp only [Act.put, List.setIfInBounds_toArray, List.set_cons_zero, List.set_cons_succ]
        refine quiet_take (v := .bool true) hL9 (by kernel_rfl) (fun wq hwq => ?r2y26) (fun L9 hL9 => ?r2r26)
        case r2y26 => (go_simp; try with_reducible rfl)
        try simp only [Act.put, List.setIfInBounds_toArray, List.set_cons_zero, List.set_cons_succ]
        refine quiet_take (v := .bool true) hL9 (by kernel_rfl) (fun wq hwq => ?r2y27) (fun L9 hL9 => ?r2r27)
        case r2y27 => (go_simp; try with_reducible rfl)
        try simp only [Act.put, List.setIfInBounds_toArray, List.set_cons_zero, List.set_cons_succ]
        refine quiet_skip hL9 (by kernel_rfl) (fun L9 hL9 => ?_)
        try simp only [Act.put, List.setIfInBounds_toArray, List.set_cons_zero, List.set_cons_succ]
        refine quiet_skip hL9 (by kernel_rfl) (fun L9 hL9 => ?_)
        try simp only [Act.put, List.setIfInBounds_toArray, List.set_cons_zero, List.set_cons_succ]
        refine quiet_skip hL9 (by kernel_rfl) (fun L9 hL9 => ?_)
        try simp only [Act.put, List.setIfInBounds_toArray, List.set_cons_zero, List.set_cons_succ]
        refine quiet_take (v := .bool true) hL9 (by kernel_rfl) (fun wq hwq => ?r2y31) (fun L9 hL9 => ?r2r31)
        case r2y31 => (go_simp; try with_reducible rfl)
        try simp only [Act.put, List.setIfInBounds_toArray, List.set_cons_zero, List.set_cons_succ]
        refine quiet_take (v := .bool true) hL9 (by kernel_rfl) (fun wq hwq => ?r2y32) (fun L9 hL9 => ?r2r32)
        case r2y32 => (go_simp; try with_reducible rfl)
        try simp only [Act.put, List.setIfInBounds_toArray, List.set_cons_zero, List.set_cons_succ]
        refine quiet_skip hL9 (by kernel_rfl) (fun L9 hL9 => ?_)
        try simp only [Act.put, List.setIfInBounds_toArray, List.set_cons_zero, List.set_cons_succ]
        refine quiet_skip hL9 (by kernel_rfl) (fun L9 hL9 => ?_)
        try simp only [Act.put, List.setIfInBounds_toArray, List.set_cons_zero, List.set_cons_succ]
        refine quiet_skip hL9 (by kernel_rfl) (fun L9 hL9 => ?_)
        try simp only [Act.put, List.setIfInBounds_toArray, List.set_cons_zero, List.set_cons_succ]
        refine quiet_take (v := .bool true) hL9 (by kernel_rfl) (fun wq hwq => ?r2y36) (fun L9 hL9 => ?r2r36)
        case r2y36 => (go_simp; try with_reducible rfl)
        try simp only [Act.put, List.setIfInBounds_toArray, List.set_cons_zero, List.set_cons_succ]
        refine quiet_take (v := .bool true) hL9 (by kernel_rfl) (fun wq hwq => ?r2y37) (fun L9 hL9 => ?r2r37)
        case r2y37 => (go_simp; try with_reducible rfl)
        try simp only [Act.put, List.setIfInBounds_toArray, List.set_cons_zero, List.set_cons_succ]
        refine quiet_skip hL9 (by kernel_rfl) (fun L9 hL9 => ?_)
        try simp only [Act.put, List.setIfInBounds_toArray, List.set_cons_zero, List.set_cons_succ]
        refine quiet_skip hL9 (by kernel_rfl) (fun L9 hL9 => ?_)
        try simp only [Act.put, List.setIfInBounds_toArray, List.set_cons_zero, List.set_cons_succ]
        refine quiet_skip hL9 (by kernel_rfl) (fun L9 hL9 => ?_)
        try simp only [Act.put, List.setIfInBounds_toArray, List.set_cons_zero, List.set_cons_succ]
        refine quiet_nil hL9 ?_
        clear hL9
        intro wy hOy
        have hOz := HO0.out.trans hOy
        go_wp2
        go_ret
        exact ⟨rfl, hOz⟩
      | false =>
        cases c3 with
        | true =>
          go_enter Tryd.func55, Tryd.ntmps55
          go_upto_region 1 with fail
          rw [← HW0.out, ← HQ.out]
          refine region_keep_tail (fun wq => On W0 wq) 41 (by kernel_rfl) (by kernel_rfl) (On.refl HOK.out.tab).drew ?_
          simp only [List.take_succ_cons, List.take_zero, List.drop_succ_cons, List.drop_zero]
          refine quiet_start fun L9 hL9 => ?_
          refine quiet_take (v := ?r3v0) hL9 (by kernel_rfl) (fun wq hwq => ?r3y0) (fun L9 hL9 => ?r3r0)
          case r3y0 => (go_simp; try with_reducible rfl)
          try simp only [Act.put, List.setIfInBounds_toArray, List.set_cons_zero, List.set_cons_succ]
          refine quiet_take (v := .int .i64 S.f) hL9 (by kernel_rfl) (fun wq hwq => ?r3y1) (fun L9 hL9 => ?r3r1)
          case r3y1 => (obtain ⟨s0, s1, s2, s3, s4, s5, s6, s7⟩ := HSY.out wq hwq; go_simp; try with_reducible rfl)
          try simp only [Act.put, List.setIfInBounds_toArray, List.set_cons_zero, List.set_cons_succ]
          refine quiet_take (v := .bool true) hL9 (by kernel_rfl) (fun wq hwq => ?r3y2) (fun L9 hL9 => ?r3r2)
          case r3y2 => (go_simp; go_at_call 69; exact HVF.out wq hwq)
          try simp only [Act.put, List.setIfInBounds_toArray, List.set_cons_zero, List.set_cons_succ]
          refine quiet_take (v := .bool false) hL9 (by kernel_rfl) (fun wq hwq => ?r3y3) (fun L9 hL9 => ?r3r3)
          case r3y3 => (go_simp; try with_reducible rfl)
          try simp only [Act.put, List.setIfInBounds_toArray, List.set_cons_zero, List.set_cons_succ]
          refine quiet_take (v := .bool false) hL9 (by kernel_rfl) (fun wq hwq => ?r3y4) (fun L9 hL9 => ?r3r4)
          case r3y4 => (go_simp; try with_reducible rfl)
          try simp only [Act.put, List.setIfInBounds_toArray, List.set_cons_zero, List.set_cons_succ]
          refine quiet_take (v := ?r3v5) hL9 (by kernel_rfl) (fun wq hwq => ?r3y5) (fun L9 hL9 => ?r3r5)
          case r3y5 => (go_simp; try with_reducible rfl)
          try simp only [Act.put, List.setIfInBounds_toArray, List.set_cons_zero, List.set_cons_succ]
          refine quiet_take (v := .int .i64 S.rows) hL9 (by kernel_rfl) (fun wq hwq => ?r3y6) (fun L9 hL9 => ?r3r6)
          case r3y6 => (obtain ⟨s0, s1, s2, s3, s4, s5, s6, s7⟩ := HSY.out wq hwq; go_simp; try with_reducible rfl)
          try simp only [Act.put, List.setIfInBounds_toArray, List.set_cons_zero, List.set_cons_succ]
          refine quiet_take (v := .bool false) hL9 (by kernel_rfl) (fun wq hwq => ?r3y7) (fun L9 hL9 => ?r3r7)
          case r3y7 => (have h1 := HG1.out; go_simp; try (first | with_reducible rfl | exact h1 | (simpa using h1)))
          try simp only [Act.put, List.setIfInBounds_toArray, List.set_cons_zero, List.set_cons_succ]
          refine quiet_take (v := .bool false) hL9 (by kernel_rfl) (fun wq hwq => ?r3y8) (fun L9 hL9 => ?r3r8)
          case r3y8 => (go_simp; try with_reducible rfl)
          try simp only [Act.put, List.setIfInBounds_toArray, List.set_cons_zero, List.set_cons_succ]
          refine quiet_take (v := .bool false) hL9 (by kernel_rfl) (fun wq hwq => ?r3y9) (fun L9 hL9 => ?r3r9)
          case r3y9 => (go_simp; try with_reducible rfl)
          try simp only [Act.put, List.setIfInBounds_toArray, List.set_cons_zero, List.set_cons_succ]
          refine quiet_take (v := ?r3v10) hL9 (by kernel_rfl) (fun wq hwq => ?r3y10) (fun L9 hL9 => ?r3r10)
          case r3y10 => (go_simp; try with_reducible rfl)
          try simp only [Act.put, List.setIfInBounds_toArray, List.set_cons_zero, List.set_cons_succ]
          refine quiet_take (v := .int .i64 S.rows) hL9 (by kernel_rfl) (fun wq hwq => ?r3y11) (fun L9 hL9 => ?r3r11)
          case r3y11 => (obtain ⟨s0, s1, s2, s3, s4, s5, s6, s7⟩ := HSY.out wq hwq; go_simp; try with_reducible rfl)
          try simp only [Act.put, List.setIfInBounds_toArray, List.set_cons_zero, List.set_cons_succ]
          refine quiet_take (v := .bool false) hL9 (by kernel_rfl) (fun wq hwq => ?r3y12) (fun L9 hL9 => ?r3r12)
          case r3y12 => (have h1 := HG2.out; go_simp; try (first | with_reducible rfl | exact h1 | (simpa using h1)))
          try simp only [Act.put, List.setIfInBounds_toArray, List.set_cons_zero, List.set_cons_succ]
          refine quiet_take (v := .bool false) hL9 (by kernel_rfl) (fun wq hwq => ?r3y13) (fun L9 hL9 => ?r3r13)
          case r3y13 => (go_simp; try with_reducible rfl)
          try simp only [Act.put, List.setIfInBounds_toArray, List.set_cons_zero, List.set_cons_succ]
          refine quiet_take (v := .bool false) hL9 (by kernel_rfl) (fun wq hwq => ?r3y14) (fun L9 hL9 => ?r3r14)
          case r3y14 => (go_simp; try with_reducible rfl)
          try simp only [Act.put, List.setIfInBounds_toArray, List.set_cons_zero, List.set_cons_succ]
          refine quiet_take (v := ?r3v15) hL9 (by kernel_rfl) (fun wq hwq => ?r3y15) (fun L9 hL9 => ?r3r15)
          case r3y15 => (go_simp; try with_reducible rfl)
          try simp only [Act.put, List.setIfInBounds_toArray, List.set_cons_zero, List.set_cons_succ]
          refine quiet_take (v := .int .i64 S.rows) hL9 (by kernel_rfl) (fun wq hwq => ?r3y16) (fun L9 hL9 => ?r3r16)
          case r3y16 => (obtain ⟨s0, s1, s2, s3, s4, s5, s6, s7⟩ := HSY.out wq hwq; go_simp; try with_reducible rfl)
          try simp only [Act.put, List.setIfInBounds_toArray, List.set_cons_zero, List.set_cons_succ]
          refine quiet_take (v := ?r3v17) hL9 (by kernel_rfl) (fun wq hwq => ?r3y17) (fun L9 hL9 => ?r3r17)
          case r3y17 => (go_simp; try with_reducible rfl)
          try simp only [Act.put, List.setIfInBounds_toArray, List.set_cons_zero, List.set_cons_succ]
          refine quiet_take (v := .int .i64 S.f) hL9 (by kernel_rfl) (fun wq hwq => ?r3y18) (fun L9 hL9 => ?r3r18)
          case r3y18 => (obtain ⟨s0, s1, s2, s3, s4, s5, s6, s7⟩ := HSY.out wq hwq; go_simp; try with_reducible rfl)
          try simp only [Act.put, List.setIfInBounds_toArray, List.set_cons_zero, List.set_cons_succ]
          refine quiet_take (v := .int .i64 ((twoOf S.f : Nat) : Int)) hL9 (by kernel_rfl) (fun wq hwq => ?r3y19) (fun L9 hL9 => ?r3r19)
          case r3y19 => (go_simp; go_at_call 110; exact HTW.out wq hwq)
          try simp only [Act.put, List.setIfInBounds_toArray, List.set_cons_zero, List.set_cons_succ]
          refine quiet_take (v := .bool true) hL9 (by kernel_rfl) (fun wq hwq => ?r3y20) (fun L9 hL9 => ?r3r20)
          case r3y20 => (have h1 := HG3.out; go_simp; try (first | with_reducible rfl | exact h1 | (simpa using h1)))
          try simp only [Act.put, List.setIfInBounds_toArray, List.set_cons_zero, List.set_cons_succ]
          refine quiet_take (v := .bool true) hL9 (by kernel_rfl) (fun wq hwq => ?r3y21) (fun L9 hL9 => ?r3r21)
          case r3y21 => (go_simp; try with_reducible rfl)
          try simp only [Act.put, List.setIfInBounds_toArray, List.set_cons_zero, List.set_cons_succ]
          refine quiet_take (v := .bool true) hL9 (by kernel_rfl) (fun wq hwq => ?r3y22) (fun L9 hL9 => ?r3r22)
          case r3y22 => (go_simp; try with_reducible rfl)
          try simp only [Act.put, List.setIfInBounds_toArray, List.set_cons_zero, List.set_cons_succ]
          refine quiet_skip hL9 (by kernel_rfl) (fun L9 hL9 => ?_)
          try simp only [Act.put, List.setIfInBounds_toArray, List.set_cons_zero, List.set_cons_succ]
          refine quiet_skip hL9 (by kernel_rfl) (fun L9 hL9 => ?_)
          try simp only [Act.put, List.setIfInBounds_toArray, List.set_cons_zero, List.set_cons_succ]
          refine quiet_skip hL9 (by kernel_rfl) (fun L9 hL9 => ?_)
          try simp only [Act.put, List.setIfInBounds_toArray, List.set_cons_zero, List.set_cons_succ]
          refine quiet_take (v := .bool true) hL9 (by kernel_rfl) (fun wq hwq => ?r3y26) (fun L9 hL9 => ?r3r26)
          case r3y26 => (go_simp; try with_reducible rfl)
          try simp only [Act.put, List.setIfInBounds_toArray, List.set_cons_zero, List.set_cons_succ]
          refine quiet_take (v := .bool true) hL9 (by kernel_rfl) (fun wq hwq => ?r3y27) (fun L9 hL9 => ?r3r27)
          case r3y27 => (go_simp; try with_reducible rfl)
          try simp only [Act.put, List.setIfInBounds_toArray, List.set_cons_zero, List.set_cons_succ]
          refine quiet_skip hL9 (by kernel_rfl) (fun L9 hL9 => ?_)
          try simp only [Act.put, List.setIfInBounds_toArray, List.set_cons_zero, List.set_cons_succ]
          refine quiet_skip hL9 (by kernel_rfl) (fun L9 hL9 => ?_)
          try simp only [Act.put, List.setIfInBounds_toArray, List.set_cons_zero, List.set_cons_succ]
          refine quiet_skip hL9 (by kernel_rfl) (fun L9 hL9 => ?_)
          try simp only [Act.put, List.setIfInBounds_toArray, List.set_cons_zero, List.set_cons_succ]
          refine quiet_take (v := .bool true) hL9 (by kernel_rfl) (fun wq hwq => ?r3y31) (fun L9 hL9 => ?r3r31)
          case r3y31 => (go_simp; try with_reducible rfl)
          try simp only [Act.put, List.setIfInBounds_toArray, List.set_cons_zero, List.set_cons_succ]
          refine quiet_take (v := .bool true) hL9 (by kernel_rfl) (fun wq hwq => ?r3y32) (fun L9 hL9 => ?r3r32)
          case r3y32 => (go_simp; try with_reducible rfl)
          try simp only [Act.put, List.setIfInBounds_toArray, List.set_cons_zero, List.set_cons_succ]
          refine quiet_skip hL9 (by kernel_rfl) (fun L9 hL9 => ?_)
          try simp only [Act.put, List.setIfInBounds_toArray, List.set_cons_zero, List.set_cons_succ]
          refine quiet_skip hL9 (by kernel_rfl) (fun L9 hL9 => ?_)
          try simp only [Act.put, List.setIfInBounds_toArray, List.set_cons_zero, List.set_cons_succ]
          refine quiet_skip hL9 (by kernel_rfl) (fun L9 hL9 => ?_)
          try simp only [Act.put, List.setIfInBounds_toArray, List.set_cons_zero, List.set_cons_succ]
          refine quiet_take (v := .bool true) hL9 (by kernel_rfl) (fun wq hwq => ?r3y36) (fun L9 hL9 => ?r3r36)
          case r3y36 => (go_simp; try with_reducible rfl)
          try simp only [Act.put, List.setIfInBounds_toArray, List.set_cons_zero, List.set_cons_succ]
          refine quiet_take (v := .bool true) hL9 (by kernel_rfl) (fun wq hwq => ?r3y37) (fun L9 hL9 => ?r3r37)
          case r3y37 => (go_simp; try with_reducible rfl)
          try simp only [Act.put, List.setIfInBounds_toArray, List.set_cons_zero, List.set_cons_succ]
          refine quiet_skip hL9 (by kernel_rfl) (fun L9 hL9 => ?_)
          try simp only [Act.put, List.setIfInBounds_toArray, List.set_cons_zero, List.set_cons_succ]
          refine quiet_skip hL9 (by kernel_rfl) (fun L9 hL9 => ?_)
          try simp only [Act.put, List.setIfInBounds_toArray, List.set_cons_zero, List.set_cons_succ]
          refine quiet_skip hL9 (by kernel_rfl) (fun L9 hL9 => ?_)
          try simp only [Act.put, List.setIfInBounds_toArray, List.set_cons_zero, List.set_cons_succ]
          refine quiet_nil hL9 ?_
          clear hL9
          intro wy hOy
          have hOz := HO0.out.trans hOy
          go_wp2
          go_ret
          exact ⟨rfl, hOz⟩
        | false =>
          cases c4 with
          | true =>
            go_enter Tryd.func55, Tryd.ntmps55
            go_upto_region 1 with fail
            rw [← HW0.out, ← HQ.out]
            refine region_keep_tail (fun wq => On W0 wq) 41 (by kernel_rfl) (by kernel_rfl) (On.refl HOK.out.tab).drew ?_
            simp only [List.take_succ_cons, List.take_zero, List.drop_succ_cons, List.drop_zero]
            refine quiet_start fun L9 hL9 => ?_
            refine quiet_take (v := ?r4v0) hL9 (by kernel_rfl) (fun wq hwq => ?r4y0) (fun L9 hL9 => ?r4r0)
            case r4y0 => (go_simp; try with_reducible rfl)
            try simp only [Act.put, List.setIfInBounds_toArray, List.set_cons_zero, List.set_cons_succ]
            refine quiet_take (v := .int .i64 S.f) hL9 (by kernel_rfl) (fun wq hwq => ?r4y1) (fun L9 hL9 => ?r4r1)
            case r4y1 => (obtain ⟨s0, s1, s2, s3, s4, s5, s6, s7⟩ := HSY.out wq hwq; go_simp; try with_reducible rfl)
            try simp only [Act.put, List.setIfInBounds_toArray, List.set_cons_zero, List.set_cons_succ]
            refine quiet_take (v := .bool true) hL9 (by kernel_rfl) (fun wq hwq => ?r4y2) (fun L9 hL9 => ?r4r2)
            case r4y2 => (go_simp; go_at_call 69; exact HVF.out wq hwq)
            try simp only [Act.put, List.setIfInBounds_toArray, List.set_cons_zero, List.set_cons_succ]
            refine quiet_take (v := .bool false) hL9 (by kernel_rfl) (fun wq hwq => ?r4y3) (fun L9 hL9 => ?r4r3)
            case r4y3 => (go_simp; try with_reducible rfl)
            try simp only [Act.put, List.setIfInBounds_toArray, List.set_cons_zero, List.set_cons_succ]
            refine quiet_take (v := .bool false) hL9 (by kernel_rfl) (fun wq hwq => ?r4y4) (fun L9 hL9 => ?r4r4)
            case r4y4 => (go_simp; try with_reducible rfl)
            try simp only [Act.put, List.setIfInBounds_toArray, List.set_cons_zero, List.set_cons_succ]
            refine quiet_take (v := ?r4v5) hL9 (by kernel_rfl) (fun wq hwq => ?r4y5) (fun L9 hL9 => ?r4r5)
            case r4y5 => (go_simp; try with_reducible rfl)
            try simp only [Act.put, List.setIfInBounds_toArray, List.set_cons_zero, List.set_cons_succ]
            refine quiet_take (v := .int .i64 S.rows) hL9 (by kernel_rfl) (fun wq hwq => ?r4y6) (fun L9 hL9 => ?r4r6)
            case r4y6 => (obtain ⟨s0, s1, s2, s3, s4, s5, s6, s7⟩ := HSY.out wq hwq; go_simp; try with_reducible rfl)
            try simp only [Act.put, List.setIfInBounds_toArray, List.set_cons_zero, List.set_cons_succ]
            refine quiet_take (v := .bool false) hL9 (by kernel_rfl) (fun wq hwq => ?r4y7) (fun L9 hL9 => ?r4r7)
            case r4y7 => (have h1 := HG1.out; go_simp; try (first | with_reducible rfl | exact h1 | (simpa using h1)))
            try simp only [Act.put, List.setIfInBounds_toArray, List.set_cons_zero, List.set_cons_succ]
            refine quiet_take (v := .bool false) hL9 (by kernel_rfl) (fun wq hwq => ?r4y8) (fun L9 hL9 => ?r4r8)
            case r4y8 => (go_simp; try with_reducible rfl)
            try simp only [Act.put, List.setIfInBounds_toArray, List.set_cons_zero, List.set_cons_succ]
            refine quiet_take (v := .bool false) hL9 (by kernel_rfl) (fun wq hwq => ?r4y9) (fun L9 hL9 => ?r4r9)
            case r4y9 => (go_simp; try with_reducible rfl)
            try simp only [Act.put, List.setIfInBounds_toArray, List.set_cons_zero, List.set_cons_succ]
            refine quiet_take (v := ?r4v10) hL9 (by kernel_rfl) (fun wq hwq => ?r4y10) (fun L9 hL9 => ?r4r10)
            case r4y10 => (go_simp; try with_reducible rfl)
            try simp only [Act.put, List.setIfInBounds_toArray, List.set_cons_zero, List.set_cons_succ]
            refine quiet_take (v := .int .i64 S.rows) hL9 (by kernel_rfl) (fun wq hwq => ?r4y11) (fun L9 hL9 => ?r4r11)
            case r4y11 => (obtain ⟨s0, s1, s2, s3, s4, s5, s6, s7⟩ := HSY.out wq hwq; go_simp; try with_reducible rfl)
            try simp only [Act.put, List.setIfInBounds_toArray, List.set_cons_zero, List.set_cons_succ]
            refine quiet_take (v := .bool false) hL9 (by kernel_rfl) (fun wq hwq => ?r4y12) (fun L9 hL9 => ?r4r12)
            case r4y12 => (have h1 := HG2.out; go_simp; try (first | with_reducible rfl | exact h1 | (simpa using h1)))
            try simp only [Act.put, List.setIfInBounds_toArray, List.set_cons_zero, List.set_cons_succ]
            refine quiet_take (v := .bool false) hL9 (by kernel_rfl) (fun wq hwq => ?r4y13) (fun L9 hL9 => ?r4r13)
            case r4y13 => (go_simp; try with_reducible rfl)
            try simp only [Act.put, List.setIfInBounds_toArray, List.set_cons_zero, List.set_cons_succ]
            refine quiet_take (v := .bool false) hL9 (by kernel_rfl) (fun wq hwq => ?r4y14) (fun L9 hL9 => ?r4r14)
            case r4y14 => (go_simp; try with_reducible rfl)
            try simp only [Act.put, List.setIfInBounds_toArray, List.set_cons_zero, List.set_cons_succ]
            refine quiet_take (v := ?r4v15) hL9 (by kernel_rfl) (fun wq hwq => ?r4y15) (fun L9 hL9 => ?r4r15)
            case r4y15 => (go_simp; try with_reducible rfl)
            try simp only [Act.put, List.setIfInBounds_toArray, List.set_cons_zero, List.set_cons_succ]
            refine quiet_take (v := .int .i64 S.rows) hL9 (by kernel_rfl) (fun wq hwq => ?r4y16) (fun L9 hL9 => ?r4r16)
            case r4y16 => (obtain ⟨s0, s1, s2, s3, s4, s5, s6, s7⟩ := HSY.out wq hwq; go_simp; try with_reducible rfl)
            try simp only [Act.put, List.setIfInBounds_toArray, List.set_cons_zero, List.set_cons_succ]
            refine quiet_take (v := ?r4v17) hL9 (by kernel_rfl) (fun wq hwq => ?r4y17) (fun L9 hL9 => ?r4r17)
            case r4y17 => (go_simp; try with_reducible rfl)
            try simp only [Act.put, List.setIfInBounds_toArray, List.set_cons_zero, List.set_cons_succ]
            refine quiet_take (v := .int .i64 S.f) hL9 (by kernel_rfl) (fun wq hwq => ?r4y18) (fun L9 hL9 => ?r4r18)
            case r4y18 => (obtain ⟨s0, s1, s2, s3, s4, s5, s6, s7⟩ := HSY.out wq hwq; go_simp; try with_reducible rfl)
            try simp only [Act.put, List.setIfInBounds_toArray, List.set_cons_zero, List.set_cons_succ]
            refine quiet_take (v := .int .i64 ((twoOf S.f : Nat) : Int)) hL9 (by kernel_rfl) (fun wq hwq => ?r4y19) (fun L9 hL9 => ?r4r19)
            case r4y19 => (go_simp; go_at_call 110; exact HTW.out wq hwq)
            try simp only [Act.put, List.setIfInBounds_toArray, List.set_cons_zero, List.set_cons_succ]
            refine quiet_take (v := .bool false) hL9 (by kernel_rfl) (fun wq hwq => ?r4y20) (fun L9 hL9 => ?r4r20)
            case r4y20 => (have h1 := HG3.out; go_simp; try (first | with_reducible rfl | exact h1 | (simpa using h1)))
            try simp only [Act.put, List.setIfInBounds_toArray, List.set_cons_zero, List.set_cons_succ]
            refine quiet_take (v := .bool false) hL9 (by kernel_rfl) (fun wq hwq => ?r4y21) (fun L9 hL9 => ?r4r21)
            case r4y21 => (go_simp; try with_reducible rfl)
            try simp only [Act.put, List.setIfInBounds_toArray, List.set_cons_zero, List.set_cons_succ]
            refine quiet_take (v := .bool false) hL9 (by kernel_rfl) (fun wq hwq => ?r4y22) (fun L9 hL9 => ?r4r22)
            case r4y22 => (go_simp; try with_reducible rfl)
            try simp only [Act.put, List.setIfInBounds_toArray, List.set_cons_zero, List.set_cons_succ]
            refine quiet_take (v := ?r4v23) hL9 (by kernel_rfl) (fun wq hwq => ?r4y23) (fun L9 hL9 => ?r4r23)
            case r4y23 => (go_simp; try with_reducible rfl)
            try simp only [Act.put, List.setIfInBounds_toArray, List.set_cons_zero, List.set_cons_succ]
            refine quiet_take (v := .int .i64 S.main) hL9 (by kernel_rfl) (fun wq hwq => ?r4y24) (fun L9 hL9 => ?r4r24)
            case r4y24 => (obtain ⟨s0, s1, s2, s3, s4, s5, s6, s7⟩ := HSY.out wq hwq; go_simp; try with_reducible rfl)
            try simp only [Act.put, List.setIfInBounds_toArray, List.set_cons_zero, List.set_cons_succ]
            refine quiet_take (v := .bool true) hL9 (by kernel_rfl) (fun wq hwq => ?r4y25) (fun L9 hL9 => ?r4r25)
            case r4y25 => (have h1 := HG4.out; go_simp; try (first | with_reducible rfl | exact h1 | (simpa using h1)))
            try simp only [Act.put, List.setIfInBounds_toArray, List.set_cons_zero, List.set_cons_succ]
            refine quiet_take (v := .bool true) hL9 (by kernel_rfl) (fun wq hwq => ?r4y26) (fun L9 hL9 => ?r4r26)
            case r4y26 => (go_simp; try with_reducible rfl)
            try simp only [Act.put, List.setIfInBounds_toArray, List.set_cons_zero, List.set_cons_succ]
            refine quiet_take (v := .bool true) hL9 (by kernel_rfl) (fun wq hwq => ?r4y27) (fun L9 hL9 => ?r4r27)
            case r4y27 => (go_simp; try with_reducible rfl)
            try simp only [Act.put, List.setIfInBounds_toArray, List.set_cons_zero, List.set_cons_succ]
            refine quiet_skip hL9 (by kernel_rfl) (fun L9 hL9 => ?_)
            try simp only [Act.put, List.setIfInBounds_toArray, List.set_cons_zero, List.set_cons_succ]
            refine quiet_skip hL9 (by kernel_rfl) (fun L9 hL9 => ?_)
            try simp only [Act.put, List.setIfInBounds_toArray, List.set_cons_zero, List.set_cons_succ]
            refine quiet_skip hL9 (by kernel_rfl) (fun L9 hL9 => ?_)
            try simp only [Act.put, List.setIfInBounds_toArray, List.set_cons_zero, List.set_cons_succ]
            refine quiet_take (v := .bool true) hL9 (by kernel_rfl) (fun wq hwq => ?r4y31) (fun L9 hL9 => ?r4r31)
            case r4y31 => (go_simp; try with_reducible rfl)
            try simp only [Act.put, List.setIfInBounds_toArray, List.set_cons_zero, List.set_cons_succ]
            refine quiet_take (v := .bool true) hL9 (by kernel_rfl) (fun wq hwq => ?r4y32) (fun L9 hL9 => ?r4r32)
            case r4y32 => (go_simp; try with_reducible rfl)
            try simp only [Act.put, List.setIfInBounds_toArray, List.set_cons_zero, List.set_cons_succ]
            refine quiet_skip hL9 (by kernel_rfl) (fun L9 hL9 => ?_)
            try simp only [Act.put, List.setIfInBounds_toArray, List.set_cons_zero, List.set_cons_succ]
            refine quiet_skip hL9 (by kernel_rfl) (fun L9 hL9 => ?_)
            try simp only [Act.put, List.setIfInBounds_toArray, List.set_cons_zero, List.set_cons_succ]
            refine quiet_skip hL9 (by kernel_rfl) (fun L9 hL9 => ?_)
            try simp only [Act.put, List.setIfInBounds_toArray, List.set_cons_zero, List.set_cons_succ]
            refine quiet_take (v := .bool true) hL9 (by kernel_rfl) (fun wq hwq => ?r4y36) (fun L9 hL9 => ?r4r36)
            case r4y36 => (go_simp; try with_reducible rfl)
            try simp only [Act.put, List.setIfInBounds_toArray, List.set_cons_zero, List.set_cons_succ]
            refine quiet_take (v := .bool true) hL9 (by kernel_rfl) (fun wq hwq => ?r4y37) (fun L9 hL9 => ?r4r37)
            case r4y37 => (go_simp; try with_reducible rfl)
            try simp only [Act.put, List.setIfInBounds_toArray, List.set_cons_zero, List.set_cons_succ]
            refine quiet_skip hL9 (by kernel_rfl) (fun L9 hL9 => ?_)
            try simp only [Act.put, List.setIfInBounds_toArray, List.set_cons_zero, List.set_cons_succ]
            refine quiet_skip hL9 (by kernel_rfl) (fun L9 hL9 => ?_)
            try simp only [Act.put, List.setIfInBounds_toArray, List.set_cons_zero, List.set_cons_succ]
            refine quiet_skip hL9 (by kernel_rfl) (fun L9 hL9 => ?_)
            try simp only [Act.put, List.setIfInBounds_toArray, List.set_cons_zero, List.set_cons_succ]
            refine quiet_nil hL9 ?_
            clear hL9
            intro wy hOy
            have hOz := HO0.out.trans hOy
            go_wp2
            go_ret
            exact ⟨rfl, hOz⟩
          | false =>
            cases c5 with
            | true =>
              go_enter Tryd.func55, Tryd.ntmps55
              go_upto_region 1 with fail
              rw [← HW0.out, ← HQ.out]
              refine region_keep_tail (fun wq => On W0 wq) 41 (by kernel_rfl) (by kernel_rfl) (On.refl HOK.out.tab).drew ?_
              simp only [List.take_succ_cons, List.take_zero, List.drop_succ_cons, List.drop_zero]
              refine quiet_start fun L9 hL9 => ?_
              refine quiet_take (v := ?r5v0) hL9 (by kernel_rfl) (fun wq hwq => ?r5y0) (fun L9 hL9 => ?r5r0)
              case r5y0 => (go_simp; try with_reducible rfl)
              try simp only [Act.put, List.setIfInBounds_toArray, List.set_cons_zero, List.set_cons_succ]
              refine quiet_take (v := .int .i64 S.f) hL9 (by kernel_rfl) (fun wq hwq => ?r5y1) (fun L9 hL9 => ?r5r1)
              case r5y1 => (obtain ⟨s0, s1, s2, s3, s4, s5, s6, s7⟩ := HSY.out wq hwq; go_simp; try with_reducible rfl)
              try simp only [Act.put, List.setIfInBounds_toArray, List.set_cons_zero, List.set_cons_succ]
              refine quiet_take (v := .bool true) hL9 (by kernel_rfl) (fun wq hwq => ?r5y2) (fun L9 hL9 => ?r5r2)
              case r5y2 => (go_simp; go_at_call 69; exact HVF.out wq hwq)
              try simp only [Act.put, List.setIfInBounds_toArray, List.set_cons_zero, List.set_cons_succ]
              refine quiet_take (v := .bool false) hL9 (by kernel_rfl) (fun wq hwq => ?r5y3) (fun L9 hL9 => ?r5r3)
              case r5y3 => (go_simp; try with_reducible rfl)
              try simp only [Act.put, List.setIfInBounds_toArray, List.set_cons_zero, List.set_cons_succ]
              refine quiet_take (v := .bool false) hL9 (by kernel_rfl) (fun wq hwq => ?r5y4) (fun L9 hL9 => ?r5r4)
              case r5y4 => (go_simp; try with_reducible rfl)
              try simp only [Act.put, List.setIfInBounds_toArray, List.set_cons_zero, List.set_cons_succ]
              refine quiet_take (v := ?r5v5) hL9 (by kernel_rfl) (fun wq hwq => ?r5y5) (fun L9 hL9 => ?r5r5)
              case r5y5 => (go_simp; try with_reducible rfl)
              try simp only [Act.put, List.setIfInBounds_toArray, List.set_cons_zero, List.set_cons_succ]
              refine quiet_take (v := .int .i64 S.rows) hL9 (by kernel_rfl) (fun wq hwq => ?r5y6) (fun L9 hL9 => ?r5r6)
              case r5y6 => (obtain ⟨s0, s1, s2, s3, s4, s5, s6, s7⟩ := HSY.out wq hwq; go_simp; try with_reducible rfl)
              try simp only [Act.put, List.setIfInBounds_toArray, List.set_cons_zero, List.set_cons_succ]
              refine quiet_take (v := .bool false) hL9 (by kernel_rfl) (fun wq hwq => ?r5y7) (fun L9 hL9 => ?r5r7)
              case r5y7 => (have h1 := HG1.out; go_simp; try (first | with_reducible rfl | exact h1 | (simpa using h1)))
              try simp only [Act.put, List.setIfInBounds_toArray, List.set_cons_zero, List.set_cons_succ]
              refine quiet_take (v := .bool false) hL9 (by kernel_rfl) (fun wq hwq => ?r5y8) (fun L9 hL9 => ?r5r8)
              case r5y8 => (go_simp; try with_reducible rfl)
              try simp only [Act.put, List.setIfInBounds_toArray, List.set_cons_zero, List.set_cons_succ]
              refine quiet_take (v := .bool false) hL9 (by kernel_rfl) (fun wq hwq => ?r5y9) (fun L9 hL9 => ?r5r9)
              case r5y9 => (go_simp; try with_reducible rfl)
              try simp only [Act.put, List.setIfInBounds_toArray, List.set_cons_zero, List.set_cons_succ]
              refine quiet_take (v := ?r5v10) hL9 (by kernel_rfl) (fun wq hwq => ?r5y10) (fun L9 hL9 => ?r5r10)
              case r5y10 => (go_simp; try with_reducible rfl)
              try simp only [Act.put, List.setIfInBounds_toArray, List.set_cons_zero, List.set_cons_succ]
              refine quiet_take (v := .int .i64 S.rows) hL9 (by kernel_rfl) (fun wq hwq => ?r5y11) (fun L9 hL9 => ?r5r11)
              case r5y11 => (obtain ⟨s0, s1, s2, s3, s4, s5, s6, s7⟩ := HSY.out wq hwq; go_simp; try with_reducible rfl)
              try simp only [Act.put, List.setIfInBounds_toArray, List.set_cons_zero, List.set_cons_succ]
              refine quiet_take (v := .bool false) hL9 (by kernel_rfl) (fun wq hwq => ?r5y12) (fun L9 hL9 => ?r5r12)
              case r5y12 => (have h1 := HG2.out; go_simp; try (first | with_reducible rfl | exact h1 | (simpa using h1)))
              try simp only [Act.put, List.setIfInBounds_toArray, List.set_cons_zero, List.set_cons_succ]
              refine quiet_take (v := .bool false) hL9 (by kernel_rfl) (fun wq hwq => ?r5y13) (fun L9 hL9 => ?r5r13)
              case r5y13 => (go_simp; try with_reducible rfl)
              try simp only [Act.put, List.setIfInBounds_toArray, List.set_cons_zero, List.set_cons_succ]
              refine quiet_take (v := .bool false) hL9 (by kernel_rfl) (fun wq hwq => ?r5y14) (fun L9 hL9 => ?r5r14)
              case r5y14 => (go_simp; try with_reducible rfl)
              try simp only [Act.put, List.setIfInBounds_toArray, List.set_cons_zero, List.set_cons_succ]
              refine quiet_take (v := ?r5v15) hL9 (by kernel_rfl) (fun wq hwq => ?r5y15) (fun L9 hL9 => ?r5r15)
              case r5y15 => (go_simp; try with_reducible rfl)
              try simp only [Act.put, List.setIfInBounds_toArray, List.set_cons_zero, List.set_cons_succ]
              refine quiet_take (v := .int .i64 S.rows) hL9 (by kernel_rfl) (fun wq hwq => ?r5y16) (fun L9 hL9 => ?r5r16)
              case r5y16 => (obtain ⟨s0, s1, s2, s3, s4, s5, s6, s7⟩ := HSY.out wq hwq; go_simp; try with_reducible rfl)
              try simp only [Act.put, List.setIfInBounds_toArray, List.set_cons_zero, List.set_cons_succ]
              refine quiet_take (v := ?r5v17) hL9 (by kernel_rfl) (fun wq hwq => ?r5y17) (fun L9 hL9 => ?r5r17)
              case r5y17 => (go_simp; try with_reducible rfl)
              try simp only [Act.put, List.setIfInBounds_toArray, List.set_cons_zero, List.set_cons_succ]
              refine quiet_take (v := .int .i64 S.f) hL9 (by kernel_rfl) (fun wq hwq => ?r5y18) (fun L9 hL9 => ?r5r18)
              case r5y18 => (obtain ⟨s0, s1, s2, s3, s4, s5, s6, s7⟩ := HSY.out wq hwq; go_simp; try with_reducible rfl)
              try simp only [Act.put, List.setIfInBounds_toArray, List.set_cons_zero, List.set_cons_succ]
              refine quiet_take (v := .int .i64 ((twoOf S.f : Nat) : Int)) hL9 (by kernel_rfl) (fun wq hwq => ?r5y19) (fun L9 hL9 => ?r5r19)
              case r5y19 => (go_simp; go_at_call 110; exact HTW.out wq hwq)
              try simp only [Act.put, List.setIfInBounds_toArray, List.set_cons_zero, List.set_cons_succ]
              refine quiet_take (v := .bool false) hL9 (by kernel_rfl) (fun wq hwq => ?r5y20) (fun L9 hL9 => ?r5r20)
              case r5y20 => (have h1 := HG3.out; go_simp; try (first | with_reducible rfl | exact h1 | (simpa using h1)))
              try simp only [Act.put, List.setIfInBounds_toArray, List.set_cons_zero, List.set_cons_succ]
              refine quiet_take (v := .bool false) hL9 (by kernel_rfl) (fun wq hwq => ?r5y21) (fun L9 hL9 => ?r5r21)
              case r5y21 => (go_simp; try with_reducible rfl)
              try simp only [Act.put, List.setIfInBounds_toArray, List.set_cons_zero, List.set_cons_succ]
              refine quiet_take (v := .bool false) hL9 (by kernel_rfl) (fun wq hwq => ?r5y22) (fun L9 hL9 => ?r5r22)
              case r5y22 => (go_simp; try with_reducible rfl)
              try simp only [Act.put, List.setIfInBounds_toArray, List.set_cons_zero, List.set_cons_succ]
              refine quiet_take (v := ?r5v23) hL9 (by kernel_rfl) (fun wq hwq => ?r5y23) (fun L9 hL9 => ?r5r23)
              case r5y23 => (go_simp; try with_reducible rfl)
              try simp only [Act.put, List.setIfInBounds_toArray, List.set_cons_zero, List.set_cons_succ]
              refine quiet_take (v := .int .i64 S.main) hL9 (by kernel_rfl) (fun wq hwq => ?r5y24) (fun L9 hL9 => ?r5r24)
              case r5y24 => (obtain ⟨s0, s1, s2, s3, s4, s5, s6, s7⟩ := HSY.out wq hwq; go_simp; try with_reducible rfl)
              try simp only [Act.put, List.setIfInBounds_toArray, List.set_cons_zero, List.set_cons_succ]
              refine quiet_take (v := .bool false) hL9 (by kernel_rfl) (fun wq hwq => ?r5y25) (fun L9 hL9 => ?r5r25)
              case r5y25 => (have h1 := HG4.out; go_simp; try (first | with_reducible rfl | exact h1 | (simpa using h1)))
              try simp only [Act.put, List.setIfInBounds_toArray, List.set_cons_zero, List.set_cons_succ]
              refine quiet_take (v := .bool false) hL9 (by kernel_rfl) (fun wq hwq => ?r5y26) (fun L9 hL9 => ?r5r26)
              case r5y26 => (go_simp; try with_reducible rfl)
              try simp only [Act.put, List.setIfInBounds_toArray, List.set_cons_zero, List.set_cons_succ]
              refine quiet_take (v := .bool false) hL9 (by kernel_rfl) (fun wq hwq => ?r5y27) (fun L9 hL9 => ?r5r27)
              case r5y27 => (go_simp; try with_reducible rfl)
              try simp only [Act.put, List.setIfInBounds_toArray, List.set_cons_zero, List.set_cons_succ]
              refine quiet_take (v := ?r5v28) hL9 (by kernel_rfl) (fun wq hwq => ?r5y28) (fun L9 hL9 => ?r5r28)
              case r5y28 => (go_simp; try with_reducible rfl)
              try simp only [Act.put, List.setIfInBounds_toArray, List.set_cons_zero, List.set_cons_succ]
              refine quiet_take (v := .int .i64 S.main) hL9 (by kernel_rfl) (fun wq hwq => ?r5y29) (fun L9 hL9 => ?r5r29)
              case r5y29 => (obtain ⟨s0, s1, s2, s3, s4, s5, s6, s7⟩ := HSY.out wq hwq; go_simp; try with_reducible rfl)
              try simp only [Act.put, List.setIfInBounds_toArray, List.set_cons_zero, List.set_cons_succ]
              refine quiet_take (v := .bool true) hL9 (by kernel_rfl) (fun wq hwq => ?r5y30) (fun L9 hL9 => ?r5r30)
              case r5y30 => (have h1 := HG5.out; go_simp; try (first | with_reducible rfl | exact h1 | (simpa using h1)))
              try simp only [Act.put, List.setIfInBounds_toArray, List.set_cons_zero, List.set_cons_succ]
              refine quiet_take (v := .bool true) hL9 (by kernel_rfl) (fun wq hwq => ?r5y31) (fun L9 hL9 => ?r5r31)
              case r5y31 => (go_simp; try with_reducible rfl)
              try simp only [Act.put, List.setIfInBounds_toArray, List.set_cons_zero, List.set_cons_succ]
              refine quiet_take (v := .bool true) hL9 (by kernel_rfl) (fun wq hwq => ?r5y32) (fun L9 hL9 => ?r5r32)
              case r5y32 => (go_simp; try with_reducible rfl)
              try simp only [Act.put, List.setIfInBounds_toArray, List.set_cons_zero, List.set_cons_succ]
              refine quiet_skip hL9 (by kernel_rfl) (fun L9 hL9 => ?_)
              try simp only [Act.put, List.setIfInBounds_toArray, List.set_cons_zero, List.set_cons_succ]
              refine quiet_skip hL9 (by kernel_rfl) (fun L9 hL9 => ?_)
              try simp only [Act.put, List.setIfInBounds_toArray, List.set_cons_zero, List.set_cons_succ]
              refine quiet_skip hL9 (by kernel_rfl) (fun L9 hL9 => ?_)
              try simp only [Act.put, List.setIfInBounds_toArray, List.set_cons_zero, List.set_cons_succ]
              refine quiet_take (v := .bool true) hL9 (by kernel_rfl) (fun wq hwq => ?r5y36) (fun L9 hL9 => ?r5r36)
              case r5y36 => (go_simp; try with_reducible rfl)
              try simp only [Act.put, List.setIfInBounds_toArray, List.set_cons_zero, List.set_cons_succ]
              refine quiet_take (v := .bool true) hL9 (by kernel_rfl) (fun wq hwq => ?r5y37) (fun L9 hL9 => ?r5r37)
              case r5y37 => (go_simp; try with_reducible rfl)
              try simp only [Act.put, List.setIfInBounds_toArray, List.set_cons_zero, List.set_cons_succ]
              refine quiet_skip hL9 (by kernel_rfl) (fun L9 hL9 => ?_)
              try simp only [Act.put, List.setIfInBounds_toArray, List.set_cons_zero, List.set_cons_succ]
              refine quiet_skip hL9 (by kernel_rfl) (fun L9 hL9 => ?_)
              try simp only [Act.put, List.setIfInBounds_toArray, List.set_cons_zero, List.set_cons_succ]
              refine quiet_skip hL9 (by kernel_rfl) (fun L9 hL9 => ?_)
              try simp only [Act.put, List.setIfInBounds_toArray, List.set_cons_zero, List.set_cons_succ]
              refine quiet_nil hL9 ?_
              clear hL9
              intro wy hOy
              have hOz := HO0.out.trans hOy
              go_wp2
              go_ret
              exact ⟨rfl, hOz⟩
            | false =>
              cases c6 with
              | true =>
                go_enter Tryd.func55, Tryd.ntmps55
                go_upto_region 1 with fail
                rw [← HW0.out, ← HQ.out]
                refine region_keep_tail (fun wq => On W0 wq) 41 (by kernel_rfl) (by kernel_rfl) (On.refl HOK.out.tab).drew ?_
                simp only [List.take_succ_cons, List.take_zero, List.drop_succ_cons, List.drop_zero]
                refine quiet_start fun L9 hL9 => ?_
                refine quiet_take (v := ?r6v0) hL9 (by kernel_rfl) (fun wq hwq => ?r6y0) (fun L9 hL9 => ?r6r0)
                case r6y0 => (go_simp; try with_reducible rfl)
                try simp only [Act.put, List.setIfInBounds_toArray, List.set_cons_zero, List.set_cons_succ]
                refine quiet_take (v := .int .i64 S.f) hL9 (by kernel_rfl) (fun wq hwq => ?r6y1) (fun L9 hL9 => ?r6r1)
                case r6y1 => (obtain ⟨s0, s1, s2, s3, s4, s5, s6, s7⟩ := HSY.out wq hwq; go_simp; try with_reducible rfl)
                try simp only [Act.put, List.setIfInBounds_toArray, List.set_cons_zero, List.set_cons_succ]
                refine quiet_take (v := .bool true) hL9 (by kernel_rfl) (fun wq hwq => ?r6y2) (fun L9 hL9 => ?r6r2)
                case r6y2 => (go_simp; go_at_call 69; exact HVF.out wq hwq)
                try simp only [Act.put, List.setIfInBounds_toArray, List.set_cons_zero, List.set_cons_succ]
                refine quiet_take (v := .bool false) hL9 (by kernel_rfl) (fun wq hwq => ?r6y3) (fun L9 hL9 => ?r6r3)
                case r6y3 => (go_simp; try with_reducible rfl)
                try simp only [Act.put, List.setIfInBounds_toArray, List.set_cons_zero, List.set_cons_succ]
                refine quiet_take (v := .bool false) hL9 (by kernel_rfl) (fun wq hwq => ?r6y4) (fun L9 hL9 => ?r6r4)
                case r6y4 => (go_simp; try with_reducible rfl)
                try simp only [Act.put, List.setIfInBounds_toArray, List.set_cons_zero, List.set_cons_succ]
                refine quiet_take (v := ?r6v5) hL9 (by kernel_rfl) (fun wq hwq => ?r6y5) (fun L9 hL9 => ?r6r5)
                case r6y5 => (go_simp; try with_reducible rfl)
                try simp only [Act.put, List.setIfInBounds_toArray, List.set_cons_zero, List.set_cons_succ]
                refine quiet_take (v := .int .i64 S.rows) hL9 (by kernel_rfl) (fun wq hwq => ?r6y6) (fun L9 hL9 => ?r6r6)
                case r6y6 => (obtain ⟨s0, s1, s2, s3, s4, s5, s6, s7⟩ := HSY.out wq hwq; go_simp; try with_reducible rfl)
                try simp only [Act.put, List.setIfInBounds_toArray, List.set_cons_zero, List.set_cons_succ]
                refine quiet_take (v := .bool false) hL9 (by kernel_rfl) (fun wq hwq => ?r6y7) (fun L9 hL9 => ?r6r7)
                case r6y7 => (have h1 := HG1.out; go_simp; try (first | with_reducible rfl | exact h1 | (simpa using h1)))
                try simp only [Act.put, List.setIfInBounds_toArray, List.set_cons_zero, List.set_cons_succ]
                refine quiet_take (v := .bool false) hL9 (by kernel_rfl) (fun wq hwq => ?r6y8) (fun L9 hL9 => ?r6r8)
                case r6y8 => (go_simp; try with_reducible rfl)
                try simp only [Act.put, List.setIfInBounds_toArray, List.set_cons_zero, List.set_cons_succ]
                refine quiet_take (v := .bool false) hL9 (by kernel_rfl) (fun wq hwq => ?r6y9) (fun L9 hL9 => ?r6r9)
                case r6y9 => (go_simp; try with_reducible rfl)
                try simp only [Act.put, List.setIfInBounds_toArray, List.set_cons_zero, List.set_cons_succ]
                refine quiet_take (v := ?r6v10) hL9 (by kernel_rfl) (fun wq hwq => ?r6y10) (fun L9 hL9 => ?r6r10)
                case r6y10 => (go_simp; try with_reducible rfl)
                try simp only [Act.put, List.setIfInBounds_toArray, List.set_cons_zero, List.set_cons_succ]
                refine quiet_take (v := .int .i64 S.rows) hL9 (by kernel_rfl) (fun wq hwq => ?r6y11) (fun L9 hL9 => ?r6r11)
                case r6y11 => (obtain ⟨s0, s1, s2, s3, s4, s5, s6, s7⟩ := HSY.out wq hwq; go_simp; try with_reducible rfl)
                try simp only [Act.put, List.setIfInBounds_toArray, List.set_cons_zero, List.set_cons_succ]
                refine quiet_take (v := .bool false) hL9 (by kernel_rfl) (fun wq hwq => ?r6y12) (fun L9 hL9 => ?r6r12)
                case r6y12 => (have h1 := HG2.out; go_simp; try (first | with_reducible rfl | exact h1 | (simpa using h1)))
                try simp only [Act.put, List.setIfInBounds_toArray, List.set_cons_zero, List.set_cons_succ]
                refine quiet_take (v := .bool false) hL9 (by kernel_rfl) (fun wq hwq => ?r6y13) (fun L9 hL9 => ?r6r13)
                case r6y13 => (go_simp; try with_reducible rfl)
                try simp only [Act.put, List.setIfInBounds_toArray, List.set_cons_zero, List.set_cons_succ]
                refine quiet_take (v := .bool false) hL9 (by kernel_rfl) (fun wq hwq => ?r6y14) (fun L9 hL9 => ?r6r14)
                case r6y14 => (go_simp; try with_reducible rfl)
                try simp only [Act.put, List.setIfInBounds_toArray, List.set_cons_zero, List.set_cons_succ]
                refine quiet_take (v := ?r6v15) hL9 (by kernel_rfl) (fun wq hwq => ?r6y15) (fun L9 hL9 => ?r6r15)
                case r6y15 => (go_simp; try with_reducible rfl)
                try simp only [Act.put, List.setIfInBounds_toArray, List.set_cons_zero, List.set_cons_succ]
                refine quiet_take (v := .int .i64 S.rows) hL9 (by kernel_rfl) (fun wq hwq => ?r6y16) (fun L9 hL9 => ?r6r16)
                case r6y16 => (obtain ⟨s0, s1, s2, s3, s4, s5, s6, s7⟩ := HSY.out wq hwq; go_simp; try with_reducible rfl)
                try simp only [Act.put, List.setIfInBounds_toArray, List.set_cons_zero, List.set_cons_succ]
                refine quiet_take (v := ?r6v17) hL9 (by kernel_rfl) (fun wq hwq => ?r6y17) (fun L9 hL9 => ?r6r17)
                case r6y17 => (go_simp; try with_reducible rfl)
                try simp only [Act.put, List.setIfInBounds_toArray, List.set_cons_zero, List.set_cons_succ]
                refine quiet_take (v := .int .i64 S.f) hL9 (by kernel_rfl) (fun wq hwq => ?r6y18) (fun L9 hL9 => ?r6r18)
                case r6y18 => (obtain ⟨s0, s1, s2, s3, s4, s5, s6, s7⟩ := HSY.out wq hwq; go_simp; try with_reducible rfl)
                try simp only [Act.put, List.setIfInBounds_toArray, List.set_cons_zero, List.set_cons_succ]
                refine quiet_take (v := .int .i64 ((twoOf S.f : Nat) : Int)) hL9 (by kernel_rfl) (fun wq hwq => ?r6y19) (fun L9 hL9 => ?r6r19)
                case r6y19 => (go_simp; go_at_call 110; exact HTW.out wq hwq)
                try simp only [Act.put, List.setIfInBounds_toArray, List.set_cons_zero, List.set_cons_succ]
                refine quiet_take (v := .bool false) hL9 (by kernel_rfl) (fun wq hwq => ?r6y20) (fun L9 hL9 => ?r6r20)
                case r6y20 => (have h1 := HG3.out; go_simp; try (first | with_reducible rfl | exact h1 | (simpa using h1)))
                try simp only [Act.put, List.setIfInBounds_toArray, List.set_cons_zero, List.set_cons_succ]
                refine quiet_take (v := .bool false) hL9 (by kernel_rfl) (fun wq hwq => ?r6y21) (fun L9 hL9 => ?r6r21)
                case r6y21 => (go_simp; try with_reducible rfl)
                try simp only [Act.put, List.setIfInBounds_toArray, List.set_cons_zero, List.set_cons_succ]
                refine quiet_take (v := .bool false) hL9 (by kernel_rfl) (fun wq hwq => ?r6y22) (fun L9 hL9 => ?r6r22)
                case r6y22 => (go_simp; try with_reducible rfl)
                try simp only [Act.put, List.setIfInBounds_toArray, List.set_cons_zero, List.set_cons_succ]
                refine quiet_take (v := ?r6v23) hL9 (by kernel_rfl) (fun wq hwq => ?r6y23) (fun L9 hL9 => ?r6r23)
                case r6y23 => (go_simp; try with_reducible rfl)
                try simp only [Act.put, List.setIfInBounds_toArray, List.set_cons_zero, List.set_cons_succ]
                refine quiet_take (v := .int .i64 S.main) hL9 (by kernel_rfl) (fun wq hwq => ?r6y24) (fun L9 hL9 => ?r6r24)
                case r6y24 => (obtain ⟨s0, s1, s2, s3, s4, s5, s6, s7⟩ := HSY.out wq hwq; go_simp; try with_reducible rfl)
                try simp only [Act.put, List.setIfInBounds_toArray, List.set_cons_zero, List.set_cons_succ]
                refine quiet_take (v := .bool false) hL9 (by kernel_rfl) (fun wq hwq => ?r6y25) (fun L9 hL9 => ?r6r25)
                case r6y25 => (have h1 := HG4.out; go_simp; try (first | with_reducible rfl | exact h1 | (simpa using h1)))
                try simp only [Act.put, List.setIfInBounds_toArray, List.set_cons_zero, List.set_cons_succ]
                refine quiet_take (v := .bool false) hL9 (by kernel_rfl) (fun wq hwq => ?r6y26) (fun L9 hL9 => ?r6r26)
                case r6y26 => (go_simp; try with_reducible rfl)
                try simp only [Act.put, List.setIfInBounds_toArray, List.set_cons_zero, List.set_cons_succ]
                refine quiet_take (v := .bool false) hL9 (by kernel_rfl) (fun wq hwq => ?r6y27) (fun L9 hL9 => ?r6r27)
                case r6y27 => (go_simp; try with_reducible rfl)
                try simp only [Act.put, List.setIfInBounds_toArray, List.set_cons_zero, List.set_cons_succ]
                refine quiet_take (v := ?r6v28) hL9 (by kernel_rfl) (fun wq hwq => ?r6y28) (fun L9 hL9 => ?r6r28)
                case r6y28 => (go_simp; try with_reducible rfl)
                try simp only [Act.put, List.setIfInBounds_toArray, List.set_cons_zero, List.set_cons_succ]
                refine quiet_take (v := .int .i64 S.main) hL9 (by kernel_rfl) (fun wq hwq => ?r6y29) (fun L9 hL9 => ?r6r29)
                case r6y29 => (obtain ⟨s0, s1, s2, s3, s4, s5, s6, s7⟩ := HSY.out wq hwq; go_simp; try with_reducible rfl)
                try simp only [Act.put, List.setIfInBounds_toArray, List.set_cons_zero, List.set_cons_succ]
                refine quiet_take (v := .bool false) hL9 (by kernel_rfl) (fun wq hwq => ?r6y30) (fun L9 hL9 => ?r6r30)
                case r6y30 => (have h1 := HG5.out; go_simp; try (first | with_reducible rfl | exact h1 | (simpa using h1)))
                try simp only [Act.put, List.setIfInBounds_toArray, List.set_cons_zero, List.set_cons_succ]
                refine quiet_take (v := .bool false) hL9 (by kernel_rfl) (fun wq hwq => ?r6y31) (fun L9 hL9 => ?r6r31)
                case r6y31 => (go_simp; try with_reducible rfl)
                try simp only [Act.put, List.setIfInBounds_toArray, List.set_cons_zero, List.set_cons_succ]
                refine quiet_take (v := .bool false) hL9 (by kernel_rfl) (fun wq hwq => ?r6y32) (fun L9 hL9 => ?r6r32)
                case r6y32 => (go_simp; try with_reducible rfl)
                try simp only [Act.put, List.setIfInBounds_toArray, List.set_cons_zero, List.set_cons_succ]
                refine quiet_take (v := ?r6v33) hL9 (by kernel_rfl) (fun wq hwq => ?r6y33) (fun L9 hL9 => ?r6r33)
                case r6y33 => (go_simp; try with_reducible rfl)
                try simp only [Act.put, List.setIfInBounds_toArray, List.set_cons_zero, List.set_cons_succ]
                refine quiet_take (v := .int .i64 S.pub) hL9 (by kernel_rfl) (fun wq hwq => ?r6y34) (fun L9 hL9 => ?r6r34)
                case r6y34 => (obtain ⟨s0, s1, s2, s3, s4, s5, s6, s7⟩ := HSY.out wq hwq; go_simp; try with_reducible rfl)
                try simp only [Act.put, List.setIfInBounds_toArray, List.set_cons_zero, List.set_cons_succ]
                refine quiet_take (v := .bool true) hL9 (by kernel_rfl) (fun wq hwq => ?r6y35) (fun L9 hL9 => ?r6r35)
                case r6y35 => (have h1 := HG6.out; go_simp; try (first | with_reducible rfl | exact h1 | (simpa using h1)))
                try simp only [Act.put, List.setIfInBounds_toArray, List.set_cons_zero, List.set_cons_succ]
                refine quiet_take (v := .bool true) hL9 (by kernel_rfl) (fun wq hwq => ?r6y36) (fun L9 hL9 => ?r6r36)
                case r6y36 => (go_simp; try with_reducible rfl)
                try simp only [Act.put, List.setIfInBounds_toArray, List.set_cons_zero, List.set_cons_succ]
                refine quiet_take (v := .bool true) hL9 (by kernel_rfl) (fun wq hwq => ?r6y37) (fun L9 hL9 => ?r6r37)
                case r6y37 => (go_simp; try with_reducible rfl)
                try simp only [Act.put, List.setIfInBounds_toArray, List.set_cons_zero, List.set_cons_succ]
                refine quiet_skip hL9 (by kernel_rfl) (fun L9 hL9 => ?_)
                try simp only [Act.put, List.setIfInBounds_toArray, List.set_cons_zero, List.set_cons_succ]
                refine quiet_skip hL9 (by kernel_rfl) (fun L9 hL9 => ?_)
                try simp only [Act.put, List.setIfInBounds_toArray, List.set_cons_zero, List.set_cons_succ]
                refine quiet_skip hL9 (by kernel_rfl) (fun L9 hL9 => ?_)
                try simp only [Act.put, List.setIfInBounds_toArray, List.set_cons_zero, List.set_cons_succ]
                refine quiet_nil hL9 ?_
                clear hL9
                intro wy hOy
                have hOz := HO0.out.trans hOy
                go_wp2
                go_ret
                exact ⟨rfl, hOz⟩
              | false =>
                cases c7 with
                | true =>
                  go_enter Tryd.func55, Tryd.ntmps55
                  go_upto_region 1 with fail
                  rw [← HW0.out, ← HQ.out]
                  refine region_keep_tail (fun wq => On W0 wq) 41 (by kernel_rfl) (by kernel_rfl) (On.refl HOK.out.tab).drew ?_
                  simp only [List.take_succ_cons, List.take_zero, List.drop_succ_cons, List.drop_zero]
                  refine quiet_start fun L9 hL9 => ?_
                  refine quiet_take (v := ?r7v0) hL9 (by kernel_rfl) (fun wq hwq => ?r7y0) (fun L9 hL9 => ?r7r0)
                  case r7y0 => (go_simp; try with_reducible rfl)
                  try simp only [Act.put, List.setIfInBounds_toArray, List.set_cons_zero, List.set_cons_succ]
                  refine quiet_take (v := .int .i64 S.f) hL9 (by kernel_rfl) (fun wq hwq => ?r7y1) (fun L9 hL9 => ?r7r1)
                  case r7y1 => (obtain ⟨s0, s1, s2, s3, s4, s5, s6, s7⟩ := HSY.out wq hwq; go_simp; try with_reducible rfl)
                  try simp only [Act.put, List.setIfInBounds_toArray, List.set_cons_zero, List.set_cons_succ]
                  refine quiet_take (v := .bool true) hL9 (by kernel_rfl) (fun wq hwq => ?r7y2) (fun L9 hL9 => ?r7r2)
                  case r7y2 => (go_simp; go_at_call 69; exact HVF.out wq hwq)
                  try simp only [Act.put, List.setIfInBounds_toArray, List.set_cons_zero, List.set_cons_succ]
                  refine quiet_take (v := .bool false) hL9 (by kernel_rfl) (fun wq hwq => ?r7y3) (fun L9 hL9 => ?r7r3)
                  case r7y3 => (go_simp; try with_reducible rfl)
                  try simp only [Act.put, List.setIfInBounds_toArray, List.set_cons_zero, List.set_cons_succ]
                  refine quiet_take (v := .bool false) hL9 (by kernel_rfl) (fun wq hwq => ?r7y4) (fun L9 hL9 => ?r7r4)
                  case r7y4 => (go_simp; try with_reducible rfl)
                  try simp only [Act.put, List.setIfInBounds_toArray, List.set_cons_zero, List.set_cons_succ]
                  refine quiet_take (v := ?r7v5) hL9 (by kernel_rfl) (fun wq hwq => ?r7y5) (fun L9 hL9 => ?r7r5)
                  case r7y5 => (go_simp; try with_reducible rfl)
                  try simp only [Act.put, List.setIfInBounds_toArray, List.set_cons_zero, List.set_cons_succ]
                  refine quiet_take (v := .int .i64 S.rows) hL9 (by kernel_rfl) (fun wq hwq => ?r7y6) (fun L9 hL9 => ?r7r6)
                  case r7y6 => (obtain ⟨s0, s1, s2, s3, s4, s5, s6, s7⟩ := HSY.out wq hwq; go_simp; try with_reducible rfl)
                  try simp only [Act.put, List.setIfInBounds_toArray, List.set_cons_zero, List.set_cons_succ]
                  refine quiet_take (v := .bool false) hL9 (by kernel_rfl) (fun wq hwq => ?r7y7) (fun L9 hL9 => ?r7r7)
                  case r7y7 => (have h1 := HG1.out; go_simp; try (first | with_reducible rfl | exact h1 | (simpa using h1)))
                  try simp only [Act.put, List.setIfInBounds_toArray, List.set_cons_zero, List.set_cons_succ]
                  refine quiet_take (v := .bool false) hL9 (by kernel_rfl) (fun wq hwq => ?r7y8) (fun L9 hL9 => ?r7r8)
                  case r7y8 => (go_simp; try with_reducible rfl)
                  try simp only [Act.put, List.setIfInBounds_toArray, List.set_cons_zero, List.set_cons_succ]
                  refine quiet_take (v := .bool false) hL9 (by kernel_rfl) (fun wq hwq => ?r7y9) (fun L9 hL9 => ?r7r9)
                  case r7y9 => (go_simp; try with_reducible rfl)
                  try simp only [Act.put, List.setIfInBounds_toArray, List.set_cons_zero, List.set_cons_succ]
                  refine quiet_take (v := ?r7v10) hL9 (by kernel_rfl) (fun wq hwq => ?r7y10) (fun L9 hL9 => ?r7r10)
                  case r7y10 => (go_simp; try with_reducible rfl)
                  try simp only [Act.put, List.setIfInBounds_toArray, List.set_cons_zero, List.set_cons_succ]
                  refine quiet_take (v := .int .i64 S.rows) hL9 (by kernel_rfl) (fun wq hwq => ?r7y11) (fun L9 hL9 => ?r7r11)
                  case r7y11 => (obtain ⟨s0, s1, s2, s3, s4, s5, s6, s7⟩ := HSY.out wq hwq; go_simp; try with_reducible rfl)
                  try simp only [Act.put, List.setIfInBounds_toArray, List.set_cons_zero, List.set_cons_succ]
                  refine quiet_take (v := .bool false) hL9 (by kernel_rfl) (fun wq hwq => ?r7y12) (fun L9 hL9 => ?r7r12)
                  case r7y12 => (have h1 := HG2.out; go_simp; try (first | with_reducible rfl | exact h1 | (simpa using h1)))
                  try simp only [Act.put, List.setIfInBounds_toArray, List.set_cons_zero, List.set_cons_succ]
                  refine quiet_take (v := .bool false) hL9 (by kernel_rfl) (fun wq hwq => ?r7y13) (fun L9 hL9 => ?r7r13)
                  case r7y13 => (go_simp; try with_reducible rfl)
                  try simp only [Act.put, List.setIfInBounds_toArray, List.set_cons_zero, List.set_cons_succ]
                  refine quiet_take (v := .bool false) hL9 (by kernel_rfl) (fun wq hwq => ?r7y14) (fun L9 hL9 => ?r7r14)
                  case r7y14 => (go_simp; try with_reducible rfl)
                  try simp only [Act.put, List.setIfInBounds_toArray, List.set_cons_zero, List.set_cons_succ]
                  refine quiet_take (v := ?r7v15) hL9 (by kernel_rfl) (fun wq hwq => ?r7y15) (fun L9 hL9 => ?r7r15)
                  case r7y15 => (go_simp; try with_reducible rfl)
                  try simp only [Act.put, List.setIfInBounds_toArray, List.set_cons_zero, List.set_cons_succ]
                  refine quiet_take (v := .int .i64 S.rows) hL9 (by kernel_rfl) (fun wq hwq => ?r7y16) (fun L9 hL9 => ?r7r16)
                  case r7y16 => (obtain ⟨s0, s1, s2, s3, s4, s5, s6, s7⟩ := HSY.out wq hwq; go_simp; try with_reducible rfl)
                  try simp only [Act.put, List.setIfInBounds_toArray, List.set_cons_zero, List.set_cons_succ]
                  refine quiet_take (v := ?r7v17) hL9 (by kernel_rfl) (fun wq hwq => ?r7y17) (fun L9 hL9 => ?r7r17)
                  case r7y17 => (go_simp; try with_reducible rfl)
                  try simp only [Act.put, List.setIfInBounds_toArray, List.set_cons_zero, List.set_cons_succ]
                  refine quiet_take (v := .int .i64 S.f) hL9 (by kernel_rfl) (fun wq hwq => ?r7y18) (fun L9 hL9 => ?r7r18)
                  case r7y18 => (obtain ⟨s0, s1, s2, s3, s4, s5, s6, s7⟩ := HSY.out wq hwq; go_simp; try with_reducible rfl)
                  try simp only [Act.put, List.setIfInBounds_toArray, List.set_cons_zero, List.set_cons_succ]
                  refine quiet_take (v := .int .i64 ((twoOf S.f : Nat) : Int)) hL9 (by kernel_rfl) (fun wq hwq => ?r7y19) (fun L9 hL9 => ?r7r19)
                  case r7y19 => (go_simp; go_at_call 110; exact HTW.out wq hwq)
                  try simp only [Act.put, List.setIfInBounds_toArray, List.set_cons_zero, List.set_cons_succ]
                  refine quiet_take (v := .bool false) hL9 (by kernel_rfl) (fun wq hwq => ?r7y20) (fun L9 hL9 => ?r7r20)
                  case r7y20 => (have h1 := HG3.out; go_simp; try (first | with_reducible rfl | exact h1 | (simpa using h1)))
                  try simp only [Act.put, List.setIfInBounds_toArray, List.set_cons_zero, List.set_cons_succ]
                  refine quiet_take (v := .bool false) hL9 (by kernel_rfl) (fun wq hwq => ?r7y21) (fun L9 hL9 => ?r7r21)
                  case r7y21 => (go_simp; try with_reducible rfl)
                  try simp only [Act.put, List.setIfInBounds_toArray, List.set_cons_zero, List.set_cons_succ]
                  refine quiet_take (v := .bool false) hL9 (by kernel_rfl) (fun wq hwq => ?r7y22) (fun L9 hL9 => ?r7r22)
                  case r7y22 => (go_simp; try with_reducible rfl)
                  try simp only [Act.put, List.setIfInBounds_toArray, List.set_cons_zero, List.set_cons_succ]
                  refine quiet_take (v := ?r7v23) hL9 (by kernel_rfl) (fun wq hwq => ?r7y23) (fun L9 hL9 => ?r7r23)
                  case r7y23 => (go_simp; try with_reducible rfl)
                  try simp only [Act.put, List.setIfInBounds_toArray, List.set_cons_zero, List.set_cons_succ]
                  refine quiet_take (v := .int .i64 S.main) hL9 (by kernel_rfl) (fun wq hwq => ?r7y24) (fun L9 hL9 => ?r7r24)
                  case r7y24 => (obtain ⟨s0, s1, s2, s3, s4, s5, s6, s7⟩ := HSY.out wq hwq; go_simp; try with_reducible rfl)
                  try simp only [Act.put, List.setIfInBounds_toArray, List.set_cons_zero, List.set_cons_succ]
                  refine quiet_take (v := .bool false) hL9 (by kernel_rfl) (fun wq hwq => ?r7y25) (fun L9 hL9 => ?r7r25)
                  case r7y25 => (have h1 := HG4.out; go_simp; try (first | with_reducible rfl | exact h1 | (simpa using h1)))
                  try simp only [Act.put, List.setIfInBounds_toArray, List.set_cons_zero, List.set_cons_succ]
                  refine quiet_take (v := .bool false) hL9 (by kernel_rfl) (fun wq hwq => ?r7y26) (fun L9 hL9 => ?r7r26)
                  case r7y26 => (go_simp; try with_reducible rfl)
                  try simp only [Act.put, List.setIfInBounds_toArray, List.set_cons_zero, List.set_cons_succ]
                  refine quiet_take (v := .bool false) hL9 (by kernel_rfl) (fun wq hwq => ?r7y27) (fun L9 hL9 => ?r7r27)
                  case r7y27 => (go_simp; try with_reducible rfl)
                  try simp only [Act.put, List.setIfInBounds_toArray, List.set_cons_zero, List.set_cons_succ]
                  refine quiet_take (v := ?r7v28) hL9 (by kernel_rfl) (fun wq hwq => ?r7y28) (fun L9 hL9 => ?r7r28)
                  case r7y28 => (go_simp; try with_reducible rfl)
                  try simp only [Act.put, List.setIfInBounds_toArray, List.set_cons_zero, List.set_cons_succ]
                  refine quiet_take (v := .int .i64 S.main) hL9 (by kernel_rfl) (fun wq hwq => ?r7y29) (fun L9 hL9 => ?r7r29)
                  case r7y29 => (obtain ⟨s0, s1, s2, s3, s4, s5, s6, s7⟩ := HSY.out wq hwq; go_simp; try with_reducible rfl)
                  try simp only [Act.put, List.setIfInBounds_toArray, List.set_cons_zero, List.set_cons_succ]
                  refine quiet_take (v := .bool false) hL9 (by kernel_rfl) (fun wq hwq => ?r7y30) (fun L9 hL9 => ?r7r30)
                  case r7y30 => (have h1 := HG5.out; go_simp; try (first | with_reducible rfl | exact h1 | (simpa using h1)))
                  try simp only [Act.put, List.setIfInBounds_toArray, List.set_cons_zero, List.set_cons_succ]
                  refine quiet_take (v := .bool false) hL9 (by kernel_rfl) (fun wq hwq => ?r7y31) (fun L9 hL9 => ?r7r31)
                  case r7y31 => (go_simp; try with_reducible rfl)
                  try simp only [Act.put, List.setIfInBounds_toArray, List.set_cons_zero, List.set_cons_succ]
                  refine quiet_take (v := .bool false) hL9 (by kernel_rfl) (fun wq hwq => ?r7y32) (fun L9 hL9 => ?r7r32)
                  case r7y32 => (go_simp; try with_reducible rfl)
                  try simp only [Act.put, List.setIfInBounds_toArray, List.set_cons_zero, List.set_cons_succ]
                  refine quiet_take (v := ?r7v33) hL9 (by kernel_rfl) (fun wq hwq => ?r7y33) (fun L9 hL9 => ?r7r33)
                  case r7y33 => (go_simp; try with_reducible rfl)
                  try simp only [Act.put, List.setIfInBounds_toArray, List.set_cons_zero, List.set_cons_succ]
                  refine quiet_take (v := .int .i64 S.pub) hL9 (by kernel_rfl) (fun wq hwq => ?r7y34) (fun L9 hL9 => ?r7r34)
                  case r7y34 => (obtain ⟨s0, s1, s2, s3, s4, s5, s6, s7⟩ := HSY.out wq hwq; go_simp; try with_reducible rfl)
                  try simp only [Act.put, List.setIfInBounds_toArray, List.set_cons_zero, List.set_cons_succ]
                  refine quiet_take (v := .bool false) hL9 (by kernel_rfl) (fun wq hwq => ?r7y35) (fun L9 hL9 => ?r7r35)
                  case r7y35 => (have h1 := HG6.out; go_simp; try (first | with_reducible rfl | exact h1 | (simpa using h1)))
                  try simp only [Act.put, List.setIfInBounds_toArray, List.set_cons_zero, List.set_cons_succ]
                  refine quiet_take (v := .bool false) hL9 (by kernel_rfl) (fun wq hwq => ?r7y36) (fun L9 hL9 => ?r7r36)
                  case r7y36 => (go_simp; try with_reducible rfl)
                  try simp only [Act.put, List.setIfInBounds_toArray, List.set_cons_zero, List.set_cons_succ]
                  refine quiet_take (v := .bool false) hL9 (by kernel_rfl) (fun wq hwq => ?r7y37) (fun L9 hL9 => ?r7r37)
                  case r7y37 => (go_simp; try with_reducible rfl)
                  try simp only [Act.put, List.setIfInBounds_toArray, List.set_cons_zero, List.set_cons_succ]
                  refine quiet_take (v := ?r7v38) hL9 (by kernel_rfl) (fun wq hwq => ?r7y38) (fun L9 hL9 => ?r7r38)
                  case r7y38 => (go_simp; try with_reducible rfl)
                  try simp only [Act.put, List.setIfInBounds_toArray, List.set_cons_zero, List.set_cons_succ]
                  refine quiet_take (v := .int .i64 S.pub) hL9 (by kernel_rfl) (fun wq hwq => ?r7y39) (fun L9 hL9 => ?r7r39)
                  case r7y39 => (obtain ⟨s0, s1, s2, s3, s4, s5, s6, s7⟩ := HSY.out wq hwq; go_simp; try with_reducible rfl)
                  try simp only [Act.put, List.setIfInBounds_toArray, List.set_cons_zero, List.set_cons_succ]
                  refine quiet_take (v := .bool true) hL9 (by kernel_rfl) (fun wq hwq => ?r7y40) (fun L9 hL9 => ?r7r40)
                  case r7y40 => (have h1 := HG7.out; go_simp; try (first | with_reducible rfl | exact h1 | (simpa using h1)))
                  try simp only [Act.put, List.setIfInBounds_toArray, List.set_cons_zero, List.set_cons_succ]
                  refine quiet_nil hL9 ?_
                  clear hL9
                  intro wy hOy
                  have hOz := HO0.out.trans hOy
                  go_wp2
                  go_ret
                  exact ⟨rfl, hOz⟩
                | false =>
                  go_enter Tryd.func55, Tryd.ntmps55
                  go_upto_region 1 with fail
                  rw [← HW0.out, ← HQ.out]
                  refine region_keep_tail (fun wq => On W0 wq) 41 (by kernel_rfl) (by kernel_rfl) (On.refl HOK.out.tab).drew ?_
                  simp only [List.take_succ_cons, List.take_zero, List.drop_succ_cons, List.drop_zero]
                  refine quiet_start fun L9 hL9 => ?_
                  refine quiet_take (v := ?r8v0) hL9 (by kernel_rfl) (fun wq hwq => ?r8y0) (fun L9 hL9 => ?r8r0)
                  case r8y0 => (go_simp; try with_reducible rfl)
                  try simp only [Act.put, List.setIfInBounds_toArray, List.set_cons_zero, List.set_cons_succ]
                  refine quiet_take (v := .int .i64 S.f) hL9 (by kernel_rfl) (fun wq hwq => ?r8y1) (fun L9 hL9 => ?r8r1)
                  case r8y1 => (obtain ⟨s0, s1, s2, s3, s4, s5, s6, s7⟩ := HSY.out wq hwq; go_simp; try with_reducible rfl)
                  try simp only [Act.put, List.setIfInBounds_toArray, List.set_cons_zero, List.set_cons_succ]
                  refine quiet_take (v := .bool true) hL9 (by kernel_rfl) (fun wq hwq => ?r8y2) (fun L9 hL9 => ?r8r2)
                  case r8y2 => (go_simp; go_at_call 69; exact HVF.out wq hwq)
                  try simp only [Act.put, List.setIfInBounds_toArray, List.set_cons_zero, List.set_cons_succ]
                  refine quiet_take (v := .bool false) hL9 (by kernel_rfl) (fun wq hwq => ?r8y3) (fun L9 hL9 => ?r8r3)
                  case r8y3 => (go_simp; try with_reducible rfl)
                  try simp only [Act.put, List.setIfInBounds_toArray, List.set_cons_zero, List.set_cons_succ]
                  refine quiet_take (v := .bool false) hL9 (by kernel_rfl) (fun wq hwq => ?r8y4) (fun L9 hL9 => ?r8r4)
                  case r8y4 => (go_simp; try with_reducible rfl)
                  try simp only [Act.put, List.setIfInBounds_toArray, List.set_cons_zero, List.set_cons_succ]
                  refine quiet_take (v := ?r8v5) hL9 (by kernel_rfl) (fun wq hwq => ?r8y5) (fun L9 hL9 => ?r8r5)
                  case r8y5 => (go_simp; try with_reducible rfl)
                  try simp only [Act.put, List.setIfInBounds_toArray, List.set_cons_zero, List.set_cons_succ]
                  refine quiet_take (v := .int .i64 S.rows) hL9 (by kernel_rfl) (fun wq hwq => ?r8y6) (fun L9 hL9 => ?r8r6)
                  case r8y6 => (obtain ⟨s0, s1, s2, s3, s4, s5, s6, s7⟩ := HSY.out wq hwq; go_simp; try with_reducible rfl)
                  try simp only [Act.put, List.setIfInBounds_toArray, List.set_cons_zero, List.set_cons_succ]
                  refine quiet_take (v := .bool false) hL9 (by kernel_rfl) (fun wq hwq => ?r8y7) (fun L9 hL9 => ?r8r7)
                  case r8y7 => (have h1 := HG1.out; go_simp; try (first | with_reducible rfl | exact h1 | (simpa using h1)))
                  try simp only [Act.put, List.setIfInBounds_toArray, List.set_cons_zero, List.set_cons_succ]
                  refine quiet_take (v := .bool false) hL9 (by kernel_rfl) (fun wq hwq => ?r8y8) (fun L9 hL9 => ?r8r8)
                  case r8y8 => (go_simp; try with_reducible rfl)
                  try simp only [Act.put, List.setIfInBounds_toArray, List.set_cons_zero, List.set_cons_succ]
                  refine quiet_take (v := .bool false) hL9 (by kernel_rfl) (fun wq hwq => ?r8y9) (fun L9 hL9 => ?r8r9)
                  case r8y9 => (go_simp; try with_reducible rfl)
                  try simp only [Act.put, List.setIfInBounds_toArray, List.set_cons_zero, List.set_cons_succ]
                  refine quiet_take (v := ?r8v10) hL9 (by kernel_rfl) (fun wq hwq => ?r8y10) (fun L9 hL9 => ?r8r10)
                  case r8y10 => (go_simp; try with_reducible rfl)
                  try simp only [Act.put, List.setIfInBounds_toArray, List.set_cons_zero, List.set_cons_succ]
                  refine quiet_take (v := .int .i64 S.rows) hL9 (by kernel_rfl) (fun wq hwq => ?r8y11) (fun L9 hL9 => ?r8r11)
                  case r8y11 => (obtain ⟨s0, s1, s2, s3, s4, s5, s6, s7⟩ := HSY.out wq hwq; go_simp; try with_reducible rfl)
                  try simp only [Act.put, List.setIfInBounds_toArray, List.set_cons_zero, List.set_cons_succ]
                  refine quiet_take (v := .bool false) hL9 (by kernel_rfl) (fun wq hwq => ?r8y12) (fun L9 hL9 => ?r8r12)
                  case r8y12 => (have h1 := HG2.out; go_simp; try (first | with_reducible rfl | exact h1 | (simpa using h1)))
                  try simp only [Act.put, List.setIfInBounds_toArray, List.set_cons_zero, List.set_cons_succ]
                  refine quiet_take (v := .bool false) hL9 (by kernel_rfl) (fun wq hwq => ?r8y13) (fun L9 hL9 => ?r8r13)
                  case r8y13 => (go_simp; try with_reducible rfl)
                  try simp only [Act.put, List.setIfInBounds_toArray, List.set_cons_zero, List.set_cons_succ]
                  refine quiet_take (v := .bool false) hL9 (by kernel_rfl) (fun wq hwq => ?r8y14) (fun L9 hL9 => ?r8r14)
                  case r8y14 => (go_simp; try with_reducible rfl)
                  try simp only [Act.put, List.setIfInBounds_toArray, List.set_cons_zero, List.set_cons_succ]
                  refine quiet_take (v := ?r8v15) hL9 (by kernel_rfl) (fun wq hwq => ?r8y15) (fun L9 hL9 => ?r8r15)
                  case r8y15 => (go_simp; try with_reducible rfl)
                  try simp only [Act.put, List.setIfInBounds_toArray, List.set_cons_zero, List.set_cons_succ]
                  refine quiet_take (v := .int .i64 S.rows) hL9 (by kernel_rfl) (fun wq hwq => ?r8y16) (fun L9 hL9 => ?r8r16)
                  case r8y16 => (obtain ⟨s0, s1, s2, s3, s4, s5, s6, s7⟩ := HSY.out wq hwq; go_simp; try with_reducible rfl)
                  try simp only [Act.put, List.setIfInBounds_toArray, List.set_cons_zero, List.set_cons_succ]
                  refine quiet_take (v := ?r8v17) hL9 (by kernel_rfl) (fun wq hwq => ?r8y17) (fun L9 hL9 => ?r8r17)
                  case r8y17 => (go_simp; try with_reducible rfl)
                  try simp only [Act.put, List.setIfInBounds_toArray, List.set_cons_zero, List.set_cons_succ]
                  refine quiet_take (v := .int .i64 S.f) hL9 (by kernel_rfl) (fun wq hwq => ?r8y18) (fun L9 hL9 => ?r8r18)
                  case r8y18 => (obtain ⟨s0, s1, s2, s3, s4, s5, s6, s7⟩ := HSY.out wq hwq; go_simp; try with_reducible rfl)
                  try simp only [Act.put, List.setIfInBounds_toArray, List.set_cons_zero, List.set_cons_succ]
                  refine quiet_take (v := .int .i64 ((twoOf S.f : Nat) : Int)) hL9 (by kernel_rfl) (fun wq hwq => ?r8y19) (fun L9 hL9 => ?r8r19)
                  case r8y19 => (go_simp; go_at_call 110; exact HTW.out wq hwq)
                  try simp only [Act.put, List.setIfInBounds_toArray, List.set_cons_zero, List.set_cons_succ]
                  refine quiet_take (v := .bool false) hL9 (by kernel_rfl) (fun wq hwq => ?r8y20) (fun L9 hL9 => ?r8r20)
                  case r8y20 => (have h1 := HG3.out; go_simp; try (first | with_reducible rfl | exact h1 | (simpa using h1)))
                  try simp only [Act.put, List.setIfInBounds_toArray, List.set_cons_zero, List.set_cons_succ]
                  refine quiet_take (v := .bool false) hL9 (by kernel_rfl) (fun wq hwq => ?r8y21) (fun L9 hL9 => ?r8r21)
                  case r8y21 => (go_simp; try with_reducible rfl)
                  try simp only [Act.put, List.setIfInBounds_toArray, List.set_cons_zero, List.set_cons_succ]
                  refine quiet_take (v := .bool false) hL9 (by kernel_rfl) (fun wq hwq => ?r8y22) (fun L9 hL9 => ?r8r22)
                  case r8y22 => (go_simp; try with_reducible rfl)
                  try simp only [Act.put, List.setIfInBounds_toArray, List.set_cons_zero, List.set_cons_succ]
                  refine quiet_take (v := ?r8v23) hL9 (by kernel_rfl) (fun wq hwq => ?r8y23) (fun L9 hL9 => ?r8r23)
                  case r8y23 => (go_simp; try with_reducible rfl)
                  try simp only [Act.put, List.setIfInBounds_toArray, List.set_cons_zero, List.set_cons_succ]
                  refine quiet_take (v := .int .i64 S.main) hL9 (by kernel_rfl) (fun wq hwq => ?r8y24) (fun L9 hL9 => ?r8r24)
                  case r8y24 => (obtain ⟨s0, s1, s2, s3, s4, s5, s6, s7⟩ := HSY.out wq hwq; go_simp; try with_reducible rfl)
                  try simp only [Act.put, List.setIfInBounds_toArray, List.set_cons_zero, List.set_cons_succ]
                  refine quiet_take (v := .bool false) hL9 (by kernel_rfl) (fun wq hwq => ?r8y25) (fun L9 hL9 => ?r8r25)
                  case r8y25 => (have h1 := HG4.out; go_simp; try (first | with_reducible rfl | exact h1 | (simpa using h1)))
                  try simp only [Act.put, List.setIfInBounds_toArray, List.set_cons_zero, List.set_cons_succ]
                  refine quiet_take (v := .bool false) hL9 (by kernel_rfl) (fun wq hwq => ?r8y26) (fun L9 hL9 => ?r8r26)
                  case r8y26 => (go_simp; try with_reducible rfl)
                  try simp only [Act.put, List.setIfInBounds_toArray, List.set_cons_zero, List.set_cons_succ]
                  refine quiet_take (v := .bool false) hL9 (by kernel_rfl) (fun wq hwq => ?r8y27) (fun L9 hL9 => ?r8r27)
                  case r8y27 => (go_simp; try with_reducible rfl)
                  try simp only [Act.put, List.setIfInBounds_toArray, List.set_cons_zero, List.set_cons_succ]
                  refine quiet_take (v := ?r8v28) hL9 (by kernel_rfl) (fun wq hwq => ?r8y28) (fun L9 hL9 => ?r8r28)
                  case r8y28 => (go_simp; try with_reducible rfl)
                  try simp only [Act.put, List.setIfInBounds_toArray, List.set_cons_zero, List.set_cons_succ]
                  refine quiet_take (v := .int .i64 S.main) hL9 (by kernel_rfl) (fun wq hwq => ?r8y29) (fun L9 hL9 => ?r8r29)
                  case r8y29 => (obtain ⟨s0, s1, s2, s3, s4, s5, s6, s7⟩ := HSY.out wq hwq; go_simp; try with_reducible rfl)
                  try simp only [Act.put, List.setIfInBounds_toArray, List.set_cons_zero, List.set_cons_succ]
                  refine quiet_take (v := .bool false) hL9 (by kernel_rfl) (fun wq hwq => ?r8y30) (fun L9 hL9 => ?r8r30)
                  case r8y30 => (have h1 := HG5.out; go_simp; try (first | with_reducible rfl | exact h1 | (simpa using h1)))
                  try simp only [Act.put, List.setIfInBounds_toArray, List.set_cons_zero, List.set_cons_succ]
                  refine quiet_take (v := .bool false) hL9 (by kernel_rfl) (fun wq hwq => ?r8y31) (fun L9 hL9 => ?r8r31)
                  case r8y31 => (go_simp; try with_reducible rfl)
                  try simp only [Act.put, List.setIfInBounds_toArray, List.set_cons_zero, List.set_cons_succ]
                  refine quiet_take (v := .bool false) hL9 (by kernel_rfl) (fun wq hwq => ?r8y32) (fun L9 hL9 => ?r8r32)
                  case r8y32 => (go_simp; try with_reducible rfl)
                  try simp only [Act.put, List.setIfInBounds_toArray, List.set_cons_zero, List.set_cons_succ]
                  refine quiet_take (v := ?r8v33) hL9 (by kernel_rfl) (fun wq hwq => ?r8y33) (fun L9 hL9 => ?r8r33)
                  case r8y33 => (go_simp; try with_reducible rfl)
                  try simp only [Act.put, List.setIfInBounds_toArray, List.set_cons_zero, List.set_cons_succ]
                  refine quiet_take (v := .int .i64 S.pub) hL9 (by kernel_rfl) (fun wq hwq => ?r8y34) (fun L9 hL9 => ?r8r34)
                  case r8y34 => (obtain ⟨s0, s1, s2, s3, s4, s5, s6, s7⟩ := HSY.out wq hwq; go_simp; try with_reducible rfl)
                  try simp only [Act.put, List.setIfInBounds_toArray, List.set_cons_zero, List.set_cons_succ]
                  refine quiet_take (v := .bool false) hL9 (by kernel_rfl) (fun wq hwq => ?r8y35) (fun L9 hL9 => ?r8r35)
                  case r8y35 => (have h1 := HG6.out; go_simp; try (first | with_reducible rfl | exact h1 | (simpa using h1)))
                  try simp only [Act.put, List.setIfInBounds_toArray, List.set_cons_zero, List.set_cons_succ]
                  refine quiet_take (v := .bool false) hL9 (by kernel_rfl) (fun wq hwq => ?r8y36) (fun L9 hL9 => ?r8r36)
                  case r8y36 => (go_simp; try with_reducible rfl)
                  try simp only [Act.put, List.setIfInBounds_toArray, List.set_cons_zero, List.set_cons_succ]
                  refine quiet_take (v := .bool false) hL9 (by kernel_rfl) (fun wq hwq => ?r8y37) (fun L9 hL9 => ?r8r37)
                  case r8y37 => (go_simp; try with_reducible rfl)
                  try simp only [Act.put, List.setIfInBounds_toArray, List.set_cons_zero, List.set_cons_succ]
                  refine quiet_take (v := ?r8v38) hL9 (by kernel_rfl) (fun wq hwq => ?r8y38) (fun L9 hL9 => ?r8r38)
                  case r8y38 => (go_simp; try with_reducible rfl)
                  try simp only [Act.put, List.setIfInBounds_toArray, List.set_cons_zero, List.set_cons_succ]
                  refine quiet_take (v := .int .i64 S.pub) hL9 (by kernel_rfl) (fun wq hwq => ?r8y39) (fun L9 hL9 => ?r8r39)
                  case r8y39 => (obtain ⟨s0, s1, s2, s3, s4, s5, s6, s7⟩ := HSY.out wq hwq; go_simp; try with_reducible rfl)
                  try simp only [Act.put, List.setIfInBounds_toArray, List.set_cons_zero, List.set_cons_succ]
                  refine quiet_take (v := .bool false) hL9 (by kernel_rfl) (fun wq hwq => ?r8y40) (fun L9 hL9 => ?r8r40)
                  case r8y40 => (have h1 := HG7.out; go_simp; try (first | with_reducible rfl | exact h1 | (simpa using h1)))
                  try simp only [Act.put, List.setIfInBounds_toArray, List.set_cons_zero, List.set_cons_succ]
                  refine quiet_nil hL9 ?_
                  clear hL9
                  intro wy hOy
                  have HOY := Lib.hid hOy
                  clear hOy
                  obtain ⟨s0, s1, s2, s3, s4, s5, s6, s7⟩ := HSY.out wy HOY.out
                  cases c8 with
                  | true =>
                    have gHG8 := HG8.out
                    have gHG9 := HG9.out
                    have gHGa := HGa.out
                    have gHGb := HGb.out
                    go_wp2
                    go_ret
                    exact ⟨rfl, HO0.out.trans HOY.out⟩
                  | false =>
                    cases c9 with
                    | true =>
                      have gHG8 := HG8.out
                      have gHG9 := HG9.out
                      have gHGa := HGa.out
                      have gHGb := HGb.out
                      go_wp2
                      go_ret
                      exact ⟨rfl, HO0.out.trans HOY.out⟩
                    | false =>
                      cases ca with
                      | true =>
                        have gHG8 := HG8.out
                        have gHG9 := HG9.out
                        have gHGa := HGa.out
                        have gHGb := HGb.out
                        go_wp2
                        go_ret
                        exact ⟨rfl, HO0.out.trans HOY.out⟩
                      | false =>
                        cases cb with
                        | true =>
                          have gHG8 := HG8.out
                          have gHG9 := HG9.out
                          have gHGa := HGa.out
                          have gHGb := HGb.out
                          go_wp2
                          go_ret
                          exact ⟨rfl, HO0.out.trans HOY.out⟩
                        | false =>
                          exact absurd HS.out (by simp)
end Go.Proofs.YtnanjacllmdenaaDoor
