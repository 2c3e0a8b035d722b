/- The document's systems: perm, lookup: what the calls return. -/
import Derived.Test.YtbgljelpldnldaaDoorKz16
set_option linter.unusedSimpArgs false
set_option linter.unusedVariables false
/- The document's systems: perm, lookup: what the calls return. -/
namespace Go.Proofs.YtbgljelpldnldaaDoor
open Go.RowKit
set_option linter.unusedVariables false

/-- A tuple of length n. -/
def tuN (S : Sy) (n : Nat) (t : List Vr) : Bool := decide (t.length = n) && t.all (tvB S false)
theorem tnB_tuN (S : Sy) {n : Nat} (h : 1 ≤ n ∧ n ≤ 4) (t : List Vr) : tnB S n t = tuN S n t := by
  unfold tnB tuN tuB
  rw [tvB_false]
  by_cases e : t.length = n
  · rw [decide_eq_true e, decide_eq_true (by rw [e]; exact h : 1 ≤ t.length ∧ t.length ≤ 4)]; rfl
  · rw [decide_eq_false e]; rfl
/-- Both sides' tuples. -/
def bothB (S : Sy) (n : Nat) (p : Pm) (i : Nat) : Bool := tuN S n (p.1.getD i []) && tuN S n (p.2.getD i [])
theorem pmB_doc (S : Sy) (p : Pm) : pmB S p = (decide (1 ≤ p.1.length ∧ p.1.length ≤ 4) && (decide (p.2.length = p.1.length) && (decide (1 ≤ (p.1.getD 0 []).length ∧ (p.1.getD 0 []).length ≤ 4) && (List.range p.1.length).all (bothB S (p.1.getD 0 []).length p)))) := by
  unfold pmB
  by_cases h1 : 1 ≤ p.1.length ∧ p.1.length ≤ 4
  rotate_left
  · rw [decide_eq_false h1]; rfl
  by_cases h2 : p.2.length = p.1.length
  rotate_left
  · rw [decide_eq_false h2]; simp
  rw [decide_eq_true h1, decide_eq_true h2]
  by_cases h3 : 1 ≤ (p.1.getD 0 []).length ∧ (p.1.getD 0 []).length ≤ 4
  rotate_left
  · rw [decide_eq_false h3]
    have : (p.1 ++ p.2).all (tnB S (p.1.getD 0 []).length) = false := by
      refine all_no _ [] (p.1 ++ p.2) 0 (by rw [List.length_append]; omega) ?_
      have e : (p.1 ++ p.2).getD 0 [] = p.1.getD 0 [] := by rw [List.getD_eq_getElem?_getD, List.getElem?_append_left (by omega), List.getD_eq_getElem?_getD]
      rw [e]
      unfold tnB tuB
      rw [decide_eq_false h3]; simp
    rw [this]; rfl
  rw [decide_eq_true h3]
  have e : (p.1 ++ p.2).all (tnB S (p.1.getD 0 []).length) = (List.range p.1.length).all (bothB S (p.1.getD 0 []).length p) := by
    generalize (p.1.getD 0 []).length = N at h3 ⊢
    rw [Bool.eq_iff_iff, all_getD _ [], List.all_eq_true]
    constructor
    · intro h i hi
      have hi := List.mem_range.1 hi
      have a := h i (by rw [List.length_append]; omega)
      have b := h (p.1.length + i) (by rw [List.length_append]; omega)
      rw [List.getD_eq_getElem?_getD, List.getElem?_append_left (by omega), ← List.getD_eq_getElem?_getD, tnB_tuN S h3] at a
      rw [List.getD_eq_getElem?_getD, List.getElem?_append_right (by omega), Nat.add_sub_cancel_left, ← List.getD_eq_getElem?_getD, tnB_tuN S h3] at b
      unfold bothB; rw [a, b]; rfl
    · intro h i hi
      rw [List.length_append] at hi
      rw [tnB_tuN S h3]
      rcases Nat.lt_or_ge i p.1.length with hl | hl
      · have a := h i (List.mem_range.2 hl)
        unfold bothB at a
        rw [Bool.and_eq_true] at a
        rw [List.getD_eq_getElem?_getD, List.getElem?_append_left (by omega), ← List.getD_eq_getElem?_getD]; exact a.1
      · have a := h (i - p.1.length) (List.mem_range.2 (by omega))
        unfold bothB at a
        rw [Bool.and_eq_true] at a
        rw [List.getD_eq_getElem?_getD, List.getElem?_append_right (by omega), ← List.getD_eq_getElem?_getD]; exact a.2
  rw [e]; rfl
set_option maxHeartbeats 4000000 in
set_option maxRecDepth 100000 in
theorem rperm_any (S : Sy) (H : Sh) (p : Pm) (pa qa : Option Addr) (pc qc : Nat) (w : World) (hT : Tab w) (hp : TupL w (.slice pa p.1.length pc) p.1) (hq : TupL w (.slice qa p.2.length qc) p.2) :
    Calls Tryd.prog 60 #[syA S H, .agg #[.slice pa p.1.length pc, .slice qa p.2.length qc]] w fun e w' => e = .returned (.bool (pmB S p)) ∧ On w w' := by
  obtain ⟨W0, hW0⟩ : ∃ W0, W0 = (w.alloc (syO S H)).alloc (.cells #[.slice pa p.1.length pc, .slice qa p.2.length qc] 60) := ⟨_, rfl⟩
  have hO0 : On w W0 := by rw [hW0]; exact ((On.refl hT).alloc _).alloc _
  obtain ⟨Q, hQ⟩ : ∃ Q, Q = w.heap.size := ⟨_, rfl⟩
  have HB0 : Hid (VB Q W0 (syL S H)) := by rw [hW0, hQ]; exact Lib.hid ((vb_newS S H w).on ((On.refl ((On.refl hT).alloc _).tab).alloc _))
  have HB1 : Hid (VB (Q + 1) W0 [.slice pa p.1.length pc, .slice qa p.2.length qc]) := by
    have h := vb_new (w.alloc (syO S H)) #[.slice pa p.1.length pc, .slice qa p.2.length qc] 60
    rw [World.size_alloc] at h
    rw [hW0, hQ]; exact Lib.hid h
  have HOK : Hid (On W0 W0) := On.refl hO0.tab
  have HBOX : Hid (∀ V, On W0 V → V.cell? ⟨Q + 1, 0, none⟩ = some (.slice pa p.1.length pc) ∧ V.cell? ⟨Q + 1, 1, none⟩ = some (.slice qa p.2.length qc)) := fun V h => ⟨(HB1.out.on h).2.1 0 _ rfl, (HB1.out.on h).2.1 1 _ rfl⟩
  have HP := Lib.hid hp; have HQQ := Lib.hid hq
  have HW0 := Lib.hid hW0; have HQ := Lib.hid hQ; have HO0 := Lib.hid hO0
  have hL1 := hp.1; have hL2 := hq.1
  rw [pmB_doc]
  obtain ⟨N, hN⟩ : ∃ N, N = (p.1.getD 0 []).length := ⟨_, rfl⟩
  rw [← hN]
  have HNO : Hid (∀ j, j < p.1.length → bothB S N p j = false → (List.range p.1.length).all (bothB S N p) = false) := fun j hj h => by
    rw [Bool.eq_false_iff]; intro h2
    rw [List.all_eq_true] at h2
    rw [h2 j (List.mem_range.2 hj)] at h; cases h
  have HYES : Hid ((∀ j, j < p.1.length → bothB S N p j = true) → (List.range p.1.length).all (bothB S N p) = true) := fun h => List.all_eq_true.2 fun j hj => h j (List.mem_range.1 hj)
  have HNE := Lib.hid hN
  have HTU : Hid (∀ (t : List Vr) (v : Value) (V : World), On W0 V → VRw V v t → Calls Tryd.prog 117 #[syA S H, v, .int .i64 (N : Int), .bool false] V fun e w' => e = .returned (.bool (tuN S N t)) ∧ On V w') := fun t v V h hv => rtuple_any S H t v N false V h.tab hv
  clear hT hp hq hW0 hQ hO0 hN
  generalize (List.range p.1.length).all (bothB S N p) = RR at *
  have HPL : Hid (∀ i, i < p.1.length → ∃ b o a c, pa = some ⟨b, o, none⟩ ∧ w.cell? ⟨b, o + i, none⟩ = some (.slice a (p.1.getD i []).length c) ∧ VRw w (.slice a (p.1.getD i []).length c) (p.1.getD i [])) := fun i hi => by
    obtain ⟨b, o, e, u, c0, c1⟩ := HP.out.cells i hi
    obtain ⟨a, c, rfl⟩ := c1.shape
    exact ⟨b, o, a, c, e, by simpa using c0, c1⟩
  have HQL : Hid (∀ i, i < p.2.length → ∃ b o a c, qa = some ⟨b, o, none⟩ ∧ w.cell? ⟨b, o + i, none⟩ = some (.slice a (p.2.getD i []).length c) ∧ VRw w (.slice a (p.2.getD i []).length c) (p.2.getD i [])) := fun i hi => by
    obtain ⟨b, o, e, u, c0, c1⟩ := HQQ.out.cells i hi
    obtain ⟨a, c, rfl⟩ := c1.shape
    exact ⟨b, o, a, c, e, by simpa using c0, c1⟩
  clear HP HQQ
  obtain ⟨p1, p2⟩ := p
  simp only at hL1 hL2 HB1 HBOX HNE HNO HYES HPL HQL HW0 ⊢
  generalize hn : p1.length = n at *
  generalize hm : p2.length = m at *
  clear hn hm HB1
  by_cases h14 : 1 ≤ n ∧ n ≤ 4
  rotate_left
  · have e : (decide (1 ≤ n ∧ n ≤ 4) && (decide (m = n) && (decide (1 ≤ N ∧ N ≤ 4) && RR))) = false := by rw [decide_eq_false h14]; rfl
    rw [e]; clear e
    by_cases h1 : (n : Int) < 1
    · clear h14
      go_enter Tryd.func60, Tryd.ntmps60
      go_upto_region 1 with fail
      rw [← HW0.out, ← HQ.out]
      obtain ⟨l0, l1⟩ := HBOX.out _ HOK.out
      go_wp2
      go_ret
      exact ⟨rfl, HO0.out⟩
    · have h4 : (4 : Int) < (n : Int) := by omega
      clear h14
      go_enter Tryd.func60, Tryd.ntmps60
      go_upto_region 1 with fail
      rw [← HW0.out, ← HQ.out]
      obtain ⟨l0, l1⟩ := HBOX.out _ HOK.out
      go_wp2
      go_ret
      exact ⟨rfl, HO0.out⟩
  have h1 : ¬ (n : Int) < 1 := by omega
  have h4 : ¬ (4 : Int) < (n : Int) := by omega
  by_cases hmn : m = n
  rotate_left
  · have e : (decide (1 ≤ n ∧ n ≤ 4) && (decide (m = n) && (decide (1 ≤ N ∧ N ≤ 4) && RR))) = false := by rw [decide_eq_false hmn]; simp
    have e2 : ((m : Int) != (n : Int)) = true := by simp; omega
    rw [e]; clear e hmn h14
    go_enter Tryd.func60, Tryd.ntmps60
    go_upto_region 1 with fail
    rw [← HW0.out, ← HQ.out]
    obtain ⟨l0, l1⟩ := HBOX.out _ HOK.out
    go_wp2
    go_ret
    exact ⟨rfl, HO0.out⟩
  obtain rfl : n = m := hmn.symm
  have e : (decide (1 ≤ n ∧ n ≤ 4) && (decide (n = n) && (decide (1 ≤ N ∧ N ≤ 4) && RR))) = (decide (1 ≤ N ∧ N ≤ 4) && RR) := by rw [decide_eq_true h14]; simp
  rw [e]; clear e
  have hn0 : 0 < n := by omega
  have hn0' : (0 : Int) < (n : Int) := by omega
  obtain ⟨lb, lo, a0, c00, rfl, g0, g1⟩ := HPL.out 0 hn0
  rw [← HNE.out] at g0
  have HG0 := Lib.hid (cell_on HO0.out g0)
  clear g0 g1 h14
  by_cases hN14 : 1 ≤ N ∧ N ≤ 4
  rotate_left
  · have e : (decide (1 ≤ N ∧ N ≤ 4) && RR) = false := by rw [decide_eq_false hN14]; rfl
    rw [e]; clear e
    have g0 := HG0.out
    rw [Nat.add_zero] at g0
    by_cases hN1 : (N : Int) < 1
    · clear hN14
      go_enter Tryd.func60, Tryd.ntmps60
      go_upto_region 1 with fail
      rw [← HW0.out, ← HQ.out]
      obtain ⟨l0, l1⟩ := HBOX.out _ HOK.out
      go_wp2
      go_ret
      exact ⟨rfl, HO0.out⟩
    · have hN4 : (4 : Int) < (N : Int) := by omega
      clear hN14
      go_enter Tryd.func60, Tryd.ntmps60
      go_upto_region 1 with fail
      rw [← HW0.out, ← HQ.out]
      obtain ⟨l0, l1⟩ := HBOX.out _ HOK.out
      go_wp2
      go_ret
      exact ⟨rfl, HO0.out⟩
  have e : (decide (1 ≤ N ∧ N ≤ 4) && RR) = RR := by rw [decide_eq_true hN14]; rfl
  rw [e]; clear e
  have hN1 : ¬ (N : Int) < 1 := by omega
  have hN4 : ¬ (4 : Int) < (N : Int) := by omega
  have g0 := HG0.out
  rw [Nat.add_zero] at g0
  clear hN14
  go_enter Tryd.func60, Tryd.ntmps60
  go_upto_region 1 with fail
  rw [← HW0.out, ← HQ.out]
  obtain ⟨l0, l1⟩ := HBOX.out _ HOK.out
  go_wp2_with fail
  clear l0 l1 g0 hN1 hN4 h1 h4
  go_loopw [6] (fun vi wr => ∃ i : Nat, i ≤ n ∧ vi = .int .i64 (i : Int) ∧ Hid (∀ j, j < i → bothB S N (p1, p2) j = true) ∧ Hid (On W0 wr)) (fun vi _ => n - (intOf vi).toNat)
  case atStart => exact ⟨0, Nat.zero_le _, rfl, Lib.hid (fun j hj => absurd hj (Nat.not_lt_zero _)), HOK⟩
  case round =>
    rename World => wr
    obtain ⟨i, hi, rfl, HJ, HO⟩ := hrel
    by_cases hlt : i < n
    · have hlt' : (i : Int) < (n : Int) := by omega
      obtain ⟨lb2, lo2, ta, tc, he, d0, d1⟩ := HPL.out i hlt
      obtain ⟨rb, ro, ra, rc, rfl, f0, f1⟩ := HQL.out i hlt
      simp only [Option.some.injEq, Addr.mk.injEq, and_true] at he
      obtain ⟨rfl, rfl⟩ := he
      have hWr := HO0.out.trans HO.out
      have HJ2 : Hid (bothB S N (p1, p2) i = true → ∀ j, j < i + 1 → bothB S N (p1, p2) j = true) := fun h j hj => by
        by_cases e : j = i
        · rw [e]; exact h
        · exact HJ.out j (by omega)
      have HN := Lib.hid (HNO.out i hlt)
      have e : bothB S N (p1, p2) i = (tuN S N (p1.getD i []) && tuN S N (p2.getD i [])) := rfl
      rw [e] at HJ2 HN
      have HT1 : Hid (∀ wq, On wr wq → Calls Tryd.prog 117 #[syA S H, .slice ta (p1.getD i []).length tc, .int .i64 (N : Int), .bool false] wq fun e w' => e = .returned (.bool (tuN S N (p1.getD i []))) ∧ On wr w') := fun wq h => (HTU.out _ _ wq (HO.out.trans h) (d1.on (hWr.trans h))).mono fun e w' ⟨he, ho⟩ => ⟨he, h.trans ho⟩
      have HT2 : Hid (∀ wq, On wr wq → Calls Tryd.prog 117 #[syA S H, .slice ra (p2.getD i []).length rc, .int .i64 (N : Int), .bool false] wq fun e w' => e = .returned (.bool (tuN S N (p2.getD i []))) ∧ On wr w') := fun wq h => (HTU.out _ _ wq (HO.out.trans h) (f1.on (hWr.trans h))).mono fun e w' ⟨he, ho⟩ => ⟨he, h.trans ho⟩
      have HSY : Hid (∀ wq, On wr wq → _) := fun wq h => sy_cells ((HB0.out.on HO.out).on h)
      have HPB : Hid (∀ wq, On wr wq → wq.cell? ⟨Q + 1, 0, none⟩ = some (.slice (some ⟨lb, lo, none⟩) n pc) ∧ wq.cell? ⟨Q + 1, 1, none⟩ = some (.slice (some ⟨rb, ro, none⟩) n qc)) := fun wq h => HBOX.out wq (HO.out.trans h)
      have HEL : Hid (∀ wq, On wr wq → wq.cell? ⟨lb, lo + i, none⟩ = some (.slice ta (p1.getD i []).length tc) ∧ wq.cell? ⟨rb, ro + i, none⟩ = some (.slice ra (p2.getD i []).length rc)) := fun wq h => ⟨cell_on (hWr.trans h) d0, cell_on (hWr.trans h) f0⟩
      obtain ⟨l0, l1⟩ := HBOX.out wr HO.out
      clear HJ d0 d1 f0 f1 e hWr
      generalize tuN S N (p1.getD i []) = B1 at *
      generalize tuN S N (p2.getD i []) = B2 at *
      generalize (p1.getD i ([] : List Vr)).length = tn at *
      generalize (p2.getD i ([] : List Vr)).length = rn at *
      go_upto_region 9 with fail
      clear l0 l1
      cases B1 with
      | false =>
        refine region_keep_tail (fun wq => On wr wq) 19 (by kernel_rfl) (by kernel_rfl) (On.refl HO.out.tab).drew ?_
        simp only [List.take_succ_cons, List.take_zero, List.drop_succ_cons, List.drop_zero]
        refine quiet_start fun L9 hL9 => ?_
        refine quiet_take (v := syA S H) hL9 (by kernel_rfl) (fun wq hwq => ?ay0) (fun L9 hL9 => ?ar0)
        case ay0 => (obtain ⟨s0, s1, s2, s3, s4, s5, s6, s7⟩ := HSY.out wq hwq; go_simp; try with_reducible rfl)
        try simp only [Act.put, List.setIfInBounds_toArray, List.set_cons_zero, List.set_cons_succ]
        refine quiet_take (v := ?av1) hL9 (by kernel_rfl) (fun wq hwq => ?ay1) (fun L9 hL9 => ?ar1)
        case ay1 => (go_simp; try with_reducible rfl)
        try simp only [Act.put, List.setIfInBounds_toArray, List.set_cons_zero, List.set_cons_succ]
        refine quiet_take (v := .slice (some ⟨lb, lo, none⟩) n pc) hL9 (by kernel_rfl) (fun wq hwq => ?ay2) (fun L9 hL9 => ?ar2)
        case ay2 => (obtain ⟨l0, l1⟩ := HPB.out wq hwq; go_simp; try with_reducible rfl)
        try simp only [Act.put, List.setIfInBounds_toArray, List.set_cons_zero, List.set_cons_succ]
        refine quiet_take (v := ?av3) hL9 (by kernel_rfl) (fun wq hwq => ?ay3) (fun L9 hL9 => ?ar3)
        case ay3 => (go_simp; try with_reducible rfl)
        try simp only [Act.put, List.setIfInBounds_toArray, List.set_cons_zero, List.set_cons_succ]
        refine quiet_take (v := ?av4) hL9 (by kernel_rfl) (fun wq hwq => ?ay4) (fun L9 hL9 => ?ar4)
        case ay4 => (go_simp; try with_reducible rfl)
        try simp only [Act.put, List.setIfInBounds_toArray, List.set_cons_zero, List.set_cons_succ]
        refine quiet_take (v := .slice ta tn tc) hL9 (by kernel_rfl) (fun wq hwq => ?ay5) (fun L9 hL9 => ?ar5)
        case ay5 => (obtain ⟨z0, z1⟩ := HEL.out wq hwq; go_simp; try with_reducible rfl)
        try simp only [Act.put, List.setIfInBounds_toArray, List.set_cons_zero, List.set_cons_succ]
        refine quiet_take (v := ?av6) hL9 (by kernel_rfl) (fun wq hwq => ?ay6) (fun L9 hL9 => ?ar6)
        case ay6 => (go_simp; try with_reducible rfl)
        try simp only [Act.put, List.setIfInBounds_toArray, List.set_cons_zero, List.set_cons_succ]
        refine quiet_take (v := .bool false) hL9 (by kernel_rfl) (fun wq hwq => ?ay7) (fun L9 hL9 => ?ar7)
        case ay7 => (go_simp; go_at_call 117; exact HT1.out wq hwq)
        try simp only [Act.put, List.setIfInBounds_toArray, List.set_cons_zero, List.set_cons_succ]
        refine quiet_take (v := .bool true) hL9 (by kernel_rfl) (fun wq hwq => ?ay8) (fun L9 hL9 => ?ar8)
        case ay8 => (go_simp; try with_reducible rfl)
        try simp only [Act.put, List.setIfInBounds_toArray, List.set_cons_zero, List.set_cons_succ]
        refine quiet_take (v := .bool true) hL9 (by kernel_rfl) (fun wq hwq => ?ay9) (fun L9 hL9 => ?ar9)
        case ay9 => (go_simp; try with_reducible rfl)
        try simp only [Act.put, List.setIfInBounds_toArray, List.set_cons_zero, List.set_cons_succ]
        refine quiet_skip hL9 (by kernel_rfl) (fun L9 hL9 => ?_)
        try simp only [Act.put, List.setIfInBounds_toArray, List.set_cons_zero, List.set_cons_succ]
        refine quiet_skip hL9 (by kernel_rfl) (fun L9 hL9 => ?_)
        try simp only [Act.put, List.setIfInBounds_toArray, List.set_cons_zero, List.set_cons_succ]
        refine quiet_skip hL9 (by kernel_rfl) (fun L9 hL9 => ?_)
        try simp only [Act.put, List.setIfInBounds_toArray, List.set_cons_zero, List.set_cons_succ]
        refine quiet_skip hL9 (by kernel_rfl) (fun L9 hL9 => ?_)
        try simp only [Act.put, List.setIfInBounds_toArray, List.set_cons_zero, List.set_cons_succ]
        refine quiet_skip hL9 (by kernel_rfl) (fun L9 hL9 => ?_)
        try simp only [Act.put, List.setIfInBounds_toArray, List.set_cons_zero, List.set_cons_succ]
        refine quiet_skip hL9 (by kernel_rfl) (fun L9 hL9 => ?_)
        try simp only [Act.put, List.setIfInBounds_toArray, List.set_cons_zero, List.set_cons_succ]
        refine quiet_skip hL9 (by kernel_rfl) (fun L9 hL9 => ?_)
        try simp only [Act.put, List.setIfInBounds_toArray, List.set_cons_zero, List.set_cons_succ]
        refine quiet_skip hL9 (by kernel_rfl) (fun L9 hL9 => ?_)
        try simp only [Act.put, List.setIfInBounds_toArray, List.set_cons_zero, List.set_cons_succ]
        refine quiet_skip hL9 (by kernel_rfl) (fun L9 hL9 => ?_)
        try simp only [Act.put, List.setIfInBounds_toArray, List.set_cons_zero, List.set_cons_succ]
        refine quiet_nil hL9 ?_
        clear hL9
        intro wy hOy
        have HF := Lib.hid (HN.out rfl)
        have hOz := HO0.out.trans (HO.out.trans hOy)
        go_wp2
        go_ret
        exact ⟨by rw [HF.out]; rfl, hOz⟩
      | true =>
        cases B2 with
        | false =>
          refine region_keep_tail (fun wq => On wr wq) 19 (by kernel_rfl) (by kernel_rfl) (On.refl HO.out.tab).drew ?_
          simp only [List.take_succ_cons, List.take_zero, List.drop_succ_cons, List.drop_zero]
          refine quiet_start fun L9 hL9 => ?_
          refine quiet_take (v := syA S H) hL9 (by kernel_rfl) (fun wq hwq => ?by0) (fun L9 hL9 => ?br0)
          case by0 => (obtain ⟨s0, s1, s2, s3, s4, s5, s6, s7⟩ := HSY.out wq hwq; go_simp; try with_reducible rfl)
          try simp only [Act.put, List.setIfInBounds_toArray, List.set_cons_zero, List.set_cons_succ]
          refine quiet_take (v := ?bv1) hL9 (by kernel_rfl) (fun wq hwq => ?by1) (fun L9 hL9 => ?br1)
          case by1 => (go_simp; try with_reducible rfl)
          try simp only [Act.put, List.setIfInBounds_toArray, List.set_cons_zero, List.set_cons_succ]
          refine quiet_take (v := .slice (some ⟨lb, lo, none⟩) n pc) hL9 (by kernel_rfl) (fun wq hwq => ?by2) (fun L9 hL9 => ?br2)
          case by2 => (obtain ⟨l0, l1⟩ := HPB.out wq hwq; go_simp; try with_reducible rfl)
          try simp only [Act.put, List.setIfInBounds_toArray, List.set_cons_zero, List.set_cons_succ]
          refine quiet_take (v := ?bv3) hL9 (by kernel_rfl) (fun wq hwq => ?by3) (fun L9 hL9 => ?br3)
          case by3 => (go_simp; try with_reducible rfl)
          try simp only [Act.put, List.setIfInBounds_toArray, List.set_cons_zero, List.set_cons_succ]
          refine quiet_take (v := ?bv4) hL9 (by kernel_rfl) (fun wq hwq => ?by4) (fun L9 hL9 => ?br4)
          case by4 => (go_simp; try with_reducible rfl)
          try simp only [Act.put, List.setIfInBounds_toArray, List.set_cons_zero, List.set_cons_succ]
          refine quiet_take (v := .slice ta tn tc) hL9 (by kernel_rfl) (fun wq hwq => ?by5) (fun L9 hL9 => ?br5)
          case by5 => (obtain ⟨z0, z1⟩ := HEL.out wq hwq; go_simp; try with_reducible rfl)
          try simp only [Act.put, List.setIfInBounds_toArray, List.set_cons_zero, List.set_cons_succ]
          refine quiet_take (v := ?bv6) hL9 (by kernel_rfl) (fun wq hwq => ?by6) (fun L9 hL9 => ?br6)
          case by6 => (go_simp; try with_reducible rfl)
          try simp only [Act.put, List.setIfInBounds_toArray, List.set_cons_zero, List.set_cons_succ]
          refine quiet_take (v := .bool true) hL9 (by kernel_rfl) (fun wq hwq => ?by7) (fun L9 hL9 => ?br7)
          case by7 => (go_simp; go_at_call 117; exact HT1.out wq hwq)
          try simp only [Act.put, List.setIfInBounds_toArray, List.set_cons_zero, List.set_cons_succ]
          refine quiet_take (v := .bool false) hL9 (by kernel_rfl) (fun wq hwq => ?by8) (fun L9 hL9 => ?br8)
          case by8 => (go_simp; try with_reducible rfl)
          try simp only [Act.put, List.setIfInBounds_toArray, List.set_cons_zero, List.set_cons_succ]
          refine quiet_take (v := .bool false) hL9 (by kernel_rfl) (fun wq hwq => ?by9) (fun L9 hL9 => ?br9)
          case by9 => (go_simp; try with_reducible rfl)
          try simp only [Act.put, List.setIfInBounds_toArray, List.set_cons_zero, List.set_cons_succ]
          refine quiet_take (v := syA S H) hL9 (by kernel_rfl) (fun wq hwq => ?by10) (fun L9 hL9 => ?br10)
          case by10 => (obtain ⟨s0, s1, s2, s3, s4, s5, s6, s7⟩ := HSY.out wq hwq; go_simp; try with_reducible rfl)
          try simp only [Act.put, List.setIfInBounds_toArray, List.set_cons_zero, List.set_cons_succ]
          refine quiet_take (v := ?bv11) hL9 (by kernel_rfl) (fun wq hwq => ?by11) (fun L9 hL9 => ?br11)
          case by11 => (go_simp; try with_reducible rfl)
          try simp only [Act.put, List.setIfInBounds_toArray, List.set_cons_zero, List.set_cons_succ]
          refine quiet_take (v := .slice (some ⟨rb, ro, none⟩) n qc) hL9 (by kernel_rfl) (fun wq hwq => ?by12) (fun L9 hL9 => ?br12)
          case by12 => (obtain ⟨l0, l1⟩ := HPB.out wq hwq; go_simp; try with_reducible rfl)
          try simp only [Act.put, List.setIfInBounds_toArray, List.set_cons_zero, List.set_cons_succ]
          refine quiet_take (v := ?bv13) hL9 (by kernel_rfl) (fun wq hwq => ?by13) (fun L9 hL9 => ?br13)
          case by13 => (go_simp; try with_reducible rfl)
          try simp only [Act.put, List.setIfInBounds_toArray, List.set_cons_zero, List.set_cons_succ]
          refine quiet_take (v := ?bv14) hL9 (by kernel_rfl) (fun wq hwq => ?by14) (fun L9 hL9 => ?br14)
          case by14 => (go_simp; try with_reducible rfl)
          try simp only [Act.put, List.setIfInBounds_toArray, List.set_cons_zero, List.set_cons_succ]
          refine quiet_take (v := .slice ra rn rc) hL9 (by kernel_rfl) (fun wq hwq => ?by15) (fun L9 hL9 => ?br15)
          case by15 => (obtain ⟨z0, z1⟩ := HEL.out wq hwq; go_simp; try with_reducible rfl)
          try simp only [Act.put, List.setIfInBounds_toArray, List.set_cons_zero, List.set_cons_succ]
          refine quiet_take (v := ?bv16) hL9 (by kernel_rfl) (fun wq hwq => ?by16) (fun L9 hL9 => ?br16)
          case by16 => (go_simp; try with_reducible rfl)
          try simp only [Act.put, List.setIfInBounds_toArray, List.set_cons_zero, List.set_cons_succ]
          refine quiet_take (v := .bool false) hL9 (by kernel_rfl) (fun wq hwq => ?by17) (fun L9 hL9 => ?br17)
          case by17 => (go_simp; go_at_call 117; exact HT2.out wq hwq)
          try simp only [Act.put, List.setIfInBounds_toArray, List.set_cons_zero, List.set_cons_succ]
          refine quiet_take (v := .bool true) hL9 (by kernel_rfl) (fun wq hwq => ?by18) (fun L9 hL9 => ?br18)
          case by18 => (go_simp; try with_reducible rfl)
          try simp only [Act.put, List.setIfInBounds_toArray, List.set_cons_zero, List.set_cons_succ]
          refine quiet_nil hL9 ?_
          clear hL9
          intro wy hOy
          have HF := Lib.hid (HN.out rfl)
          have hOz := HO0.out.trans (HO.out.trans hOy)
          go_wp2
          go_ret
          exact ⟨by rw [HF.out]; rfl, hOz⟩
        | true =>
          refine region_keep_tail (fun wq => On wr wq) 19 (by kernel_rfl) (by kernel_rfl) (On.refl HO.out.tab).drew ?_
          simp only [List.take_succ_cons, List.take_zero, List.drop_succ_cons, List.drop_zero]
          refine quiet_start fun L9 hL9 => ?_
          refine quiet_take (v := syA S H) hL9 (by kernel_rfl) (fun wq hwq => ?cy0) (fun L9 hL9 => ?cr0)
          case cy0 => (obtain ⟨s0, s1, s2, s3, s4, s5, s6, s7⟩ := HSY.out wq hwq; go_simp; try with_reducible rfl)
          try simp only [Act.put, List.setIfInBounds_toArray, List.set_cons_zero, List.set_cons_succ]
          refine quiet_take (v := ?cv1) hL9 (by kernel_rfl) (fun wq hwq => ?cy1) (fun L9 hL9 => ?cr1)
          case cy1 => (go_simp; try with_reducible rfl)
          try simp only [Act.put, List.setIfInBounds_toArray, List.set_cons_zero, List.set_cons_succ]
          refine quiet_take (v := .slice (some ⟨lb, lo, none⟩) n pc) hL9 (by kernel_rfl) (fun wq hwq => ?cy2) (fun L9 hL9 => ?cr2)
          case cy2 => (obtain ⟨l0, l1⟩ := HPB.out wq hwq; go_simp; try with_reducible rfl)
          try simp only [Act.put, List.setIfInBounds_toArray, List.set_cons_zero, List.set_cons_succ]
          refine quiet_take (v := ?cv3) hL9 (by kernel_rfl) (fun wq hwq => ?cy3) (fun L9 hL9 => ?cr3)
          case cy3 => (go_simp; try with_reducible rfl)
          try simp only [Act.put, List.setIfInBounds_toArray, List.set_cons_zero, List.set_cons_succ]
          refine quiet_take (v := ?cv4) hL9 (by kernel_rfl) (fun wq hwq => ?cy4) (fun L9 hL9 => ?cr4)
          case cy4 => (go_simp; try with_reducible rfl)
          try simp only [Act.put, List.setIfInBounds_toArray, List.set_cons_zero, List.set_cons_succ]
          refine quiet_take (v := .slice ta tn tc) hL9 (by kernel_rfl) (fun wq hwq => ?cy5) (fun L9 hL9 => ?cr5)
          case cy5 => (obtain ⟨z0, z1⟩ := HEL.out wq hwq; go_simp; try with_reducible rfl)
          try simp only [Act.put, List.setIfInBounds_toArray, List.set_cons_zero, List.set_cons_succ]
          refine quiet_take (v := ?cv6) hL9 (by kernel_rfl) (fun wq hwq => ?cy6) (fun L9 hL9 => ?cr6)
          case cy6 => (go_simp; try with_reducible rfl)
          try simp only [Act.put, List.setIfInBounds_toArray, List.set_cons_zero, List.set_cons_succ]
          refine quiet_take (v := .bool true) hL9 (by kernel_rfl) (fun wq hwq => ?cy7) (fun L9 hL9 => ?cr7)
          case cy7 => (go_simp; go_at_call 117; exact HT1.out wq hwq)
          try simp only [Act.put, List.setIfInBounds_toArray, List.set_cons_zero, List.set_cons_succ]
          refine quiet_take (v := .bool false) hL9 (by kernel_rfl) (fun wq hwq => ?cy8) (fun L9 hL9 => ?cr8)
          case cy8 => (go_simp; try with_reducible rfl)
          try simp only [Act.put, List.setIfInBounds_toArray, List.set_cons_zero, List.set_cons_succ]
          refine quiet_take (v := .bool false) hL9 (by kernel_rfl) (fun wq hwq => ?cy9) (fun L9 hL9 => ?cr9)
          case cy9 => (go_simp; try with_reducible rfl)
          try simp only [Act.put, List.setIfInBounds_toArray, List.set_cons_zero, List.set_cons_succ]
          refine quiet_take (v := syA S H) hL9 (by kernel_rfl) (fun wq hwq => ?cy10) (fun L9 hL9 => ?cr10)
          case cy10 => (obtain ⟨s0, s1, s2, s3, s4, s5, s6, s7⟩ := HSY.out wq hwq; go_simp; try with_reducible rfl)
          try simp only [Act.put, List.setIfInBounds_toArray, List.set_cons_zero, List.set_cons_succ]
          refine quiet_take (v := ?cv11) hL9 (by kernel_rfl) (fun wq hwq => ?cy11) (fun L9 hL9 => ?cr11)
          case cy11 => (go_simp; try with_reducible rfl)
          try simp only [Act.put, List.setIfInBounds_toArray, List.set_cons_zero, List.set_cons_succ]
          refine quiet_take (v := .slice (some ⟨rb, ro, none⟩) n qc) hL9 (by kernel_rfl) (fun wq hwq => ?cy12) (fun L9 hL9 => ?cr12)
          case cy12 => (obtain ⟨l0, l1⟩ := HPB.out wq hwq; go_simp; try with_reducible rfl)
          try simp only [Act.put, List.setIfInBounds_toArray, List.set_cons_zero, List.set_cons_succ]
          refine quiet_take (v := ?cv13) hL9 (by kernel_rfl) (fun wq hwq => ?cy13) (fun L9 hL9 => ?cr13)
          case cy13 => (go_simp; try with_reducible rfl)
          try simp only [Act.put, List.setIfInBounds_toArray, List.set_cons_zero, List.set_cons_succ]
          refine quiet_take (v := ?cv14) hL9 (by kernel_rfl) (fun wq hwq => ?cy14) (fun L9 hL9 => ?cr14)
          case cy14 => (go_simp; try with_reducible rfl)
          try simp only [Act.put, List.setIfInBounds_toArray, List.set_cons_zero, List.set_cons_succ]
          refine quiet_take (v := .slice ra rn rc) hL9 (by kernel_rfl) (fun wq hwq => ?cy15) (fun L9 hL9 => ?cr15)
          case cy15 => (obtain ⟨z0, z1⟩ := HEL.out wq hwq; go_simp; try with_reducible rfl)
          try simp only [Act.put, List.setIfInBounds_toArray, List.set_cons_zero, List.set_cons_succ]
          refine quiet_take (v := ?cv16) hL9 (by kernel_rfl) (fun wq hwq => ?cy16) (fun L9 hL9 => ?cr16)
          case cy16 => (go_simp; try with_reducible rfl)
          try simp only [Act.put, List.setIfInBounds_toArray, List.set_cons_zero, List.set_cons_succ]
          refine quiet_take (v := .bool true) hL9 (by kernel_rfl) (fun wq hwq => ?cy17) (fun L9 hL9 => ?cr17)
          case cy17 => (go_simp; go_at_call 117; exact HT2.out wq hwq)
          try simp only [Act.put, List.setIfInBounds_toArray, List.set_cons_zero, List.set_cons_succ]
          refine quiet_take (v := .bool false) hL9 (by kernel_rfl) (fun wq hwq => ?cy18) (fun L9 hL9 => ?cr18)
          case cy18 => (go_simp; try with_reducible rfl)
          try simp only [Act.put, List.setIfInBounds_toArray, List.set_cons_zero, List.set_cons_succ]
          refine quiet_nil hL9 ?_
          clear hL9
          intro wy hOy
          have HF := Lib.hid (HJ2.out rfl)
          have hOz := Lib.hid (HO.out.trans hOy)
          clear hOy
          go_wp2
          go_roundw
          case rel => exact ⟨i + 1, by omega, by simp, HF, hOz⟩
          case measure => simp [intOf]; omega
    · obtain rfl : n = i := by omega
      have HG := Lib.hid (HYES.out HJ.out)
      have hOz := HO0.out.trans HO.out
      obtain ⟨l0, l1⟩ := HBOX.out wr HO.out
      clear HJ
      go_wp2
      go_ret
      exact ⟨by rw [HG.out]; rfl, hOz⟩
theorem lkB_doc (S : Sy) (l : Lk) : lkB S l = (decide (1 ≤ l.tu.length ∧ l.tu.length ≤ 4) && ((l.ct.1 == 1) && (hasV S l.ct && (tuN S l.tu.length l.tu && (decide (l.ta.length = l.tu.length) && l.ta.all (tvB S true)))))) := by
  have e : hasK S [1] l.ct = (hasV S l.ct && (l.ct.1 == 1)) := by unfold hasK; by_cases h : l.ct.1 = 1 <;> simp [h]
  unfold lkB tuB tuN
  rw [tvB_false, tvB_true, e]
  by_cases h2 : l.ta.length = l.tu.length
  · rw [h2]
    generalize decide (1 ≤ l.tu.length ∧ l.tu.length ≤ 4) = a
    generalize l.tu.all (hasK S [1, 3]) = b
    generalize l.ta.all (hasK S [3]) = c
    generalize hasV S l.ct = d
    generalize (l.ct.1 == 1) = e
    cases a <;> cases b <;> cases c <;> cases d <;> cases e <;> simp
  · rw [decide_eq_false h2]; simp
set_option maxHeartbeats 4000000 in
set_option maxRecDepth 100000 in
theorem rlookup_any (S : Sy) (H : Sh) (l : Lk) (au av : Option Addr) (cu cv : Nat) (w : World) (hT : Tab w) (hu : VRw w (.slice au l.tu.length cu) l.tu) (hv : VRw w (.slice av l.ta.length cv) l.ta) :
    Calls Tryd.prog 61 #[syA S H, .agg #[.slice au l.tu.length cu, .slice av l.ta.length cv, .int .u8 l.ct.1, .int .i64 l.ct.2]] w fun e w' => e = .returned (.bool (lkB S l)) ∧ On w w' := by
  obtain ⟨W0, hW0⟩ : ∃ W0, W0 = (w.alloc (syO S H)).alloc (.cells #[.slice au l.tu.length cu, .slice av l.ta.length cv, .int .u8 l.ct.1, .int .i64 l.ct.2] 63) := ⟨_, rfl⟩
  have hO0 : On w W0 := by rw [hW0]; exact ((On.refl hT).alloc _).alloc _
  obtain ⟨Q, hQ⟩ : ∃ Q, Q = w.heap.size := ⟨_, rfl⟩
  have HB0 : Hid (VB Q W0 (syL S H)) := by rw [hW0, hQ]; exact Lib.hid ((vb_newS S H w).on ((On.refl ((On.refl hT).alloc _).tab).alloc _))
  have HB1 : Hid (VB (Q + 1) W0 [.slice au l.tu.length cu, .slice av l.ta.length cv, .int .u8 l.ct.1, .int .i64 l.ct.2]) := by
    have h := vb_new (w.alloc (syO S H)) #[.slice au l.tu.length cu, .slice av l.ta.length cv, .int .u8 l.ct.1, .int .i64 l.ct.2] 63
    rw [World.size_alloc] at h
    rw [hW0, hQ]; exact Lib.hid h
  have HOK : Hid (On W0 W0) := On.refl hO0.tab
  have HSY : Hid (∀ u, On W0 u → _) := fun u h => sy_cells (HB0.out.on h)
  have HLK : Hid (∀ V, On W0 V → V.cell? ⟨Q + 1, 0, none⟩ = some (.slice au l.tu.length cu) ∧ V.cell? ⟨Q + 1, 1, none⟩ = some (.slice av l.ta.length cv) ∧ V.cell? ⟨Q + 1, 2, none⟩ = some (.int .u8 l.ct.1) ∧ V.cell? ⟨Q + 1, 3, none⟩ = some (.int .i64 l.ct.2)) := fun V h => ⟨(HB1.out.on h).2.1 0 _ rfl, (HB1.out.on h).2.1 1 _ rfl, (HB1.out.on h).2.1 2 _ rfl, (HB1.out.on h).2.1 3 _ rfl⟩
  have HWI : Hid (∀ u, On W0 u → Calls Tryd.prog 116 #[syA S H, .agg #[.int .u8 l.ct.1, .int .i64 l.ct.2]] u fun e w' => e = .returned (.bool (hasV S l.ct)) ∧ On W0 w') := fun u h => (rwithin_any S H l.ct u h.tab).mono fun e w' ⟨he, ho⟩ => ⟨he, h.trans ho⟩
  have HT1 : Hid (∀ u, On W0 u → Calls Tryd.prog 117 #[syA S H, .slice au l.tu.length cu, .int .i64 ((l.tu.length : Nat) : Int), .bool false] u fun e w' => e = .returned (.bool (tuN S l.tu.length l.tu)) ∧ On W0 w') := fun u h => (rtuple_any S H l.tu _ l.tu.length false u h.tab (hu.on (hO0.trans h))).mono fun e w' ⟨he, ho⟩ => ⟨he, h.trans ho⟩
  have HT2 : Hid (∀ u, On W0 u → Calls Tryd.prog 117 #[syA S H, .slice av l.ta.length cv, .int .i64 ((l.tu.length : Nat) : Int), .bool true] u fun e w' => e = .returned (.bool (decide (l.ta.length = l.tu.length) && l.ta.all (tvB S true))) ∧ On W0 w') := fun u h => (rtuple_any S H l.ta _ l.tu.length true u h.tab (hv.on (hO0.trans h))).mono fun e w' ⟨he, ho⟩ => ⟨he, h.trans ho⟩
  rw [lkB_doc]
  have HW0 := Lib.hid hW0; have HQ := Lib.hid hQ; have HO0 := Lib.hid hO0
  clear hT hu hv hW0 hQ hO0 HB0 HB1
  generalize tuN S l.tu.length l.tu = B at *
  generalize (decide (l.ta.length = l.tu.length) && l.ta.all (tvB S true)) = C at *
  generalize hasV S l.ct = D at *
  generalize l.tu.length = n at *
  generalize l.ta.length = m at *
  obtain ⟨a0, a1, ct⟩ := l
  obtain ⟨ck, ci⟩ := ct
  simp only at HW0 HLK HWI ⊢
  by_cases h14 : 1 ≤ n ∧ n ≤ 4
  rotate_left
  · have e : (decide (1 ≤ n ∧ n ≤ 4) && ((ck == 1) && (D && (B && C)))) = false := by rw [decide_eq_false h14]; rfl
    rw [e]; clear e
    by_cases h1 : (n : Int) < 1
    · clear h14
      go_enter Tryd.func61, Tryd.ntmps61
      go_upto_region 1 with fail
      rw [← HW0.out, ← HQ.out]
      obtain ⟨l0, l1, l2, l3⟩ := HLK.out _ HOK.out
      go_wp2
      go_ret
      exact ⟨rfl, HO0.out⟩
    · have h4 : (4 : Int) < (n : Int) := by omega
      clear h14
      go_enter Tryd.func61, Tryd.ntmps61
      go_upto_region 1 with fail
      rw [← HW0.out, ← HQ.out]
      obtain ⟨l0, l1, l2, l3⟩ := HLK.out _ HOK.out
      go_wp2
      go_ret
      exact ⟨rfl, HO0.out⟩
  have h1 : ¬ (n : Int) < 1 := by omega
  have h4 : ¬ (4 : Int) < (n : Int) := by omega
  have e : (decide (1 ≤ n ∧ n ≤ 4) && ((ck == 1) && (D && (B && C)))) = ((ck == 1) && (D && (B && C))) := by rw [decide_eq_true h14]; rfl
  rw [e]; clear e h14
  by_cases hk : ck = 1
  rotate_left
  · have e : ((ck == 1) && (D && (B && C))) = false := by rw [beq_no hk]; rfl
    have e1 : (ck != 1) = true := by simp [hk]
    rw [e]; clear e hk
    go_enter Tryd.func61, Tryd.ntmps61
    go_upto_region 1 with fail
    rw [← HW0.out, ← HQ.out]
    obtain ⟨l0, l1, l2, l3⟩ := HLK.out _ HOK.out
    go_wp2
    go_ret
    exact ⟨rfl, HO0.out⟩
  subst hk
  have e : (((1 : Int) == 1) && (D && (B && C))) = (D && (B && C)) := by simp
  rw [e]; clear e
  cases D <;> cases B <;> cases C
  all_goals (go_enter Tryd.func61, Tryd.ntmps61
             go_upto_region 1 with fail
             rw [← HW0.out, ← HQ.out]
             obtain ⟨l0, l1, l2, l3⟩ := HLK.out _ HOK.out
             obtain ⟨s0, s1, s2, s3, s4, s5, s6, s7⟩ := HSY.out _ HOK.out
             go_wp2_with (first
               | (go_at_call 116; (with_reducible refine (HWI.out _ HOK.out).mono ?_); rintro e w1 ⟨rfl, hO1⟩; obtain ⟨s0, s1, s2, s3, s4, s5, s6, s7⟩ := HSY.out w1 hO1; obtain ⟨l0, l1, l2, l3⟩ := HLK.out w1 hO1)
               | (go_at_call 117; (with_reducible refine (HT1.out _ hO1).mono ?_); rintro e w2 ⟨rfl, hO2⟩; obtain ⟨s0, s1, s2, s3, s4, s5, s6, s7⟩ := HSY.out w2 hO2; obtain ⟨l0, l1, l2, l3⟩ := HLK.out w2 hO2)
               | (go_at_call 117; (with_reducible refine (HT2.out _ hO2).mono ?_); rintro e w3 ⟨rfl, hO3⟩)
               | fail)
             go_ret
             first | exact ⟨rfl, HO0.out.trans hO3⟩ | exact ⟨rfl, HO0.out.trans hO2⟩ | exact ⟨rfl, HO0.out.trans hO1⟩ | fail)
end Go.Proofs.YtbgljelpldnldaaDoor
