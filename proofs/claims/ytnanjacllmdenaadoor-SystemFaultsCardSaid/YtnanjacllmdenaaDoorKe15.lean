/- The document's systems: Size, elements, within, tuple: what the calls return. -/
import Derived.Test.YtnanjacllmdenaaDoorKe14
import Derived.Test.YtnanjacllmdenaaDoorKe04
set_option linter.unusedSimpArgs false
set_option linter.unusedVariables false
/- The document's systems: Size, elements, within, tuple: what the calls return. -/
namespace Go.Proofs.YtnanjacllmdenaaDoor
open Go.RowKit
set_option linter.unusedVariables false

theorem rsize_any (S : Sy) (H : Sh) (w : World) (hT : Tab w) (h0 : 0 ≤ S.rows) (h13 : S.rows ≤ 13) :
    Calls Tryd.prog 45 #[syA S H] w fun e w' => e = .returned (.int .i64 ((rowN S : Nat) : Int)) ∧ On w w' := by
  have HO : Hid (On w (w.alloc (syO S H))) := (On.refl hT).alloc _
  have HB := Lib.hid (vb_newS S H w)
  have hE : rowN S = 2 ^ S.rows.toNat := rfl
  rw [hE]; clear hE hT
  obtain ⟨f, rows, main, pub, fixed, rules, perms, looks⟩ := S
  simp only at h0 h13 ⊢
  obtain ⟨K, rfl⟩ : ∃ K : Nat, rows = (K : Int) := ⟨rows.toNat, by omega⟩
  have hK : K ≤ 13 := by omega
  rw [show ((K : Int)).toNat = K by omega]
  obtain ⟨s0, s1, s2, s3, s4, s5, s6, s7⟩ := sy_cells HB.out
  simp only at s1
  clear h0 h13 s0 s2 s3 s4 s5 s6 s7
  go_enter Tryd.func45, Tryd.ntmps45
  go_wp2_with fail
  go_loop [3, 4] (fun vs vi => ∃ i m : Nat, i ≤ K ∧ vi = .int .i64 (i : Int) ∧ vs = .int .i64 (m : Int) ∧ Hid (m = 2 ^ i) ∧ m ≤ 8192) (fun _ vi => K - (intOf vi).toNat)
  case atStart => exact ⟨0, 1, Nat.zero_le _, rfl, rfl, Lib.hid rfl, by omega⟩
  case round =>
    obtain ⟨i, m, hi, rfl, rfl, HM, hm⟩ := hrel
    by_cases hlt : i < K
    · have hlt' : (i : Int) < (K : Int) := by omega
      have HM2 : Hid (m * 2 = 2 ^ (i + 1)) := by rw [HM.out, Nat.pow_succ]; exact Lib.hid rfl
      have hm2 : m * 2 ≤ 8192 := by
        rw [HM2.out]; exact Nat.le_trans (Nat.pow_le_pow_right (by omega) (by omega : i + 1 ≤ 13)) (by decide)
      clear HM
      go_wp2
      go_round
      case rel => exact ⟨i + 1, m * 2, by omega, by simp, by simp; omega, HM2, hm2⟩
      case measure => simp [intOf]; omega
    · obtain rfl : K = i := by omega
      go_wp2
      go_ret
      exact ⟨by rw [HM.out]; rfl, HO.out⟩
theorem relems_any (f : Int) (l : List Nat) (v : Value) (w : World) (hR : Reads w v l) :
    Calls Tryd.prog 56 #[.int .i64 f, v] w fun e w' => e = .returned (.bool (l.all fun x => decide (x < pOf f))) ∧ Drawn w w' := by
  obtain ⟨a, cap, rfl⟩ := hR.shape
  obtain ⟨hU, hL, hc⟩ := hR
  have HC : Hid (∀ i, i < l.length → ∃ b off, a = some ⟨b, off, none⟩ ∧ w.cell? ⟨b, off + i, none⟩ = some (.int .u64 ((l.getD i 0 : Nat) : Int))) := fun i hi => by
    rcases hc with ⟨rfl, _⟩ | ⟨b, off, cap', e, hc⟩
    · simp at hi
    · simp only [Value.slice.injEq] at e
      exact ⟨b, off, e.1, hc i hi⟩
  have HU : Hid (∀ i, i < l.length → l.getD i 0 ≤ 18446744073709551615) := fun i hi => hU _ (getD_mem l i hi)
  have HNO : Hid (∀ j, j < l.length → decide (l.getD j 0 < pOf f) = false → (l.all fun x => decide (x < pOf f)) = false) := fun j hj h => all_no (fun x => decide (x < pOf f)) 0 l j hj h
  have HYES : Hid ((∀ j, j < l.length → decide (l.getD j 0 < pOf f) = true) → (l.all fun x => decide (x < pOf f)) = true) := fun h => (all_getD (fun x => decide (x < pOf f)) 0 l).2 h
  generalize (l.all fun x => decide (x < pOf f)) = RR at *
  generalize hn : l.length = n at *
  clear hn hU hc
  go_enter Tryd.func56, Tryd.ntmps56
  go_wp2_with fail
  go_loopw [5] (fun vi wr => ∃ k q : Nat, k ≤ n ∧ vi = .int .i64 (k : Int) ∧ Hid (∀ j, j < k → decide (l.getD j 0 < pOf f) = true) ∧ Hid (wr = w.drewN q)) (fun vi _ => n - (intOf vi).toNat)
  case atStart => exact ⟨0, 0, Nat.zero_le _, rfl, Lib.hid (fun j hj => absurd hj (Nat.not_lt_zero _)), Lib.hid rfl⟩
  case round =>
    rename World => wr
    obtain ⟨k, q, hk, rfl, HJ, HW⟩ := hrel
    by_cases hlt : k < n
    · have hlt' : (k : Int) < (n : Int) := by omega
      obtain ⟨b, off, rfl, c0⟩ := HC.out k hlt
      have hcell : wr.cell? ⟨b, off + k, none⟩ = some (.int .u64 ((l.getD k 0 : Nat) : Int)) := by rw [HW.out]; exact c0
      have hx := HU.out k hlt
      have HN := Lib.hid (HNO.out k hlt)
      have HJ2 : Hid (decide (l.getD k 0 < pOf f) = true → ∀ j, j < k + 1 → decide (l.getD j 0 < pOf f) = true) := fun h j hj => by
        by_cases e : j = k
        · rw [e]; exact h
        · exact HJ.out j (by omega)
      clear c0 HJ
      generalize l.getD k 0 = x at *
      by_cases hp : x < pOf f
      · have hd : decide (pOf f ≤ x) = false := by simp; omega
        have HG := Lib.hid (HJ2.out (decide_eq_true hp))
        go_wp2
        go_quiet ((go_at_call 62; exact quiet_of_eq (rp_any _ _)))
        go_wp2
        go_roundw
        case rel => exact ⟨k + 1, q + nq, by omega, by simp, HG, by unfold Hid; rw [HW.out]; exact World.drewN_drewN _ _ _⟩
        case measure => simp [intOf]; omega
      · have hd : decide (pOf f ≤ x) = true := by simp; omega
        have HG := Lib.hid (HN.out (decide_eq_false hp))
        go_wp2
        go_quiet ((go_at_call 62; exact quiet_of_eq (rp_any _ _)))
        go_wp2
        go_ret
        exact ⟨by rw [HG.out]; rfl, q + nq, by rw [HW.out]; exact World.drewN_drewN _ _ _⟩
    · obtain rfl : n = k := by omega
      have HG := Lib.hid (HYES.out HJ.out)
      clear HJ
      go_wp2
      go_ret
      exact ⟨by rw [HG.out]; rfl, q, HW.out⟩
set_option maxRecDepth 100000 in
theorem rwithin_any (S : Sy) (H : Sh) (v : Vr) (w : World) (hT : Tab w) :
    Calls Tryd.prog 152 #[syA S H, .agg #[.int .u8 v.1, .int .i64 v.2]] w fun e w' => e = .returned (.bool (hasV S v)) ∧ On w w' := by
  obtain ⟨k, i⟩ := v
  have HO : Hid (On w ((w.alloc (syO S H)).alloc (.cells #[.int .u8 k, .int .i64 i] 52))) := ((On.refl hT).alloc _).alloc _
  have hb0 := (vb_newS S H w).on ((On.refl ((On.refl hT).alloc (syO S H)).tab).alloc (.cells #[.int .u8 k, .int .i64 i] 52))
  obtain ⟨s0, s1, s2, s3, s4, s5, s6, s7⟩ := sy_cells hb0
  clear hT hb0
  by_cases h0 : i < 0
  · have e : hasV S (k, i) = false := by unfold hasV; simp; omega
    rw [e]; clear e
    go_enter Tryd.func152, Tryd.ntmps152
    go_wp2
    go_ret
    exact ⟨rfl, HO.out⟩
  · have e : hasV S (k, i) = decide (i < numK S k) := by unfold hasV; exact decide_eq_decide.2 (by simp only; omega)
    rw [e]; clear e
    rcases kinds4 k with rfl | rfl | rfl | rfl | h
    · go_enter Tryd.func152, Tryd.ntmps152
      go_wp2
      go_ret
      exact ⟨by simp [numK], HO.out⟩
    · go_enter Tryd.func152, Tryd.ntmps152
      go_wp2
      go_ret
      exact ⟨by simp [numK], HO.out⟩
    · go_enter Tryd.func152, Tryd.ntmps152
      go_wp2
      go_ret
      exact ⟨by simp [numK], HO.out⟩
    · go_enter Tryd.func152, Tryd.ntmps152
      go_wp2
      go_ret
      exact ⟨by simp [numK], HO.out⟩
    · obtain ⟨h1, h2, h3, h4⟩ := h
      have e : decide (i < numK S k) = false := by simp [numK, h1, h2, h3, h4]; omega
      have e1 := beq_no h1; have e2 := beq_no h2; have e3 := beq_no h3; have e4 := beq_no h4
      rw [e]; clear e h1 h2 h3 h4
      go_enter Tryd.func152, Tryd.ntmps152
      go_wp2
      go_ret
      exact ⟨rfl, HO.out⟩
/-- What a tuple's variable has to be. -/
def tvB (S : Sy) (fx : Bool) (v : Vr) : Bool := hasV S v && (v.1 == 3 || (!fx && v.1 == 1))
theorem tvB_true (S : Sy) : tvB S true = hasK S [3] := by
  funext v; unfold tvB hasK; by_cases h3 : v.1 = 3 <;> simp [h3]
theorem tvB_false (S : Sy) : tvB S false = hasK S [1, 3] := by
  funext v; unfold tvB hasK; by_cases h3 : v.1 = 3 <;> by_cases h1 : v.1 = 1 <;> simp [h3, h1]
set_option maxHeartbeats 4000000 in
set_option maxRecDepth 100000 in
theorem rtuple_any (S : Sy) (H : Sh) (t : List Vr) (v : Value) (m : Nat) (fx : Bool) (w : World) (hT : Tab w) (hV : VRw w v t) :
    Calls Tryd.prog 154 #[syA S H, v, .int .i64 (m : Int), .bool fx] w fun e w' => e = .returned (.bool (decide (t.length = m) && t.all (tvB S fx))) ∧ On w w' := by
  obtain ⟨a, cap, rfl⟩ := hV.shape
  have hL := hV.2.1
  obtain ⟨W0, hW0⟩ : ∃ W0, W0 = w.alloc (syO S H) := ⟨_, rfl⟩
  have hO0 : On w W0 := by rw [hW0]; exact (On.refl hT).alloc _
  obtain ⟨Q, hQ⟩ : ∃ Q, Q = w.heap.size := ⟨_, rfl⟩
  have HB0 : Hid (VB Q W0 (syL S H)) := by rw [hW0, hQ]; exact Lib.hid (vb_newS S H w)
  have HV := Lib.hid hV.cells
  have HW0 := Lib.hid hW0; have HQ := Lib.hid hQ; have HO0 := Lib.hid hO0
  have HNO : Hid (∀ j, j < t.length → tvB S fx (t.getD j zV) = false → t.all (tvB S fx) = false) := fun j hj h => all_no _ zV t j hj h
  have HYES : Hid ((∀ j, j < t.length → tvB S fx (t.getD j zV) = true) → t.all (tvB S fx) = true) := fun h => (all_getD _ zV t).2 h
  generalize t.all (tvB S fx) = RR at *
  generalize hn : t.length = n at *
  clear hn hT hV hW0 hQ hO0
  by_cases hnm : n = m
  rotate_left
  · have e1 : (decide (n = m) && RR) = false := by simp [hnm]
    have e2 : ((n : Int) != (m : Int)) = true := by simp; omega
    rw [e1]; clear e1 hnm
    go_enter Tryd.func154, Tryd.ntmps154
    go_upto_region 1 with fail
    rw [← HW0.out, ← HQ.out]
    go_wp2
    go_ret
    exact ⟨rfl, HO0.out⟩
  obtain rfl : n = m := hnm
  have e1 : (decide (n = n) && RR) = RR := by simp
  rw [e1]; clear e1
  go_enter Tryd.func154, Tryd.ntmps154
  go_upto_region 1 with fail
  rw [← HW0.out, ← HQ.out]
  go_wp2_with fail
  go_loopw [9] (fun vi wr => ∃ i : Nat, i ≤ n ∧ vi = .int .i64 (i : Int) ∧ Hid (∀ j, j < i → tvB S fx (t.getD j zV) = true) ∧ Hid (On W0 wr)) (fun vi _ => n - (intOf vi).toNat)
  case atStart => exact ⟨0, Nat.zero_le _, rfl, Lib.hid (fun j hj => absurd hj (Nat.not_lt_zero _)), Lib.hid (On.refl HO0.out.tab)⟩
  case round =>
    rename World => wr
    obtain ⟨i, hi, rfl, HJ, HO⟩ := hrel
    by_cases hlt : i < n
    · have hlt' : (i : Int) < (n : Int) := by omega
      obtain ⟨b, off, rfl, d0, d1⟩ := HV.out i hlt
      have HD0 := Lib.hid (cell_on (HO0.out.trans HO.out) d0)
      have HD1 := Lib.hid (cell_on (HO0.out.trans HO.out) d1)
      have HJ2 : Hid (tvB S fx (t.getD i zV) = true → ∀ j, j < i + 1 → tvB S fx (t.getD j zV) = true) := fun h j hj => by
        by_cases e : j = i
        · rw [e]; exact h
        · exact HJ.out j (by omega)
      have HN := Lib.hid (HNO.out i hlt)
      clear d0 d1 HJ
      generalize t.getD i zV = x at *
      obtain ⟨xk, xi⟩ := x
      have HVX : Hid (∀ wq, On wr wq → wq.cell? ⟨b, off + i * 2, none⟩ = some (.int .u8 xk) ∧ wq.cell? ⟨b, off + i * 2 + 1, none⟩ = some (.int .i64 xi)) := fun wq h => ⟨cell_on h HD0.out, cell_on h HD1.out⟩
      have HSY : Hid (∀ wq, On wr wq → _) := fun wq h => sy_cells ((HB0.out.on HO.out).on h)
      have HWI : Hid (∀ wq, On wr wq → Calls Tryd.prog 152 #[syA S H, .agg #[.int .u8 xk, .int .i64 xi]] wq fun e w' => e = .returned (.bool (hasV S (xk, xi))) ∧ On wr w') := fun wq h => (rwithin_any S H (xk, xi) wq h.tab).mono fun e w' ⟨he, ho⟩ => ⟨he, h.trans ho⟩
      have e : tvB S fx (xk, xi) = (hasV S (xk, xi) && (xk == 3 || (!fx && xk == 1))) := rfl
      rw [e] at HJ2 HN
      clear e
      go_upto_region 6 with fail
      clear HD0 HD1
      generalize hasV S (xk, xi) = HH at *
      cases HH with
      | false =>
        refine region_keep_tail (fun wq => On wr wq) 25 (by kernel_rfl) (by kernel_rfl) (On.refl HO.out.tab).drew ?_
        simp only [List.take_succ_cons, List.take_zero, List.drop_succ_cons, List.drop_zero]
        refine quiet_start fun L9 hL9 => ?_
        refine quiet_take (v := syA S H) hL9 (by kernel_rfl) (fun wq hwq => ?ay0) (fun L9 hL9 => ?ar0)
        case ay0 => (obtain ⟨s0, s1, s2, s3, s4, s5, s6, s7⟩ := HSY.out wq hwq; go_simp; try with_reducible rfl)
        try simp only [Act.put, List.setIfInBounds_toArray, List.set_cons_zero, List.set_cons_succ]
        refine quiet_take (v := ?av1) hL9 (by kernel_rfl) (fun wq hwq => ?ay1) (fun L9 hL9 => ?ar1)
        case ay1 => (go_simp; try with_reducible rfl)
        try simp only [Act.put, List.setIfInBounds_toArray, List.set_cons_zero, List.set_cons_succ]
        refine quiet_take (v := ?av2) hL9 (by kernel_rfl) (fun wq hwq => ?ay2) (fun L9 hL9 => ?ar2)
        case ay2 => (go_simp; try with_reducible rfl)
        try simp only [Act.put, List.setIfInBounds_toArray, List.set_cons_zero, List.set_cons_succ]
        refine quiet_take (v := ?av3) hL9 (by kernel_rfl) (fun wq hwq => ?ay3) (fun L9 hL9 => ?ar3)
        case ay3 => (go_simp; try with_reducible rfl)
        try simp only [Act.put, List.setIfInBounds_toArray, List.set_cons_zero, List.set_cons_succ]
        refine quiet_take (v := .agg #[.int .u8 xk, .int .i64 xi]) hL9 (by kernel_rfl) (fun wq hwq => ?ay4) (fun L9 hL9 => ?ar4)
        case ay4 => (obtain ⟨z0, z1⟩ := HVX.out wq hwq; go_simp; try with_reducible rfl)
        try simp only [Act.put, List.setIfInBounds_toArray, List.set_cons_zero, List.set_cons_succ]
        refine quiet_take (v := .bool false) hL9 (by kernel_rfl) (fun wq hwq => ?ay5) (fun L9 hL9 => ?ar5)
        case ay5 => (go_simp; go_at_call 152; exact HWI.out wq hwq)
        try simp only [Act.put, List.setIfInBounds_toArray, List.set_cons_zero, List.set_cons_succ]
        refine quiet_take (v := .bool true) hL9 (by kernel_rfl) (fun wq hwq => ?ay6) (fun L9 hL9 => ?ar6)
        case ay6 => (go_simp; try with_reducible rfl)
        try simp only [Act.put, List.setIfInBounds_toArray, List.set_cons_zero, List.set_cons_succ]
        refine quiet_take (v := .bool true) hL9 (by kernel_rfl) (fun wq hwq => ?ay7) (fun L9 hL9 => ?ar7)
        case ay7 => (go_simp; try with_reducible rfl)
        try simp only [Act.put, List.setIfInBounds_toArray, List.set_cons_zero, List.set_cons_succ]
        refine quiet_skip hL9 (by kernel_rfl) (fun L9 hL9 => ?_)
        try simp only [Act.put, List.setIfInBounds_toArray, List.set_cons_zero, List.set_cons_succ]
        refine quiet_skip hL9 (by kernel_rfl) (fun L9 hL9 => ?_)
        try simp only [Act.put, List.setIfInBounds_toArray, List.set_cons_zero, List.set_cons_succ]
        refine quiet_skip hL9 (by kernel_rfl) (fun L9 hL9 => ?_)
        try simp only [Act.put, List.setIfInBounds_toArray, List.set_cons_zero, List.set_cons_succ]
        refine quiet_skip hL9 (by kernel_rfl) (fun L9 hL9 => ?_)
        try simp only [Act.put, List.setIfInBounds_toArray, List.set_cons_zero, List.set_cons_succ]
        refine quiet_skip hL9 (by kernel_rfl) (fun L9 hL9 => ?_)
        try simp only [Act.put, List.setIfInBounds_toArray, List.set_cons_zero, List.set_cons_succ]
        refine quiet_skip hL9 (by kernel_rfl) (fun L9 hL9 => ?_)
        try simp only [Act.put, List.setIfInBounds_toArray, List.set_cons_zero, List.set_cons_succ]
        refine quiet_skip hL9 (by kernel_rfl) (fun L9 hL9 => ?_)
        try simp only [Act.put, List.setIfInBounds_toArray, List.set_cons_zero, List.set_cons_succ]
        refine quiet_skip hL9 (by kernel_rfl) (fun L9 hL9 => ?_)
        try simp only [Act.put, List.setIfInBounds_toArray, List.set_cons_zero, List.set_cons_succ]
        refine quiet_skip hL9 (by kernel_rfl) (fun L9 hL9 => ?_)
        try simp only [Act.put, List.setIfInBounds_toArray, List.set_cons_zero, List.set_cons_succ]
        refine quiet_skip hL9 (by kernel_rfl) (fun L9 hL9 => ?_)
        try simp only [Act.put, List.setIfInBounds_toArray, List.set_cons_zero, List.set_cons_succ]
        refine quiet_skip hL9 (by kernel_rfl) (fun L9 hL9 => ?_)
        try simp only [Act.put, List.setIfInBounds_toArray, List.set_cons_zero, List.set_cons_succ]
        refine quiet_skip hL9 (by kernel_rfl) (fun L9 hL9 => ?_)
        try simp only [Act.put, List.setIfInBounds_toArray, List.set_cons_zero, List.set_cons_succ]
        refine quiet_skip hL9 (by kernel_rfl) (fun L9 hL9 => ?_)
        try simp only [Act.put, List.setIfInBounds_toArray, List.set_cons_zero, List.set_cons_succ]
        refine quiet_skip hL9 (by kernel_rfl) (fun L9 hL9 => ?_)
        try simp only [Act.put, List.setIfInBounds_toArray, List.set_cons_zero, List.set_cons_succ]
        refine quiet_skip hL9 (by kernel_rfl) (fun L9 hL9 => ?_)
        try simp only [Act.put, List.setIfInBounds_toArray, List.set_cons_zero, List.set_cons_succ]
        refine quiet_skip hL9 (by kernel_rfl) (fun L9 hL9 => ?_)
        try simp only [Act.put, List.setIfInBounds_toArray, List.set_cons_zero, List.set_cons_succ]
        refine quiet_skip hL9 (by kernel_rfl) (fun L9 hL9 => ?_)
        try simp only [Act.put, List.setIfInBounds_toArray, List.set_cons_zero, List.set_cons_succ]
        refine quiet_nil hL9 ?_
        clear hL9
        intro wy hOy
        have HF := Lib.hid (HN.out rfl)
        have hOz := HO0.out.trans (HO.out.trans hOy)
        go_wp2
        go_ret
        exact ⟨by rw [HF.out]; rfl, hOz⟩
      | true =>
        by_cases h3 : xk = 3
        · have HE3 : Hid ((xk == 3) = true) := Lib.hid (by simp [h3])
          have e3 := HE3.out
          rw [e3] at HJ2 HN
          clear e3 h3
          refine region_keep_tail (fun wq => On wr wq) 25 (by kernel_rfl) (by kernel_rfl) (On.refl HO.out.tab).drew ?_
          simp only [List.take_succ_cons, List.take_zero, List.drop_succ_cons, List.drop_zero]
          refine quiet_start fun L9 hL9 => ?_
          refine quiet_take (v := syA S H) hL9 (by kernel_rfl) (fun wq hwq => ?by0) (fun L9 hL9 => ?br0)
          case by0 => (obtain ⟨s0, s1, s2, s3, s4, s5, s6, s7⟩ := HSY.out wq hwq; go_simp; try with_reducible rfl)
          try simp only [Act.put, List.setIfInBounds_toArray, List.set_cons_zero, List.set_cons_succ]
          refine quiet_take (v := ?bv1) hL9 (by kernel_rfl) (fun wq hwq => ?by1) (fun L9 hL9 => ?br1)
          case by1 => (go_simp; try with_reducible rfl)
          try simp only [Act.put, List.setIfInBounds_toArray, List.set_cons_zero, List.set_cons_succ]
          refine quiet_take (v := ?bv2) hL9 (by kernel_rfl) (fun wq hwq => ?by2) (fun L9 hL9 => ?br2)
          case by2 => (go_simp; try with_reducible rfl)
          try simp only [Act.put, List.setIfInBounds_toArray, List.set_cons_zero, List.set_cons_succ]
          refine quiet_take (v := ?bv3) hL9 (by kernel_rfl) (fun wq hwq => ?by3) (fun L9 hL9 => ?br3)
          case by3 => (go_simp; try with_reducible rfl)
          try simp only [Act.put, List.setIfInBounds_toArray, List.set_cons_zero, List.set_cons_succ]
          refine quiet_take (v := .agg #[.int .u8 xk, .int .i64 xi]) hL9 (by kernel_rfl) (fun wq hwq => ?by4) (fun L9 hL9 => ?br4)
          case by4 => (obtain ⟨z0, z1⟩ := HVX.out wq hwq; go_simp; try with_reducible rfl)
          try simp only [Act.put, List.setIfInBounds_toArray, List.set_cons_zero, List.set_cons_succ]
          refine quiet_take (v := .bool true) hL9 (by kernel_rfl) (fun wq hwq => ?by5) (fun L9 hL9 => ?br5)
          case by5 => (go_simp; go_at_call 152; exact HWI.out wq hwq)
          try simp only [Act.put, List.setIfInBounds_toArray, List.set_cons_zero, List.set_cons_succ]
          refine quiet_take (v := .bool false) hL9 (by kernel_rfl) (fun wq hwq => ?by6) (fun L9 hL9 => ?br6)
          case by6 => (go_simp; try with_reducible rfl)
          try simp only [Act.put, List.setIfInBounds_toArray, List.set_cons_zero, List.set_cons_succ]
          refine quiet_take (v := .bool false) hL9 (by kernel_rfl) (fun wq hwq => ?by7) (fun L9 hL9 => ?br7)
          case by7 => (go_simp; try with_reducible rfl)
          try simp only [Act.put, List.setIfInBounds_toArray, List.set_cons_zero, List.set_cons_succ]
          refine quiet_take (v := ?bv8) hL9 (by kernel_rfl) (fun wq hwq => ?by8) (fun L9 hL9 => ?br8)
          case by8 => (go_simp; try with_reducible rfl)
          try simp only [Act.put, List.setIfInBounds_toArray, List.set_cons_zero, List.set_cons_succ]
          refine quiet_take (v := ?bv9) hL9 (by kernel_rfl) (fun wq hwq => ?by9) (fun L9 hL9 => ?br9)
          case by9 => (go_simp; try with_reducible rfl)
          try simp only [Act.put, List.setIfInBounds_toArray, List.set_cons_zero, List.set_cons_succ]
          refine quiet_take (v := ?bv10) hL9 (by kernel_rfl) (fun wq hwq => ?by10) (fun L9 hL9 => ?br10)
          case by10 => (go_simp; try with_reducible rfl)
          try simp only [Act.put, List.setIfInBounds_toArray, List.set_cons_zero, List.set_cons_succ]
          refine quiet_take (v := ?bv11) hL9 (by kernel_rfl) (fun wq hwq => ?by11) (fun L9 hL9 => ?br11)
          case by11 => (go_simp; try with_reducible rfl)
          try simp only [Act.put, List.setIfInBounds_toArray, List.set_cons_zero, List.set_cons_succ]
          refine quiet_take (v := .int .u8 xk) hL9 (by kernel_rfl) (fun wq hwq => ?by12) (fun L9 hL9 => ?br12)
          case by12 => (obtain ⟨z0, z1⟩ := HVX.out wq hwq; go_simp; try with_reducible rfl)
          try simp only [Act.put, List.setIfInBounds_toArray, List.set_cons_zero, List.set_cons_succ]
          refine quiet_take (v := .bool false) hL9 (by kernel_rfl) (fun wq hwq => ?by13) (fun L9 hL9 => ?br13)
          case by13 => (have h1 := HE3.out; go_simp; first | with_reducible rfl | exact h1 | (simpa using h1) | (simp only [beq_iff_eq] at h1; exact h1) | (intro h2; rw [h2] at h1; exact absurd h1 (by decide)))
          try simp only [Act.put, List.setIfInBounds_toArray, List.set_cons_zero, List.set_cons_succ]
          refine quiet_take (v := .bool false) hL9 (by kernel_rfl) (fun wq hwq => ?by14) (fun L9 hL9 => ?br14)
          case by14 => (go_simp; try with_reducible rfl)
          try simp only [Act.put, List.setIfInBounds_toArray, List.set_cons_zero, List.set_cons_succ]
          refine quiet_skip hL9 (by kernel_rfl) (fun L9 hL9 => ?_)
          try simp only [Act.put, List.setIfInBounds_toArray, List.set_cons_zero, List.set_cons_succ]
          refine quiet_skip hL9 (by kernel_rfl) (fun L9 hL9 => ?_)
          try simp only [Act.put, List.setIfInBounds_toArray, List.set_cons_zero, List.set_cons_succ]
          refine quiet_skip hL9 (by kernel_rfl) (fun L9 hL9 => ?_)
          try simp only [Act.put, List.setIfInBounds_toArray, List.set_cons_zero, List.set_cons_succ]
          refine quiet_skip hL9 (by kernel_rfl) (fun L9 hL9 => ?_)
          try simp only [Act.put, List.setIfInBounds_toArray, List.set_cons_zero, List.set_cons_succ]
          refine quiet_skip hL9 (by kernel_rfl) (fun L9 hL9 => ?_)
          try simp only [Act.put, List.setIfInBounds_toArray, List.set_cons_zero, List.set_cons_succ]
          refine quiet_skip hL9 (by kernel_rfl) (fun L9 hL9 => ?_)
          try simp only [Act.put, List.setIfInBounds_toArray, List.set_cons_zero, List.set_cons_succ]
          refine quiet_skip hL9 (by kernel_rfl) (fun L9 hL9 => ?_)
          try simp only [Act.put, List.setIfInBounds_toArray, List.set_cons_zero, List.set_cons_succ]
          refine quiet_skip hL9 (by kernel_rfl) (fun L9 hL9 => ?_)
          try simp only [Act.put, List.setIfInBounds_toArray, List.set_cons_zero, List.set_cons_succ]
          refine quiet_skip hL9 (by kernel_rfl) (fun L9 hL9 => ?_)
          try simp only [Act.put, List.setIfInBounds_toArray, List.set_cons_zero, List.set_cons_succ]
          refine quiet_take (v := .bool false) hL9 (by kernel_rfl) (fun wq hwq => ?by24) (fun L9 hL9 => ?br24)
          case by24 => (go_simp; try with_reducible rfl)
          try simp only [Act.put, List.setIfInBounds_toArray, List.set_cons_zero, List.set_cons_succ]
          refine quiet_nil hL9 ?_
          clear hL9
          intro wy hOy
          have HF := Lib.hid (HJ2.out rfl)
          have hOz := Lib.hid (HO.out.trans hOy)
          clear hOy
          go_wp2
          go_roundw
          case rel => exact ⟨i + 1, by omega, by simp, HF, hOz⟩
          case measure => simp [intOf]; omega
        · have HE3 : Hid ((xk == 3) = false) := Lib.hid (beq_no h3)
          have e3 := HE3.out
          rw [e3] at HJ2 HN
          clear e3 h3
          cases fx with
          | true =>
            refine region_keep_tail (fun wq => On wr wq) 25 (by kernel_rfl) (by kernel_rfl) (On.refl HO.out.tab).drew ?_
            simp only [List.take_succ_cons, List.take_zero, List.drop_succ_cons, List.drop_zero]
            refine quiet_start fun L9 hL9 => ?_
            refine quiet_take (v := syA S H) hL9 (by kernel_rfl) (fun wq hwq => ?cy0) (fun L9 hL9 => ?cr0)
            case cy0 => (obtain ⟨s0, s1, s2, s3, s4, s5, s6, s7⟩ := HSY.out wq hwq; go_simp; try with_reducible rfl)
            try simp only [Act.put, List.setIfInBounds_toArray, List.set_cons_zero, List.set_cons_succ]
            refine quiet_take (v := ?cv1) hL9 (by kernel_rfl) (fun wq hwq => ?cy1) (fun L9 hL9 => ?cr1)
            case cy1 => (go_simp; try with_reducible rfl)
            try simp only [Act.put, List.setIfInBounds_toArray, List.set_cons_zero, List.set_cons_succ]
            refine quiet_take (v := ?cv2) hL9 (by kernel_rfl) (fun wq hwq => ?cy2) (fun L9 hL9 => ?cr2)
            case cy2 => (go_simp; try with_reducible rfl)
            try simp only [Act.put, List.setIfInBounds_toArray, List.set_cons_zero, List.set_cons_succ]
            refine quiet_take (v := ?cv3) hL9 (by kernel_rfl) (fun wq hwq => ?cy3) (fun L9 hL9 => ?cr3)
            case cy3 => (go_simp; try with_reducible rfl)
            try simp only [Act.put, List.setIfInBounds_toArray, List.set_cons_zero, List.set_cons_succ]
            refine quiet_take (v := .agg #[.int .u8 xk, .int .i64 xi]) hL9 (by kernel_rfl) (fun wq hwq => ?cy4) (fun L9 hL9 => ?cr4)
            case cy4 => (obtain ⟨z0, z1⟩ := HVX.out wq hwq; go_simp; try with_reducible rfl)
            try simp only [Act.put, List.setIfInBounds_toArray, List.set_cons_zero, List.set_cons_succ]
            refine quiet_take (v := .bool true) hL9 (by kernel_rfl) (fun wq hwq => ?cy5) (fun L9 hL9 => ?cr5)
            case cy5 => (go_simp; go_at_call 152; exact HWI.out wq hwq)
            try simp only [Act.put, List.setIfInBounds_toArray, List.set_cons_zero, List.set_cons_succ]
            refine quiet_take (v := .bool false) hL9 (by kernel_rfl) (fun wq hwq => ?cy6) (fun L9 hL9 => ?cr6)
            case cy6 => (go_simp; try with_reducible rfl)
            try simp only [Act.put, List.setIfInBounds_toArray, List.set_cons_zero, List.set_cons_succ]
            refine quiet_take (v := .bool false) hL9 (by kernel_rfl) (fun wq hwq => ?cy7) (fun L9 hL9 => ?cr7)
            case cy7 => (go_simp; try with_reducible rfl)
            try simp only [Act.put, List.setIfInBounds_toArray, List.set_cons_zero, List.set_cons_succ]
            refine quiet_take (v := ?cv8) hL9 (by kernel_rfl) (fun wq hwq => ?cy8) (fun L9 hL9 => ?cr8)
            case cy8 => (go_simp; try with_reducible rfl)
            try simp only [Act.put, List.setIfInBounds_toArray, List.set_cons_zero, List.set_cons_succ]
            refine quiet_take (v := ?cv9) hL9 (by kernel_rfl) (fun wq hwq => ?cy9) (fun L9 hL9 => ?cr9)
            case cy9 => (go_simp; try with_reducible rfl)
            try simp only [Act.put, List.setIfInBounds_toArray, List.set_cons_zero, List.set_cons_succ]
            refine quiet_take (v := ?cv10) hL9 (by kernel_rfl) (fun wq hwq => ?cy10) (fun L9 hL9 => ?cr10)
            case cy10 => (go_simp; try with_reducible rfl)
            try simp only [Act.put, List.setIfInBounds_toArray, List.set_cons_zero, List.set_cons_succ]
            refine quiet_take (v := ?cv11) hL9 (by kernel_rfl) (fun wq hwq => ?cy11) (fun L9 hL9 => ?cr11)
            case cy11 => (go_simp; try with_reducible rfl)
            try simp only [Act.put, List.setIfInBounds_toArray, List.set_cons_zero, List.set_cons_succ]
            refine quiet_take (v := .int .u8 xk) hL9 (by kernel_rfl) (fun wq hwq => ?cy12) (fun L9 hL9 => ?cr12)
            case cy12 => (obtain ⟨z0, z1⟩ := HVX.out wq hwq; go_simp; try with_reducible rfl)
            try simp only [Act.put, List.setIfInBounds_toArray, List.set_cons_zero, List.set_cons_succ]
            refine quiet_take (v := .bool true) hL9 (by kernel_rfl) (fun wq hwq => ?cy13) (fun L9 hL9 => ?cr13)
            case cy13 => (have h1 := HE3.out; go_simp; first | with_reducible rfl | exact h1 | (simpa using h1) | (simp only [beq_iff_eq] at h1; exact h1) | (intro h2; rw [h2] at h1; exact absurd h1 (by decide)))
            try simp only [Act.put, List.setIfInBounds_toArray, List.set_cons_zero, List.set_cons_succ]
            refine quiet_take (v := .bool true) hL9 (by kernel_rfl) (fun wq hwq => ?cy14) (fun L9 hL9 => ?cr14)
            case cy14 => (go_simp; try with_reducible rfl)
            try simp only [Act.put, List.setIfInBounds_toArray, List.set_cons_zero, List.set_cons_succ]
            refine quiet_take (v := .bool true) hL9 (by kernel_rfl) (fun wq hwq => ?cy15) (fun L9 hL9 => ?cr15)
            case cy15 => (go_simp; try with_reducible rfl)
            try simp only [Act.put, List.setIfInBounds_toArray, List.set_cons_zero, List.set_cons_succ]
            refine quiet_take (v := .bool true) hL9 (by kernel_rfl) (fun wq hwq => ?cy16) (fun L9 hL9 => ?cr16)
            case cy16 => (go_simp; try with_reducible rfl)
            try simp only [Act.put, List.setIfInBounds_toArray, List.set_cons_zero, List.set_cons_succ]
            refine quiet_skip hL9 (by kernel_rfl) (fun L9 hL9 => ?_)
            try simp only [Act.put, List.setIfInBounds_toArray, List.set_cons_zero, List.set_cons_succ]
            refine quiet_skip hL9 (by kernel_rfl) (fun L9 hL9 => ?_)
            try simp only [Act.put, List.setIfInBounds_toArray, List.set_cons_zero, List.set_cons_succ]
            refine quiet_skip hL9 (by kernel_rfl) (fun L9 hL9 => ?_)
            try simp only [Act.put, List.setIfInBounds_toArray, List.set_cons_zero, List.set_cons_succ]
            refine quiet_skip hL9 (by kernel_rfl) (fun L9 hL9 => ?_)
            try simp only [Act.put, List.setIfInBounds_toArray, List.set_cons_zero, List.set_cons_succ]
            refine quiet_skip hL9 (by kernel_rfl) (fun L9 hL9 => ?_)
            try simp only [Act.put, List.setIfInBounds_toArray, List.set_cons_zero, List.set_cons_succ]
            refine quiet_skip hL9 (by kernel_rfl) (fun L9 hL9 => ?_)
            try simp only [Act.put, List.setIfInBounds_toArray, List.set_cons_zero, List.set_cons_succ]
            refine quiet_take (v := .bool true) hL9 (by kernel_rfl) (fun wq hwq => ?cy23) (fun L9 hL9 => ?cr23)
            case cy23 => (go_simp; try with_reducible rfl)
            try simp only [Act.put, List.setIfInBounds_toArray, List.set_cons_zero, List.set_cons_succ]
            refine quiet_take (v := .bool true) hL9 (by kernel_rfl) (fun wq hwq => ?cy24) (fun L9 hL9 => ?cr24)
            case cy24 => (go_simp; try with_reducible rfl)
            try simp only [Act.put, List.setIfInBounds_toArray, List.set_cons_zero, List.set_cons_succ]
            refine quiet_nil hL9 ?_
            clear hL9
            intro wy hOy
            have HF := Lib.hid (HN.out rfl)
            have hOz := HO0.out.trans (HO.out.trans hOy)
            go_wp2
            go_ret
            exact ⟨by rw [HF.out]; rfl, hOz⟩
          | false =>
            by_cases h1 : xk = 1
            · have HE1 : Hid ((xk == 1) = true) := Lib.hid (by simp [h1])
              have e3 := HE1.out
              rw [e3] at HJ2 HN
              clear e3 h1
              refine region_keep_tail (fun wq => On wr wq) 25 (by kernel_rfl) (by kernel_rfl) (On.refl HO.out.tab).drew ?_
              simp only [List.take_succ_cons, List.take_zero, List.drop_succ_cons, List.drop_zero]
              refine quiet_start fun L9 hL9 => ?_
              refine quiet_take (v := syA S H) hL9 (by kernel_rfl) (fun wq hwq => ?dy0) (fun L9 hL9 => ?dr0)
              case dy0 => (obtain ⟨s0, s1, s2, s3, s4, s5, s6, s7⟩ := HSY.out wq hwq; go_simp; try with_reducible rfl)
              try simp only [Act.put, List.setIfInBounds_toArray, List.set_cons_zero, List.set_cons_succ]
              refine quiet_take (v := ?dv1) hL9 (by kernel_rfl) (fun wq hwq => ?dy1) (fun L9 hL9 => ?dr1)
              case dy1 => (go_simp; try with_reducible rfl)
              try simp only [Act.put, List.setIfInBounds_toArray, List.set_cons_zero, List.set_cons_succ]
              refine quiet_take (v := ?dv2) hL9 (by kernel_rfl) (fun wq hwq => ?dy2) (fun L9 hL9 => ?dr2)
              case dy2 => (go_simp; try with_reducible rfl)
              try simp only [Act.put, List.setIfInBounds_toArray, List.set_cons_zero, List.set_cons_succ]
              refine quiet_take (v := ?dv3) hL9 (by kernel_rfl) (fun wq hwq => ?dy3) (fun L9 hL9 => ?dr3)
              case dy3 => (go_simp; try with_reducible rfl)
              try simp only [Act.put, List.setIfInBounds_toArray, List.set_cons_zero, List.set_cons_succ]
              refine quiet_take (v := .agg #[.int .u8 xk, .int .i64 xi]) hL9 (by kernel_rfl) (fun wq hwq => ?dy4) (fun L9 hL9 => ?dr4)
              case dy4 => (obtain ⟨z0, z1⟩ := HVX.out wq hwq; go_simp; try with_reducible rfl)
              try simp only [Act.put, List.setIfInBounds_toArray, List.set_cons_zero, List.set_cons_succ]
              refine quiet_take (v := .bool true) hL9 (by kernel_rfl) (fun wq hwq => ?dy5) (fun L9 hL9 => ?dr5)
              case dy5 => (go_simp; go_at_call 152; exact HWI.out wq hwq)
              try simp only [Act.put, List.setIfInBounds_toArray, List.set_cons_zero, List.set_cons_succ]
              refine quiet_take (v := .bool false) hL9 (by kernel_rfl) (fun wq hwq => ?dy6) (fun L9 hL9 => ?dr6)
              case dy6 => (go_simp; try with_reducible rfl)
              try simp only [Act.put, List.setIfInBounds_toArray, List.set_cons_zero, List.set_cons_succ]
              refine quiet_take (v := .bool false) hL9 (by kernel_rfl) (fun wq hwq => ?dy7) (fun L9 hL9 => ?dr7)
              case dy7 => (go_simp; try with_reducible rfl)
              try simp only [Act.put, List.setIfInBounds_toArray, List.set_cons_zero, List.set_cons_succ]
              refine quiet_take (v := ?dv8) hL9 (by kernel_rfl) (fun wq hwq => ?dy8) (fun L9 hL9 => ?dr8)
              case dy8 => (go_simp; try with_reducible rfl)
              try simp only [Act.put, List.setIfInBounds_toArray, List.set_cons_zero, List.set_cons_succ]
              refine quiet_take (v := ?dv9) hL9 (by kernel_rfl) (fun wq hwq => ?dy9) (fun L9 hL9 => ?dr9)
              case dy9 => (go_simp; try with_reducible rfl)
              try simp only [Act.put, List.setIfInBounds_toArray, List.set_cons_zero, List.set_cons_succ]
              refine quiet_take (v := ?dv10) hL9 (by kernel_rfl) (fun wq hwq => ?dy10) (fun L9 hL9 => ?dr10)
              case dy10 => (go_simp; try with_reducible rfl)
              try simp only [Act.put, List.setIfInBounds_toArray, List.set_cons_zero, List.set_cons_succ]
              refine quiet_take (v := ?dv11) hL9 (by kernel_rfl) (fun wq hwq => ?dy11) (fun L9 hL9 => ?dr11)
              case dy11 => (go_simp; try with_reducible rfl)
              try simp only [Act.put, List.setIfInBounds_toArray, List.set_cons_zero, List.set_cons_succ]
              refine quiet_take (v := .int .u8 xk) hL9 (by kernel_rfl) (fun wq hwq => ?dy12) (fun L9 hL9 => ?dr12)
              case dy12 => (obtain ⟨z0, z1⟩ := HVX.out wq hwq; go_simp; try with_reducible rfl)
              try simp only [Act.put, List.setIfInBounds_toArray, List.set_cons_zero, List.set_cons_succ]
              refine quiet_take (v := .bool true) hL9 (by kernel_rfl) (fun wq hwq => ?dy13) (fun L9 hL9 => ?dr13)
              case dy13 => (have h1 := HE3.out; go_simp; first | with_reducible rfl | exact h1 | (simpa using h1) | (simp only [beq_iff_eq] at h1; exact h1) | (intro h2; rw [h2] at h1; exact absurd h1 (by decide)))
              try simp only [Act.put, List.setIfInBounds_toArray, List.set_cons_zero, List.set_cons_succ]
              refine quiet_take (v := .bool true) hL9 (by kernel_rfl) (fun wq hwq => ?dy14) (fun L9 hL9 => ?dr14)
              case dy14 => (go_simp; try with_reducible rfl)
              try simp only [Act.put, List.setIfInBounds_toArray, List.set_cons_zero, List.set_cons_succ]
              refine quiet_take (v := .bool false) hL9 (by kernel_rfl) (fun wq hwq => ?dy15) (fun L9 hL9 => ?dr15)
              case dy15 => (go_simp; try with_reducible rfl)
              try simp only [Act.put, List.setIfInBounds_toArray, List.set_cons_zero, List.set_cons_succ]
              refine quiet_take (v := .bool false) hL9 (by kernel_rfl) (fun wq hwq => ?dy16) (fun L9 hL9 => ?dr16)
              case dy16 => (go_simp; try with_reducible rfl)
              try simp only [Act.put, List.setIfInBounds_toArray, List.set_cons_zero, List.set_cons_succ]
              refine quiet_take (v := ?dv17) hL9 (by kernel_rfl) (fun wq hwq => ?dy17) (fun L9 hL9 => ?dr17)
              case dy17 => (go_simp; try with_reducible rfl)
              try simp only [Act.put, List.setIfInBounds_toArray, List.set_cons_zero, List.set_cons_succ]
              refine quiet_take (v := ?dv18) hL9 (by kernel_rfl) (fun wq hwq => ?dy18) (fun L9 hL9 => ?dr18)
              case dy18 => (go_simp; try with_reducible rfl)
              try simp only [Act.put, List.setIfInBounds_toArray, List.set_cons_zero, List.set_cons_succ]
              refine quiet_take (v := ?dv19) hL9 (by kernel_rfl) (fun wq hwq => ?dy19) (fun L9 hL9 => ?dr19)
              case dy19 => (go_simp; try with_reducible rfl)
              try simp only [Act.put, List.setIfInBounds_toArray, List.set_cons_zero, List.set_cons_succ]
              refine quiet_take (v := ?dv20) hL9 (by kernel_rfl) (fun wq hwq => ?dy20) (fun L9 hL9 => ?dr20)
              case dy20 => (go_simp; try with_reducible rfl)
              try simp only [Act.put, List.setIfInBounds_toArray, List.set_cons_zero, List.set_cons_succ]
              refine quiet_take (v := .int .u8 xk) hL9 (by kernel_rfl) (fun wq hwq => ?dy21) (fun L9 hL9 => ?dr21)
              case dy21 => (obtain ⟨z0, z1⟩ := HVX.out wq hwq; go_simp; try with_reducible rfl)
              try simp only [Act.put, List.setIfInBounds_toArray, List.set_cons_zero, List.set_cons_succ]
              refine quiet_take (v := .bool false) hL9 (by kernel_rfl) (fun wq hwq => ?dy22) (fun L9 hL9 => ?dr22)
              case dy22 => (have h1 := HE1.out; go_simp; first | with_reducible rfl | exact h1 | (simpa using h1) | (simp only [beq_iff_eq] at h1; exact h1) | (intro h2; rw [h2] at h1; exact absurd h1 (by decide)))
              try simp only [Act.put, List.setIfInBounds_toArray, List.set_cons_zero, List.set_cons_succ]
              refine quiet_take (v := .bool false) hL9 (by kernel_rfl) (fun wq hwq => ?dy23) (fun L9 hL9 => ?dr23)
              case dy23 => (go_simp; try with_reducible rfl)
              try simp only [Act.put, List.setIfInBounds_toArray, List.set_cons_zero, List.set_cons_succ]
              refine quiet_take (v := .bool false) hL9 (by kernel_rfl) (fun wq hwq => ?dy24) (fun L9 hL9 => ?dr24)
              case dy24 => (go_simp; try with_reducible rfl)
              try simp only [Act.put, List.setIfInBounds_toArray, List.set_cons_zero, List.set_cons_succ]
              refine quiet_nil hL9 ?_
              clear hL9
              intro wy hOy
              have HF := Lib.hid (HJ2.out rfl)
              have hOz := Lib.hid (HO.out.trans hOy)
              clear hOy
              go_wp2
              go_roundw
              case rel => exact ⟨i + 1, by omega, by simp, HF, hOz⟩
              case measure => simp [intOf]; omega
            · have HE1 : Hid ((xk == 1) = false) := Lib.hid (beq_no h1)
              have e3 := HE1.out
              rw [e3] at HJ2 HN
              clear e3 h1
              refine region_keep_tail (fun wq => On wr wq) 25 (by kernel_rfl) (by kernel_rfl) (On.refl HO.out.tab).drew ?_
              simp only [List.take_succ_cons, List.take_zero, List.drop_succ_cons, List.drop_zero]
              refine quiet_start fun L9 hL9 => ?_
              refine quiet_take (v := syA S H) hL9 (by kernel_rfl) (fun wq hwq => ?ey0) (fun L9 hL9 => ?er0)
              case ey0 => (obtain ⟨s0, s1, s2, s3, s4, s5, s6, s7⟩ := HSY.out wq hwq; go_simp; try with_reducible rfl)
              try simp only [Act.put, List.setIfInBounds_toArray, List.set_cons_zero, List.set_cons_succ]
              refine quiet_take (v := ?ev1) hL9 (by kernel_rfl) (fun wq hwq => ?ey1) (fun L9 hL9 => ?er1)
              case ey1 => (go_simp; try with_reducible rfl)
              try simp only [Act.put, List.setIfInBounds_toArray, List.set_cons_zero, List.set_cons_succ]
              refine quiet_take (v := ?ev2) hL9 (by kernel_rfl) (fun wq hwq => ?ey2) (fun L9 hL9 => ?er2)
              case ey2 => (go_simp; try with_reducible rfl)
              try simp only [Act.put, List.setIfInBounds_toArray, List.set_cons_zero, List.set_cons_succ]
              refine quiet_take (v := ?ev3) hL9 (by kernel_rfl) (fun wq hwq => ?ey3) (fun L9 hL9 => ?er3)
              case ey3 => (go_simp; try with_reducible rfl)
              try simp only [Act.put, List.setIfInBounds_toArray, List.set_cons_zero, List.set_cons_succ]
              refine quiet_take (v := .agg #[.int .u8 xk, .int .i64 xi]) hL9 (by kernel_rfl) (fun wq hwq => ?ey4) (fun L9 hL9 => ?er4)
              case ey4 => (obtain ⟨z0, z1⟩ := HVX.out wq hwq; go_simp; try with_reducible rfl)
              try simp only [Act.put, List.setIfInBounds_toArray, List.set_cons_zero, List.set_cons_succ]
              refine quiet_take (v := .bool true) hL9 (by kernel_rfl) (fun wq hwq => ?ey5) (fun L9 hL9 => ?er5)
              case ey5 => (go_simp; go_at_call 152; exact HWI.out wq hwq)
              try simp only [Act.put, List.setIfInBounds_toArray, List.set_cons_zero, List.set_cons_succ]
              refine quiet_take (v := .bool false) hL9 (by kernel_rfl) (fun wq hwq => ?ey6) (fun L9 hL9 => ?er6)
              case ey6 => (go_simp; try with_reducible rfl)
              try simp only [Act.put, List.setIfInBounds_toArray, List.set_cons_zero, List.set_cons_succ]
              refine quiet_take (v := .bool false) hL9 (by kernel_rfl) (fun wq hwq => ?ey7) (fun L9 hL9 => ?er7)
              case ey7 => (go_simp; try with_reducible rfl)
              try simp only [Act.put, List.setIfInBounds_toArray, List.set_cons_zero, List.set_cons_succ]
              refine quiet_take (v := ?ev8) hL9 (by kernel_rfl) (fun wq hwq => ?ey8) (fun L9 hL9 => ?er8)
              case ey8 => (go_simp; try with_reducible rfl)
              try simp only [Act.put, List.setIfInBounds_toArray, List.set_cons_zero, List.set_cons_succ]
              refine quiet_take (v := ?ev9) hL9 (by kernel_rfl) (fun wq hwq => ?ey9) (fun L9 hL9 => ?er9)
              case ey9 => (go_simp; try with_reducible rfl)
              try simp only [Act.put, List.setIfInBounds_toArray, List.set_cons_zero, List.set_cons_succ]
              refine quiet_take (v := ?ev10) hL9 (by kernel_rfl) (fun wq hwq => ?ey10) (fun L9 hL9 => ?er10)
              case ey10 => (go_simp; try with_reducible rfl)
              try simp only [Act.put, List.setIfInBounds_toArray, List.set_cons_zero, List.set_cons_succ]
              refine quiet_take (v := ?ev11) hL9 (by kernel_rfl) (fun wq hwq => ?ey11) (fun L9 hL9 => ?er11)
              case ey11 => (go_simp; try with_reducible rfl)
              try simp only [Act.put, List.setIfInBounds_toArray, List.set_cons_zero, List.set_cons_succ]
              refine quiet_take (v := .int .u8 xk) hL9 (by kernel_rfl) (fun wq hwq => ?ey12) (fun L9 hL9 => ?er12)
              case ey12 => (obtain ⟨z0, z1⟩ := HVX.out wq hwq; go_simp; try with_reducible rfl)
              try simp only [Act.put, List.setIfInBounds_toArray, List.set_cons_zero, List.set_cons_succ]
              refine quiet_take (v := .bool true) hL9 (by kernel_rfl) (fun wq hwq => ?ey13) (fun L9 hL9 => ?er13)
              case ey13 => (have h1 := HE3.out; go_simp; first | with_reducible rfl | exact h1 | (simpa using h1) | (simp only [beq_iff_eq] at h1; exact h1) | (intro h2; rw [h2] at h1; exact absurd h1 (by decide)))
              try simp only [Act.put, List.setIfInBounds_toArray, List.set_cons_zero, List.set_cons_succ]
              refine quiet_take (v := .bool true) hL9 (by kernel_rfl) (fun wq hwq => ?ey14) (fun L9 hL9 => ?er14)
              case ey14 => (go_simp; try with_reducible rfl)
              try simp only [Act.put, List.setIfInBounds_toArray, List.set_cons_zero, List.set_cons_succ]
              refine quiet_take (v := .bool false) hL9 (by kernel_rfl) (fun wq hwq => ?ey15) (fun L9 hL9 => ?er15)
              case ey15 => (go_simp; try with_reducible rfl)
              try simp only [Act.put, List.setIfInBounds_toArray, List.set_cons_zero, List.set_cons_succ]
              refine quiet_take (v := .bool false) hL9 (by kernel_rfl) (fun wq hwq => ?ey16) (fun L9 hL9 => ?er16)
              case ey16 => (go_simp; try with_reducible rfl)
              try simp only [Act.put, List.setIfInBounds_toArray, List.set_cons_zero, List.set_cons_succ]
              refine quiet_take (v := ?ev17) hL9 (by kernel_rfl) (fun wq hwq => ?ey17) (fun L9 hL9 => ?er17)
              case ey17 => (go_simp; try with_reducible rfl)
              try simp only [Act.put, List.setIfInBounds_toArray, List.set_cons_zero, List.set_cons_succ]
              refine quiet_take (v := ?ev18) hL9 (by kernel_rfl) (fun wq hwq => ?ey18) (fun L9 hL9 => ?er18)
              case ey18 => (go_simp; try with_reducible rfl)
              try simp only [Act.put, List.setIfInBounds_toArray, List.set_cons_zero, List.set_cons_succ]
              refine quiet_take (v := ?ev19) hL9 (by kernel_rfl) (fun wq hwq => ?ey19) (fun L9 hL9 => ?er19)
              case ey19 => (go_simp; try with_reducible rfl)
              try simp only [Act.put, List.setIfInBounds_toArray, List.set_cons_zero, List.set_cons_succ]
              refine quiet_take (v := ?ev20) hL9 (by kernel_rfl) (fun wq hwq => ?ey20) (fun L9 hL9 => ?er20)
              case ey20 => (go_simp; try with_reducible rfl)
              try simp only [Act.put, List.setIfInBounds_toArray, List.set_cons_zero, List.set_cons_succ]
              refine quiet_take (v := .int .u8 xk) hL9 (by kernel_rfl) (fun wq hwq => ?ey21) (fun L9 hL9 => ?er21)
              case ey21 => (obtain ⟨z0, z1⟩ := HVX.out wq hwq; go_simp; try with_reducible rfl)
              try simp only [Act.put, List.setIfInBounds_toArray, List.set_cons_zero, List.set_cons_succ]
              refine quiet_take (v := .bool true) hL9 (by kernel_rfl) (fun wq hwq => ?ey22) (fun L9 hL9 => ?er22)
              case ey22 => (have h1 := HE1.out; go_simp; first | with_reducible rfl | exact h1 | (simpa using h1) | (simp only [beq_iff_eq] at h1; exact h1) | (intro h2; rw [h2] at h1; exact absurd h1 (by decide)))
              try simp only [Act.put, List.setIfInBounds_toArray, List.set_cons_zero, List.set_cons_succ]
              refine quiet_take (v := .bool true) hL9 (by kernel_rfl) (fun wq hwq => ?ey23) (fun L9 hL9 => ?er23)
              case ey23 => (go_simp; try with_reducible rfl)
              try simp only [Act.put, List.setIfInBounds_toArray, List.set_cons_zero, List.set_cons_succ]
              refine quiet_take (v := .bool true) hL9 (by kernel_rfl) (fun wq hwq => ?ey24) (fun L9 hL9 => ?er24)
              case ey24 => (go_simp; try with_reducible rfl)
              try simp only [Act.put, List.setIfInBounds_toArray, List.set_cons_zero, List.set_cons_succ]
              refine quiet_nil hL9 ?_
              clear hL9
              intro wy hOy
              have HF := Lib.hid (HN.out rfl)
              have hOz := HO0.out.trans (HO.out.trans hOy)
              go_wp2
              go_ret
              exact ⟨by rw [HF.out]; rfl, hOz⟩
    · obtain rfl : n = i := by omega
      have HG := Lib.hid (HYES.out HJ.out)
      have hOz := HO0.out.trans HO.out
      clear HJ
      go_wp2
      go_ret
      exact ⟨by rw [HG.out]; rfl, hOz⟩
end Go.Proofs.YtnanjacllmdenaaDoor
