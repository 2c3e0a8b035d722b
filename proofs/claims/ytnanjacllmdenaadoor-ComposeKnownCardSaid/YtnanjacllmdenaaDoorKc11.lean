/- Package system: number, within, has, validTuple, validLookup: what the calls return. -/
import Derived.Test.YtnanjacllmdenaaDoorKc05
import Derived.Test.YtnanjacllmdenaaDoorKc06
import Derived.Test.YtnanjacllmdenaaDoorKc08
import Derived.Test.YtnanjacllmdenaaDoorKc10
import Derived.Deep.DeepCutAuto
import Derived.Deep.QuietTactic
import Derived.BigQuiet
set_option linter.unusedSimpArgs false
set_option linter.unusedVariables false
/- Package system: number, within, has, validTuple, validLookup: what the calls return. -/
namespace Go.Proofs.YtnanjacllmdenaaDoor
open Go.RowKit
set_option linter.unusedVariables false

theorem kinds4 (k : Int) : k = 1 ∨ k = 2 ∨ k = 3 ∨ k = 4 ∨ (k ≠ 1 ∧ k ≠ 2 ∧ k ≠ 3 ∧ k ≠ 4) := by omega
set_option maxRecDepth 100000 in
theorem number_any (S : Sy) (H : Sh) (k : Int) (w : World) (hT : Tab w) : Calls Tryd.prog 162 #[syA S H, .int .u8 k] w fun e w' => e = .returned (.int .i64 (numK S k)) ∧ On w w' := by
  have HO : Hid (On w (w.alloc (syO S H))) := (On.refl hT).alloc _
  clear hT
  rcases kinds4 k with rfl | rfl | rfl | rfl | h
  · go_enter Tryd.func162, Tryd.ntmps162
    go_wp2
    go_ret
    exact ⟨by simp [numK], HO.out⟩
  · go_enter Tryd.func162, Tryd.ntmps162
    go_wp2
    go_ret
    exact ⟨by simp [numK], HO.out⟩
  · go_enter Tryd.func162, Tryd.ntmps162
    go_wp2
    go_ret
    exact ⟨by simp [numK], HO.out⟩
  · go_enter Tryd.func162, Tryd.ntmps162
    go_wp2
    go_ret
    exact ⟨by simp [numK], HO.out⟩
  obtain ⟨h1, h2, h3, h4⟩ := h
  have e1 := beq_no h1; have e2 := beq_no h2; have e3 := beq_no h3; have e4 := beq_no h4
  have e : numK S k = 0 := by simp [numK, h1, h2, h3, h4]
  rw [e]
  clear h1 h2 h3 h4 e
  go_enter Tryd.func162, Tryd.ntmps162
  go_wp2
  go_ret
  exact ⟨rfl, HO.out⟩
theorem within_any (n lo hi : Int) (w : World) : Calls Tryd.prog 144 #[.int .i64 n, .int .i64 lo, .int .i64 hi] w fun e w' => e = .returned (.bool (decide (lo ≤ n ∧ n ≤ hi))) ∧ w = w' := by
  by_cases h1 : lo ≤ n
  · have e : decide (lo ≤ n ∧ n ≤ hi) = decide (n ≤ hi) := by simp [h1]
    rw [e]; clear e
    go_enter Tryd.func144, Tryd.ntmps144
    go_wp2
    go_ret
    exact ⟨rfl, rfl⟩
  · have e : decide (lo ≤ n ∧ n ≤ hi) = false := by simp [h1]
    rw [e]; clear e
    go_enter Tryd.func144, Tryd.ntmps144
    go_wp2
    go_ret
    exact ⟨rfl, rfl⟩
theorem index_any (ks : List Int) (k : Int) (v : Value) (w : World) (hR : KdL w v ks) : Calls Tryd.prog 171 #[v, .int .u8 k] w fun e w' => (∃ z : Int, e = .returned (.int .i64 z) ∧ decide (0 ≤ z) = ks.contains k) ∧ w = w' := by
  obtain ⟨a, cap, rfl⟩ := hR.shape
  have HC := Lib.hid hR.cells
  have hL := hR.1
  clear hR
  have HNO : Hid ((∀ j, j < ks.length → ks.getD j 0 ≠ k) → decide ((0 : Int) ≤ -1) = ks.contains k) := fun h => by
    have : ks.contains k = false := by
      rw [Bool.eq_false_iff]; intro hc
      rw [List.contains_iff_mem] at hc
      obtain ⟨i, hi, e⟩ := List.getElem_of_mem hc
      exact h i hi (by rw [List.getD_eq_getElem?_getD, List.getElem?_eq_getElem hi]; exact e)
    rw [this]; rfl
  have HYES : Hid (∀ j : Nat, j < ks.length → ks.getD j 0 = k → decide ((0 : Int) ≤ (j : Int)) = ks.contains k) := fun j hj e => by
    have : ks.contains k = true := by
      rw [List.contains_iff_mem, ← e, List.getD_eq_getElem?_getD, List.getElem?_eq_getElem hj]; exact List.getElem_mem _
    rw [this]; exact decide_eq_true (by omega)
  generalize ks.contains k = CC at *
  generalize hn : ks.length = n at *
  clear hn
  go_enter Tryd.func171, Tryd.ntmps171
  go_wp2_with fail
  go_loopw [8] (fun vi wr => ∃ i : Nat, i ≤ n ∧ vi = .int .i64 (i : Int) ∧ Hid (∀ j, j < i → ks.getD j 0 ≠ k) ∧ w = wr) (fun vi _ => n - (intOf vi).toNat)
  case atStart => exact ⟨0, Nat.zero_le _, rfl, Lib.hid (fun j hj => absurd hj (Nat.not_lt_zero _)), rfl⟩
  case round =>
    rename World => wr
    obtain ⟨i, hi, rfl, HJ, rfl⟩ := hrel
    by_cases hlt : i < n
    · have hlt' : (i : Int) < (n : Int) := by omega
      obtain ⟨b, off, rfl, c0⟩ := HC.out i hlt
      simp only [RKd, Nat.mul_one] at c0
      by_cases hx : ks.getD i 0 = k
      · have HG := Lib.hid (HYES.out i hlt hx)
        rw [hx] at c0
        clear hx HJ
        go_wp2
        go_ret
        first | exact ⟨_, rfl, HG.out⟩ | exact ⟨⟨_, rfl, HG.out⟩, rfl⟩ | exact HG.out
      · have HG : Hid (∀ j, j < i + 1 → ks.getD j 0 ≠ k) := fun j hj => by
          by_cases e : j = i
          · rw [e]; exact hx
          · exact HJ.out j (by omega)
        generalize ks.getD i 0 = y at *
        have e1 : (k == y) = false := beq_no (fun e => hx e.symm)
        clear hx HJ
        go_wp2
        go_roundw
        case rel => exact ⟨i + 1, by omega, by simp, HG, trivial⟩
        case measure => simp [intOf]; omega
    · obtain rfl : n = i := by omega
      have HG := Lib.hid (HNO.out HJ.out)
      clear HJ
      go_wp2
      go_ret
      first | exact ⟨_, rfl, HG.out⟩ | exact ⟨⟨_, rfl, HG.out⟩, rfl⟩ | exact HG.out
theorem contains_any (ks : List Int) (k : Int) (v : Value) (w : World) (hR : KdL w v ks) : Calls Tryd.prog 163 #[v, .int .u8 k] w fun e w' => e = .returned (.bool (ks.contains k)) ∧ w = w' := by
  have HX := Lib.hid (index_any ks k v w hR)
  obtain ⟨a, cap, rfl⟩ := hR.shape
  clear hR
  generalize ks.length = n at *
  generalize ks.contains k = CC at *
  go_enter Tryd.func163, Tryd.ntmps163
  go_wp2_with (go_at_call 171; refine HX.out.mono ?_; rintro e w' ⟨⟨z, rfl, hz⟩, rfl⟩)
  go_ret
  exact ⟨by rw [← hz]; rfl, rfl⟩
theorem vb_newS (S : Sy) (H : Sh) (w : World) : VB w.heap.size (w.alloc (syO S H)) (syL S H) := vb_new w _ _
set_option maxHeartbeats 2000000 in
set_option maxRecDepth 100000 in
theorem has_any (S : Sy) (H : Sh) (vs : List Vr) (v : Value) (ks : List Int) (kv : Value) (w : World) (hT : Tab w) (hs : szS S = true) (hV : VRw w v vs) (hK : KdL w kv ks) :
    Calls Tryd.prog 147 #[syA S H, v, kv] w fun e w' => e = .returned (.bool (vs.all (hasK S ks))) ∧ On w w' := by
  obtain ⟨a, cap, rfl⟩ := hV.shape
  have HOK := Lib.hid hV.okD
  have hL := hV.2.1
  have HNB := Lib.hid (numK_bound hs)
  obtain ⟨W0, hW0⟩ : ∃ W0, W0 = w.alloc (syO S H) := ⟨_, rfl⟩
  have hO0 : On w W0 := by rw [hW0]; exact (On.refl hT).alloc _
  obtain ⟨Q, hQ⟩ : ∃ Q, Q = w.heap.size := ⟨_, rfl⟩
  have HB0 : Hid (VB Q W0 (syL S H)) := by rw [hW0, hQ]; exact Lib.hid (vb_newS S H w)
  have HV := Lib.hid hV.cells
  have HK := Lib.hid hK
  have HW0 := Lib.hid hW0; have HQ := Lib.hid hQ; have HO0 := Lib.hid hO0
  have HNO : Hid (∀ j, j < vs.length → hasK S ks (vs.getD j zV) = false → vs.all (hasK S ks) = false) := fun j hj h => all_no _ zV vs j hj h
  have HYES : Hid ((∀ j, j < vs.length → hasK S ks (vs.getD j zV) = true) → vs.all (hasK S ks) = true) := fun h => (all_getD _ zV vs).2 h
  generalize vs.all (hasK S ks) = RR at *
  generalize hn : vs.length = n at *
  clear hn hT hs hV hK hW0 hQ hO0
  go_enter Tryd.func147, Tryd.ntmps147
  go_upto_region 1 with fail
  rw [← HW0.out, ← HQ.out]
  go_wp2_with fail
  go_loopw [11] (fun vi wr => ∃ i : Nat, i ≤ n ∧ vi = .int .i64 (i : Int) ∧ Hid (∀ j, j < i → hasK S ks (vs.getD j zV) = true) ∧ Hid (On W0 wr)) (fun vi _ => n - (intOf vi).toNat)
  case atStart => exact ⟨0, Nat.zero_le _, rfl, Lib.hid (fun j hj => absurd hj (Nat.not_lt_zero _)), Lib.hid (On.refl HO0.out.tab)⟩
  case round =>
    rename World => wr
    obtain ⟨i, hi, rfl, HJ, HO⟩ := hrel
    by_cases hlt : i < n
    · have hlt' : (i : Int) < (n : Int) := by omega
      obtain ⟨b, off, rfl, d0, d1⟩ := HV.out i hlt
      have c0 := cell_on (HO0.out.trans HO.out) d0
      have c1 := cell_on (HO0.out.trans HO.out) d1
      have HX := Lib.hid (HOK.out i)
      have HJ2 : Hid (hasK S ks (vs.getD i zV) = true → ∀ j, j < i + 1 → hasK S ks (vs.getD j zV) = true) := fun h j hj => by
        by_cases e : j = i
        · rw [e]; exact h
        · exact HJ.out j (by omega)
      have HN := Lib.hid (HNO.out i hlt)
      clear d0 d1 HJ
      generalize vs.getD i zV = x at *
      obtain ⟨xk, xi⟩ := x
      simp only at c0 c1
      obtain ⟨N, hN⟩ : ∃ N, N = numK S xk := ⟨_, rfl⟩
      have hNb := HNB.out xk
      rw [← hN] at hNb
      go_upto_region 4 with fail
      obtain ⟨u, hu⟩ : ∃ u, u = wr.alloc (.cells #[.int .u8 xk, .int .i64 xi] 52) := ⟨_, rfl⟩
      obtain ⟨X, hX⟩ : ∃ X, X = wr.heap.size := ⟨_, rfl⟩
      rw [← hu, ← hX]
      have HU : Hid (On W0 u) := by rw [hu]; exact Lib.hid (HO.out.alloc _)
      have HBX : Hid (VB X u [.int .u8 xk, .int .i64 xi]) := by rw [hu, hX]; exact Lib.hid (vb_new wr _ _)
      have HVX : Hid (∀ wq, On u wq → wq.cell? ⟨X, 0, none⟩ = some (.int .u8 xk) ∧ wq.cell? ⟨X, 1, none⟩ = some (.int .i64 xi)) := fun wq h => ⟨(HBX.out.on h).2.1 0 _ rfl, (HBX.out.on h).2.1 1 _ rfl⟩
      have HSY : Hid (∀ wq, On u wq → _) := fun wq h => sy_cells ((HB0.out.on HU.out).on h)
      have HNUM : Hid (∀ wq, On u wq → Calls Tryd.prog 162 #[syA S H, .int .u8 xk] wq fun e w' => e = .returned (.int .i64 N) ∧ On u w') := fun wq h => by rw [hN]; exact (number_any S H xk wq h.tab).mono fun e w' ⟨he, ho⟩ => ⟨he, h.trans ho⟩
      have HCT0 : Hid (∀ wq, On u wq → Calls Tryd.prog 163 #[kv, .int .u8 xk] wq fun e w' => e = .returned (.bool (ks.contains xk)) ∧ On u w') := fun wq h => (contains_any ks xk kv wq (HK.out.on (HO0.out.trans (HU.out.trans h)))).mono fun e w' ⟨he, ho⟩ => ⟨he, ho ▸ h⟩
      have HWI0 : Hid (∀ wq, On u wq → Calls Tryd.prog 144 #[.int .i64 xi, .int .i64 0, .int .i64 (N - 1)] wq fun e w' => e = .returned (.bool (decide (0 ≤ xi ∧ xi ≤ N - 1))) ∧ On u w') := fun wq h => (within_any xi 0 (N - 1) wq).mono fun e w' ⟨he, ho⟩ => ⟨he, ho ▸ h⟩
      have HW : Hid (IntKind.i64.wrap (N - 1) = N - 1) := IntWalk.i64_in _ (by omega)
      have HHK : Hid (hasK S ks (xk, xi) = (decide (0 ≤ xi ∧ xi ≤ N - 1) && ks.contains xk)) := by
        unfold hasK hasV
        rw [← hN]
        show (decide (0 ≤ xi ∧ xi < N) && ks.contains xk) = _
        congr 1
        exact decide_eq_decide.2 (by omega)
      rw [HHK.out] at HJ2 HN
      clear hu hX hN hNb c0 c1 HX HBX
      clear HHK
      generalize ks.contains xk = CC at *
      generalize decide (0 ≤ xi ∧ xi ≤ N - 1) = II at *
      cases II with
      | false =>
        have HWI := HWI0
        refine region_keep_tail (fun wq => On u wq) 15 (by kernel_rfl) (by kernel_rfl) (On.refl HU.out.tab).drew ?_
        simp only [List.take_succ_cons, List.take_zero, List.drop_succ_cons, List.drop_zero]
        refine quiet_start fun L9 hL9 => ?_
        refine quiet_take (v := ?av0) hL9 (by kernel_rfl) (fun wq hwq => ?ay0) (fun L9 hL9 => ?ar0)
        case ay0 => (go_simp; try with_reducible rfl)
        try simp only [Act.put, List.setIfInBounds_toArray, List.set_cons_zero, List.set_cons_succ]
        refine quiet_take (v := .int .i64 xi) hL9 (by kernel_rfl) (fun wq hwq => ?ay1) (fun L9 hL9 => ?ar1)
        case ay1 => (obtain ⟨z0, z1⟩ := HVX.out wq hwq; go_simp; try with_reducible rfl)
        try simp only [Act.put, List.setIfInBounds_toArray, List.set_cons_zero, List.set_cons_succ]
        refine quiet_take (v := syA S H) hL9 (by kernel_rfl) (fun wq hwq => ?ay2) (fun L9 hL9 => ?ar2)
        case ay2 => (obtain ⟨x0, x1, x2, x3, x4, x5, x6, x7⟩ := HSY.out wq hwq; go_simp; try with_reducible rfl)
        try simp only [Act.put, List.setIfInBounds_toArray, List.set_cons_zero, List.set_cons_succ]
        refine quiet_take (v := ?av3) hL9 (by kernel_rfl) (fun wq hwq => ?ay3) (fun L9 hL9 => ?ar3)
        case ay3 => (go_simp; try with_reducible rfl)
        try simp only [Act.put, List.setIfInBounds_toArray, List.set_cons_zero, List.set_cons_succ]
        refine quiet_take (v := .int .u8 xk) hL9 (by kernel_rfl) (fun wq hwq => ?ay4) (fun L9 hL9 => ?ar4)
        case ay4 => (obtain ⟨z0, z1⟩ := HVX.out wq hwq; go_simp; try with_reducible rfl)
        try simp only [Act.put, List.setIfInBounds_toArray, List.set_cons_zero, List.set_cons_succ]
        refine quiet_take (v := .int .i64 N) hL9 (by kernel_rfl) (fun wq hwq => ?ay5) (fun L9 hL9 => ?ar5)
        case ay5 => (go_simp; go_at_call 162; exact HNUM.out wq hwq)
        try simp only [Act.put, List.setIfInBounds_toArray, List.set_cons_zero, List.set_cons_succ]
        refine quiet_take (v := .int .i64 (N - 1)) hL9 (by kernel_rfl) (fun wq hwq => ?ay6) (fun L9 hL9 => ?ar6)
        case ay6 => (have h1 := HW.out; go_simp; try with_reducible rfl; try simp [h1])
        try simp only [Act.put, List.setIfInBounds_toArray, List.set_cons_zero, List.set_cons_succ]
        refine quiet_take (v := .bool false) hL9 (by kernel_rfl) (fun wq hwq => ?ay7) (fun L9 hL9 => ?ar7)
        case ay7 => (go_simp; go_at_call 144; exact HWI.out wq hwq)
        try simp only [Act.put, List.setIfInBounds_toArray, List.set_cons_zero, List.set_cons_succ]
        refine quiet_take (v := .bool true) hL9 (by kernel_rfl) (fun wq hwq => ?ay8) (fun L9 hL9 => ?ar8)
        case ay8 => (go_simp; try with_reducible rfl)
        try simp only [Act.put, List.setIfInBounds_toArray, List.set_cons_zero, List.set_cons_succ]
        refine quiet_take (v := .bool true) hL9 (by kernel_rfl) (fun wq hwq => ?ay9) (fun L9 hL9 => ?ar9)
        case ay9 => (go_simp; try with_reducible rfl)
        try simp only [Act.put, List.setIfInBounds_toArray, List.set_cons_zero, List.set_cons_succ]
        refine quiet_skip hL9 (by kernel_rfl) (fun L9 hL9 => ?_)
        try simp only [Act.put, List.setIfInBounds_toArray, List.set_cons_zero, List.set_cons_succ]
        refine quiet_skip hL9 (by kernel_rfl) (fun L9 hL9 => ?_)
        try simp only [Act.put, List.setIfInBounds_toArray, List.set_cons_zero, List.set_cons_succ]
        refine quiet_skip hL9 (by kernel_rfl) (fun L9 hL9 => ?_)
        try simp only [Act.put, List.setIfInBounds_toArray, List.set_cons_zero, List.set_cons_succ]
        refine quiet_skip hL9 (by kernel_rfl) (fun L9 hL9 => ?_)
        try simp only [Act.put, List.setIfInBounds_toArray, List.set_cons_zero, List.set_cons_succ]
        refine quiet_skip hL9 (by kernel_rfl) (fun L9 hL9 => ?_)
        try simp only [Act.put, List.setIfInBounds_toArray, List.set_cons_zero, List.set_cons_succ]
        refine quiet_nil hL9 ?_
        clear hL9
        intro wy hOy
        have HF := Lib.hid (HN.out rfl)
        have hOz := HO0.out.trans (HU.out.trans hOy)
        go_wp2
        go_ret
        exact ⟨by rw [HF.out]; rfl, hOz⟩
      | true =>
        have HWI := HWI0
        cases CC with
        | false =>
          have HCT := HCT0
          refine region_keep_tail (fun wq => On u wq) 15 (by kernel_rfl) (by kernel_rfl) (On.refl HU.out.tab).drew ?_
          simp only [List.take_succ_cons, List.take_zero, List.drop_succ_cons, List.drop_zero]
          refine quiet_start fun L9 hL9 => ?_
          refine quiet_take (v := ?bv0) hL9 (by kernel_rfl) (fun wq hwq => ?by0) (fun L9 hL9 => ?br0)
          case by0 => (go_simp; try with_reducible rfl)
          try simp only [Act.put, List.setIfInBounds_toArray, List.set_cons_zero, List.set_cons_succ]
          refine quiet_take (v := .int .i64 xi) hL9 (by kernel_rfl) (fun wq hwq => ?by1) (fun L9 hL9 => ?br1)
          case by1 => (obtain ⟨z0, z1⟩ := HVX.out wq hwq; go_simp; try with_reducible rfl)
          try simp only [Act.put, List.setIfInBounds_toArray, List.set_cons_zero, List.set_cons_succ]
          refine quiet_take (v := syA S H) hL9 (by kernel_rfl) (fun wq hwq => ?by2) (fun L9 hL9 => ?br2)
          case by2 => (obtain ⟨x0, x1, x2, x3, x4, x5, x6, x7⟩ := HSY.out wq hwq; go_simp; try with_reducible rfl)
          try simp only [Act.put, List.setIfInBounds_toArray, List.set_cons_zero, List.set_cons_succ]
          refine quiet_take (v := ?bv3) hL9 (by kernel_rfl) (fun wq hwq => ?by3) (fun L9 hL9 => ?br3)
          case by3 => (go_simp; try with_reducible rfl)
          try simp only [Act.put, List.setIfInBounds_toArray, List.set_cons_zero, List.set_cons_succ]
          refine quiet_take (v := .int .u8 xk) hL9 (by kernel_rfl) (fun wq hwq => ?by4) (fun L9 hL9 => ?br4)
          case by4 => (obtain ⟨z0, z1⟩ := HVX.out wq hwq; go_simp; try with_reducible rfl)
          try simp only [Act.put, List.setIfInBounds_toArray, List.set_cons_zero, List.set_cons_succ]
          refine quiet_take (v := .int .i64 N) hL9 (by kernel_rfl) (fun wq hwq => ?by5) (fun L9 hL9 => ?br5)
          case by5 => (go_simp; go_at_call 162; exact HNUM.out wq hwq)
          try simp only [Act.put, List.setIfInBounds_toArray, List.set_cons_zero, List.set_cons_succ]
          refine quiet_take (v := .int .i64 (N - 1)) hL9 (by kernel_rfl) (fun wq hwq => ?by6) (fun L9 hL9 => ?br6)
          case by6 => (have h1 := HW.out; go_simp; try with_reducible rfl; try simp [h1])
          try simp only [Act.put, List.setIfInBounds_toArray, List.set_cons_zero, List.set_cons_succ]
          refine quiet_take (v := .bool true) hL9 (by kernel_rfl) (fun wq hwq => ?by7) (fun L9 hL9 => ?br7)
          case by7 => (go_simp; go_at_call 144; exact HWI.out wq hwq)
          try simp only [Act.put, List.setIfInBounds_toArray, List.set_cons_zero, List.set_cons_succ]
          refine quiet_take (v := .bool false) hL9 (by kernel_rfl) (fun wq hwq => ?by8) (fun L9 hL9 => ?br8)
          case by8 => (go_simp; try with_reducible rfl)
          try simp only [Act.put, List.setIfInBounds_toArray, List.set_cons_zero, List.set_cons_succ]
          refine quiet_take (v := .bool false) hL9 (by kernel_rfl) (fun wq hwq => ?by9) (fun L9 hL9 => ?br9)
          case by9 => (go_simp; try with_reducible rfl)
          try simp only [Act.put, List.setIfInBounds_toArray, List.set_cons_zero, List.set_cons_succ]
          refine quiet_take (v := ?bv10) hL9 (by kernel_rfl) (fun wq hwq => ?by10) (fun L9 hL9 => ?br10)
          case by10 => (go_simp; try with_reducible rfl)
          try simp only [Act.put, List.setIfInBounds_toArray, List.set_cons_zero, List.set_cons_succ]
          refine quiet_take (v := ?bv11) hL9 (by kernel_rfl) (fun wq hwq => ?by11) (fun L9 hL9 => ?br11)
          case by11 => (go_simp; try with_reducible rfl)
          try simp only [Act.put, List.setIfInBounds_toArray, List.set_cons_zero, List.set_cons_succ]
          refine quiet_take (v := .int .u8 xk) hL9 (by kernel_rfl) (fun wq hwq => ?by12) (fun L9 hL9 => ?br12)
          case by12 => (obtain ⟨z0, z1⟩ := HVX.out wq hwq; go_simp; try with_reducible rfl)
          try simp only [Act.put, List.setIfInBounds_toArray, List.set_cons_zero, List.set_cons_succ]
          refine quiet_take (v := .bool false) hL9 (by kernel_rfl) (fun wq hwq => ?by13) (fun L9 hL9 => ?br13)
          case by13 => (go_simp; go_at_call 163; exact HCT.out wq hwq)
          try simp only [Act.put, List.setIfInBounds_toArray, List.set_cons_zero, List.set_cons_succ]
          refine quiet_take (v := .bool true) hL9 (by kernel_rfl) (fun wq hwq => ?by14) (fun L9 hL9 => ?br14)
          case by14 => (go_simp; try with_reducible rfl)
          try simp only [Act.put, List.setIfInBounds_toArray, List.set_cons_zero, List.set_cons_succ]
          refine quiet_nil hL9 ?_
          clear hL9
          intro wy hOy
          have HF := Lib.hid (HN.out rfl)
          have hOz := HO0.out.trans (HU.out.trans hOy)
          go_wp2
          go_ret
          exact ⟨by rw [HF.out]; rfl, hOz⟩
        | true =>
          have HCT := HCT0
          refine region_keep_tail (fun wq => On u wq) 15 (by kernel_rfl) (by kernel_rfl) (On.refl HU.out.tab).drew ?_
          simp only [List.take_succ_cons, List.take_zero, List.drop_succ_cons, List.drop_zero]
          refine quiet_start fun L9 hL9 => ?_
          refine quiet_take (v := ?cv0) hL9 (by kernel_rfl) (fun wq hwq => ?cy0) (fun L9 hL9 => ?cr0)
          case cy0 => (go_simp; try with_reducible rfl)
          try simp only [Act.put, List.setIfInBounds_toArray, List.set_cons_zero, List.set_cons_succ]
          refine quiet_take (v := .int .i64 xi) hL9 (by kernel_rfl) (fun wq hwq => ?cy1) (fun L9 hL9 => ?cr1)
          case cy1 => (obtain ⟨z0, z1⟩ := HVX.out wq hwq; go_simp; try with_reducible rfl)
          try simp only [Act.put, List.setIfInBounds_toArray, List.set_cons_zero, List.set_cons_succ]
          refine quiet_take (v := syA S H) hL9 (by kernel_rfl) (fun wq hwq => ?cy2) (fun L9 hL9 => ?cr2)
          case cy2 => (obtain ⟨x0, x1, x2, x3, x4, x5, x6, x7⟩ := HSY.out wq hwq; go_simp; try with_reducible rfl)
          try simp only [Act.put, List.setIfInBounds_toArray, List.set_cons_zero, List.set_cons_succ]
          refine quiet_take (v := ?cv3) hL9 (by kernel_rfl) (fun wq hwq => ?cy3) (fun L9 hL9 => ?cr3)
          case cy3 => (go_simp; try with_reducible rfl)
          try simp only [Act.put, List.setIfInBounds_toArray, List.set_cons_zero, List.set_cons_succ]
          refine quiet_take (v := .int .u8 xk) hL9 (by kernel_rfl) (fun wq hwq => ?cy4) (fun L9 hL9 => ?cr4)
          case cy4 => (obtain ⟨z0, z1⟩ := HVX.out wq hwq; go_simp; try with_reducible rfl)
          try simp only [Act.put, List.setIfInBounds_toArray, List.set_cons_zero, List.set_cons_succ]
          refine quiet_take (v := .int .i64 N) hL9 (by kernel_rfl) (fun wq hwq => ?cy5) (fun L9 hL9 => ?cr5)
          case cy5 => (go_simp; go_at_call 162; exact HNUM.out wq hwq)
          try simp only [Act.put, List.setIfInBounds_toArray, List.set_cons_zero, List.set_cons_succ]
          refine quiet_take (v := .int .i64 (N - 1)) hL9 (by kernel_rfl) (fun wq hwq => ?cy6) (fun L9 hL9 => ?cr6)
          case cy6 => (have h1 := HW.out; go_simp; try with_reducible rfl; try simp [h1])
          try simp only [Act.put, List.setIfInBounds_toArray, List.set_cons_zero, List.set_cons_succ]
          refine quiet_take (v := .bool true) hL9 (by kernel_rfl) (fun wq hwq => ?cy7) (fun L9 hL9 => ?cr7)
          case cy7 => (go_simp; go_at_call 144; exact HWI.out wq hwq)
          try simp only [Act.put, List.setIfInBounds_toArray, List.set_cons_zero, List.set_cons_succ]
          refine quiet_take (v := .bool false) hL9 (by kernel_rfl) (fun wq hwq => ?cy8) (fun L9 hL9 => ?cr8)
          case cy8 => (go_simp; try with_reducible rfl)
          try simp only [Act.put, List.setIfInBounds_toArray, List.set_cons_zero, List.set_cons_succ]
          refine quiet_take (v := .bool false) hL9 (by kernel_rfl) (fun wq hwq => ?cy9) (fun L9 hL9 => ?cr9)
          case cy9 => (go_simp; try with_reducible rfl)
          try simp only [Act.put, List.setIfInBounds_toArray, List.set_cons_zero, List.set_cons_succ]
          refine quiet_take (v := ?cv10) hL9 (by kernel_rfl) (fun wq hwq => ?cy10) (fun L9 hL9 => ?cr10)
          case cy10 => (go_simp; try with_reducible rfl)
          try simp only [Act.put, List.setIfInBounds_toArray, List.set_cons_zero, List.set_cons_succ]
          refine quiet_take (v := ?cv11) hL9 (by kernel_rfl) (fun wq hwq => ?cy11) (fun L9 hL9 => ?cr11)
          case cy11 => (go_simp; try with_reducible rfl)
          try simp only [Act.put, List.setIfInBounds_toArray, List.set_cons_zero, List.set_cons_succ]
          refine quiet_take (v := .int .u8 xk) hL9 (by kernel_rfl) (fun wq hwq => ?cy12) (fun L9 hL9 => ?cr12)
          case cy12 => (obtain ⟨z0, z1⟩ := HVX.out wq hwq; go_simp; try with_reducible rfl)
          try simp only [Act.put, List.setIfInBounds_toArray, List.set_cons_zero, List.set_cons_succ]
          refine quiet_take (v := .bool true) hL9 (by kernel_rfl) (fun wq hwq => ?cy13) (fun L9 hL9 => ?cr13)
          case cy13 => (go_simp; go_at_call 163; exact HCT.out wq hwq)
          try simp only [Act.put, List.setIfInBounds_toArray, List.set_cons_zero, List.set_cons_succ]
          refine quiet_take (v := .bool false) hL9 (by kernel_rfl) (fun wq hwq => ?cy14) (fun L9 hL9 => ?cr14)
          case cy14 => (go_simp; try with_reducible rfl)
          try simp only [Act.put, List.setIfInBounds_toArray, List.set_cons_zero, List.set_cons_succ]
          refine quiet_nil hL9 ?_
          clear hL9
          intro wy hOy
          have HF := Lib.hid (HJ2.out rfl)
          have hOz := Lib.hid (HU.out.trans hOy)
          clear hOy
          go_wp2
          go_roundw
          case rel => exact ⟨i + 1, by omega, by simp, HF, hOz⟩
          case measure => simp [intOf]; omega
    · obtain rfl : n = i := by omega
      have HG := Lib.hid (HYES.out HJ.out)
      have hOz := HO0.out.trans HO.out
      clear HJ
      go_wp2
      go_ret
      exact ⟨by rw [HG.out]; rfl, hOz⟩
end Go.Proofs.YtnanjacllmdenaaDoor

/- Package field: Is (from the texts of package field; own work). -/
namespace Go.Proofs.YtnanjacllmdenaaDoor
open Go.RowKit
set_option linter.unusedVariables false
set_option linter.unusedSimpArgs false

theorem is_any (f : Int) (l : List Nat) (v : Value) (w : World) (hT : Tab w) (hR : Reads w v l) :
    Calls Tryd.prog 53 #[.int .i64 f, v] w fun e w' => e = .returned (.bool (isF f l)) ∧ w = w' := by
  obtain ⟨hU, hL, ⟨rfl, a, cap, rfl⟩ | ⟨b, off, cap, rfl, hc⟩⟩ := hR
  · have hi : isF f [] = validB f := by simp [isF]
    rw [hi]; clear hi
    go_enter Tryd.func53, Tryd.ntmps53
    go_wp2_with (go_at_call 86; refine (p_any _ _ hT).mono ?_; rintro e w' ⟨rfl, rfl⟩)
    refine wp_loop_rounds 1 ?_
    rw [rounds_succ]
    go_wp2_with (go_at_call 107; refine (valid_any _ _).mono ?_; rintro e w' ⟨rfl, rfl⟩)
    go_ret
    exact ⟨rfl, rfl⟩
  · go_enter Tryd.func53, Tryd.ntmps53
    go_hidden (go_wp2_with (go_at_call 86; refine (p_any _ _ hT).mono ?_; rintro e w' ⟨rfl, rfl⟩))
    go_loop [12] (fun vi => ∃ k : Nat, k ≤ l.length ∧ vi = .int .i64 k ∧ Hid ((l.take k).all (fun x => decide (x < pOf f)) = true)) (fun i => l.length - (intOf i).toNat)
    case atStart => exact ⟨0, Nat.zero_le _, rfl, Lib.hid (by simp)⟩
    case round =>
      obtain ⟨k, hk, rfl, HA⟩ := hrel
      by_cases hlt : k < l.length
      · have hcell := hc k hlt
        have hx := hU _ (getD_mem l k hlt)
        have hst := isF_step f l k hlt
        have HS := Lib.hid hst; clear hst
        have hno : Hid (¬ l.getD k 0 < pOf f → isF f l = false) := isF_no f l k hlt
        clear hc hU
        generalize hxe : l.getD k 0 = x at hcell hx HS hno
        have HE := Lib.hid hxe; clear hxe
        by_cases hp : x < pOf f
        · go_wp2
          go_round
          case rel => exact ⟨k + 1, by omega, by go_num, by unfold Hid; rw [HS.out, HA.out]; simpa using hp⟩
          case measure => simp [intOf]; omega
        · have hp2 : pOf f ≤ x := by omega
          have HN := Lib.hid (hno.out hp); clear hno
          go_wp2
          go_ret
          exact ⟨ret_bool HN.out.symm, rfl⟩
      · obtain rfl : k = l.length := by omega
        clear hc
        have hi : isF f l = validB f := by unfold isF; have := HA.out; rw [List.take_length] at this; rw [this]; rfl
        have HI := Lib.hid hi; clear hi
        go_wp2_with (go_at_call 107; refine (valid_any _ _).mono ?_; rintro e w' ⟨rfl, rfl⟩)
        go_ret
        exact ⟨ret_bool HI.out.symm, rfl⟩
end Go.Proofs.YtnanjacllmdenaaDoor

/- Package system: all, areColumns, validTuple, validLookup: what the calls return. -/
namespace Go.Proofs.YtnanjacllmdenaaDoor
open Go.RowKit
set_option linter.unusedVariables false

theorem shl_rows (K q : Nat) (hK : K ≤ 13) (hq : q = 2 ^ K) : wrap64 ((2 : Int) ^ K) = (q : Int) := by
  have h1 : 2 ^ K ≤ 2 ^ 13 := Nat.pow_le_pow_right (by omega) hK
  have h2 : ((2 : Int) ^ K) = ((2 ^ K : Nat) : Int) := by simp
  rw [h2, hq]; exact IntWalk.wrap64_in _ (by omega)
set_option maxRecDepth 100000 in
theorem arecol1_any (S : Sy) (H : Sh) (c : List Nat) (v : Value) (w : World) (hT : Tab w) (hs : szS S = true) (hV : Reads w v c) :
    Calls Tryd.prog 109 #[syA S H, v] w fun e w' => e = .returned (.bool (colB S c)) ∧ On w w' := by
  obtain ⟨a, cap, rfl⟩ := hV.shape
  obtain ⟨-, h1, h2, -⟩ := szS_facts hs
  obtain ⟨q, hq⟩ : ∃ q, q = rowN S := ⟨_, rfl⟩
  have hq2 := rowN_le hs
  rw [← hq] at hq2
  have HIS := Lib.hid (fun o => is_any S.f c (.slice a c.length cap) (w.alloc o) ((On.refl hT).alloc o).tab (hV.on ((On.refl hT).alloc o)))
  have HO := Lib.hid (fun o => (On.refl hT).alloc o)
  have HC : colB S c = (decide (c.length = q) && isF S.f c) := by rw [hq]; rfl
  rw [HC]
  obtain ⟨f, rows, main, pub, fixed, rules, perms, looks⟩ := S
  simp only at h1 h2 HIS
  obtain ⟨K, rfl⟩ : ∃ K : Nat, rows = (K : Int) := ⟨rows.toNat, by omega⟩
  have hsh := shl_rows K q (by omega) (by rw [hq]; rfl)
  have hlt : ¬ ((K : Int) < 0) := by omega
  clear HC hV hT hs hq
  generalize isF f c = II at *
  generalize c.length = n at *
  by_cases hn : n = q
  · subst hn
    have e : (decide (n = n) && II) = II := by simp
    rw [e]; clear e
    go_enter Tryd.func109, Tryd.ntmps109
    go_wp2_with (go_at_call 53; refine (HIS.out _).mono ?_; rintro e w' ⟨rfl, rfl⟩)
    go_ret
    exact ⟨rfl, HO.out _⟩
  · have e : (decide (n = q) && II) = false := by simp [hn]
    have e2 : ((n : Int) == (q : Int)) = false := beq_no (by omega)
    rw [e]; clear e hn
    go_enter Tryd.func109, Tryd.ntmps109
    go_wp2
    go_ret
    exact ⟨rfl, HO.out _⟩
set_option maxHeartbeats 1000000 in
set_option maxRecDepth 100000 in
theorem all_col (S : Sy) (H : Sh) (l : List (List Nat)) (v : Value) (w : World) (hT : Tab w) (hs : szS S = true) (hV : ColL w v l) :
    Calls Tryd.prog 108 #[syA S H, v, .func (.func 109) #[] #[]] w fun e w' => e = .returned (.bool (l.all (colB S))) ∧ On w w' := by
  obtain ⟨a, cap, rfl⟩ := hV.shape
  have hL := hV.1
  obtain ⟨W0, hW0⟩ : ∃ W0, W0 = w.alloc (syO S H) := ⟨_, rfl⟩
  have hO0 : On w W0 := by rw [hW0]; exact (On.refl hT).alloc _
  obtain ⟨Q, hQ⟩ : ∃ Q, Q = w.heap.size := ⟨_, rfl⟩
  have HB0 : Hid (VB Q W0 (syL S H)) := by rw [hW0, hQ]; exact Lib.hid (vb_newS S H w)
  have HV := Lib.hid hV.cells
  have HW0 := Lib.hid hW0; have HQ := Lib.hid hQ; have HO0 := Lib.hid hO0; have HS := Lib.hid hs
  have HNO : Hid (∀ j, j < l.length → (colB S) (l.getD j ([] : List Nat)) = false → l.all (colB S) = false) := fun j hj h => all_no _ ([] : List Nat) l j hj h
  have HYES : Hid ((∀ j, j < l.length → (colB S) (l.getD j ([] : List Nat)) = true) → l.all (colB S) = true) := fun h => (all_getD _ ([] : List Nat) l).2 h
  generalize l.all (colB S) = RR at *
  generalize hn : l.length = n at *
  clear hn hT hs hV hW0 hQ hO0
  go_enter Tryd.func108, Tryd.ntmps108
  go_upto_region 1 with fail
  rw [← HW0.out, ← HQ.out]
  go_wp2_with fail
  go_loopw [11] (fun vi wr => ∃ i : Nat, i ≤ n ∧ vi = .int .i64 (i : Int) ∧ Hid (∀ j, j < i → (colB S) (l.getD j ([] : List Nat)) = true) ∧ Hid (On W0 wr)) (fun vi _ => n - (intOf vi).toNat)
  case atStart => exact ⟨0, Nat.zero_le _, rfl, Lib.hid (fun j hj => absurd hj (Nat.not_lt_zero _)), Lib.hid (On.refl HO0.out.tab)⟩
  case round =>
    rename World => wr
    obtain ⟨i, hi, rfl, HJ, HO⟩ := hrel
    by_cases hlt : i < n
    · have hlt' : (i : Int) < (n : Int) := by omega
      obtain ⟨b, off, rfl, c0⟩ := HV.out i hlt
      try simp only [Nat.mul_one] at c0
      have HJ2 : Hid ((colB S) (l.getD i ([] : List Nat)) = true → ∀ j, j < i + 1 → (colB S) (l.getD j ([] : List Nat)) = true) := fun h j hj => by
        by_cases e : j = i
        · rw [e]; exact h
        · exact HJ.out j (by omega)
      have HN := Lib.hid (HNO.out i hlt)
      have HOQ : On w wr := HO0.out.trans HO.out
      obtain ⟨u, d0, d1⟩ := c0
      obtain ⟨ua, uc, rfl⟩ := d1.shape
      have e0 := cell_on HOQ d0
      clear d0
      have HSY := sy_cells (HB0.out.on HO.out)
      obtain ⟨s0, s1, s2, s3, s4, s5, s6, s7⟩ := HSY
      have HCB : Hid (Calls Tryd.prog 109 #[syA S H, .slice ua (l.getD i []).length uc] wr fun e w' => e = .returned (.bool (colB S (l.getD i []))) ∧ On wr w') := Lib.hid (arecol1_any S H _ _ wr HO.out.tab HS.out (d1.on HOQ))
      clear d1
      generalize (l.getD i ([] : List Nat)).length = ln at *
      clear HJ HOQ
      generalize (colB S) (l.getD i ([] : List Nat)) = BB at *
      generalize l.getD i ([] : List Nat) = x at *
      cases BB with
      | false =>
        have HF := Lib.hid (HN.out rfl)
        go_wp2_with (go_at_call 109; (with_reducible refine HCB.out.mono ?_); rintro e wy ⟨rfl, hOy⟩)
        go_ret
        exact ⟨by rw [HF.out]; rfl, HO0.out.trans (HO.out.trans hOy)⟩
      | true =>
        have HF := Lib.hid (HJ2.out rfl)
        go_wp2_with (go_at_call 109; (with_reducible refine HCB.out.mono ?_); rintro e wy ⟨rfl, hOy⟩)
        have hOz : Hid (On W0 wy) := Lib.hid (HO.out.trans hOy)
        clear hOy
        go_roundw
        case rel => exact ⟨i + 1, by omega, by simp, HF, hOz⟩
        case measure => simp [intOf]; omega
    · obtain rfl : n = i := by omega
      have HG := Lib.hid (HYES.out HJ.out)
      have hOz := HO0.out.trans HO.out
      clear HJ
      go_wp2
      go_ret
      exact ⟨by rw [HG.out]; rfl, hOz⟩
theorem arecols_any (S : Sy) (H : Sh) (l : List (List Nat)) (v : Value) (w : World) (hT : Tab w) (hs : szS S = true) (hV : ColL w v l) :
    Calls Tryd.prog 54 #[syA S H, v] w fun e w' => e = .returned (.bool (l.all (colB S))) ∧ On w w' := by
  have hO := (On.refl hT).alloc (syO S H)
  have HA := Lib.hid (all_col S H l v _ hO.tab hs (hV.on hO))
  have HO := Lib.hid hO
  obtain ⟨a, cap, rfl⟩ := hV.shape
  clear hT hs hV hO
  generalize l.all (colB S) = RR at *
  generalize l.length = n at *
  go_enter Tryd.func54, Tryd.ntmps54
  go_wp2_with (go_at_call 108; (with_reducible refine HA.out.mono ?_); rintro e wy ⟨rfl, hOy⟩)
  go_ret
  exact ⟨rfl, HO.out.trans hOy⟩
theorem vtuple_any (S : Sy) (H : Sh) (vs : List Vr) (v : Value) (ks : List Int) (kv : Value) (w : World) (hT : Tab w) (hs : szS S = true) (hV : VRw w v vs) (hK : KdL w kv ks) :
    Calls Tryd.prog 151 #[syA S H, v, kv] w fun e w' => e = .returned (.bool (tuB S ks vs)) ∧ On w w' := by
  have hO := (On.refl hT).alloc (syO S H)
  have HH := Lib.hid (has_any S H vs v ks kv _ hO.tab hs (hV.on hO) (hK.on hO))
  have HWI := Lib.hid (fun u => within_any (vs.length : Int) 1 4 u)
  have HO := Lib.hid hO
  obtain ⟨a, cap, rfl⟩ := hV.shape
  obtain ⟨ka, kc, rfl⟩ := hK.shape
  have e : tuB S ks vs = (decide ((1 : Int) ≤ (vs.length : Int) ∧ (vs.length : Int) ≤ 4) && vs.all (hasK S ks)) := by
    unfold tuB; congr 1; exact decide_eq_decide.2 (by omega)
  rw [e]
  clear hT hs hV hO e hK
  generalize vs.all (hasK S ks) = RR at *
  generalize vs.length = n at *
  generalize ks.length = kn at *
  generalize decide ((1 : Int) ≤ (n : Int) ∧ (n : Int) ≤ 4) = II at *
  cases II with
  | false =>
    go_enter Tryd.func151, Tryd.ntmps151
    go_wp2_with (go_at_call 144; (with_reducible refine (HWI.out _).mono ?_); rintro e wy ⟨rfl, rfl⟩)
    go_ret
    exact ⟨rfl, HO.out⟩
  | true =>
    go_enter Tryd.func151, Tryd.ntmps151
    go_wp2_with (first | (go_at_call 144; (with_reducible refine (HWI.out _).mono ?_); rintro e wy ⟨rfl, rfl⟩) | (go_at_call 147; (with_reducible refine HH.out.mono ?_); rintro e wy ⟨rfl, hOy⟩))
    go_ret
    exact ⟨rfl, HO.out.trans hOy⟩
end Go.Proofs.YtnanjacllmdenaaDoor
