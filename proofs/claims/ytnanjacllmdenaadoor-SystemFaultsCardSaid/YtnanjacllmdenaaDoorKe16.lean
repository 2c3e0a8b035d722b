/- The document's systems: rule: what the call returns. -/
import Derived.Test.YtnanjacllmdenaaDoorKe15
import Derived.Test.YtnanjacllmdenaaDoorKe06
set_option linter.unusedSimpArgs false
set_option linter.unusedVariables false
/- The document's systems: rule: what the call returns. -/
namespace Go.Proofs.YtnanjacllmdenaaDoor
open Go.RowKit
set_option linter.unusedVariables false

/-- What a rule's variable, its monomial has to be. -/
def vaD (S : Sy) (ed : Bool) (v : Vr) : Bool := hasV S v && !(ed && v.1 == 2)
def moD (S : Sy) (ed : Bool) (m : Mo) : Bool := decide (m.1 < pOf S.f) && (decide (m.2.length ≤ 8) && m.2.all (vaD S ed))
theorem hasV_kind {S : Sy} {v : Vr} (h : hasV S v = true) : v.1 = 1 ∨ v.1 = 2 ∨ v.1 = 3 ∨ v.1 = 4 := by
  unfold hasV numK at h
  simp only [decide_eq_true_eq] at h
  rcases kinds4 v.1 with e | e | e | e | ⟨h1, h2, h3, h4⟩
  · exact .inl e
  · exact .inr (.inl e)
  · exact .inr (.inr (.inl e))
  · exact .inr (.inr (.inr e))
  · simp only [h1, h2, h3, h4, if_false] at h; omega
theorem vaD_true (S : Sy) : vaD S true = hasK S [1, 3, 4] := by
  funext v; unfold vaD hasK
  cases h : hasV S v
  · rfl
  · rcases hasV_kind h with e | e | e | e <;> simp [e]
theorem vaD_false (S : Sy) : vaD S false = hasK S [1, 3, 4, 2] := by
  funext v; unfold vaD hasK
  cases h : hasV S v
  · rfl
  · rcases hasV_kind h with e | e | e | e <;> simp [e]
theorem moD_true (S : Sy) : moD S true = moB S [1, 3, 4] := by funext m; unfold moD moB; rw [vaD_true, Bool.and_assoc]
theorem moD_false (S : Sy) : moD S false = moB S [1, 3, 4, 2] := by funext m; unfold moD moB; rw [vaD_false, Bool.and_assoc]
theorem ruB_edge (S : Sy) (r : Ru) : ruB S r = (decide (1 ≤ r.1 ∧ r.1 ≤ 4) && (decide (r.2.length ≤ 64) && (r.2.all (moD S (decide (r.1 = 3 ∨ r.1 = 4))) && (!(decide (r.1 = 3 ∨ r.1 = 4)) || decide (degS r.2 ≤ 1))))) := by
  unfold ruB
  by_cases h1 : r.1 = 1 ∨ r.1 = 2
  · have e1 : decide (r.1 = 3 ∨ r.1 = 4) = false := decide_eq_false (by omega)
    have e2 : decide (1 ≤ r.1 ∧ r.1 ≤ 4) = true := decide_eq_true (by omega)
    rw [if_pos h1, e1, e2, moD_false]; simp
  · rw [if_neg h1]
    by_cases h2 : r.1 = 3 ∨ r.1 = 4
    · have e1 : decide (r.1 = 3 ∨ r.1 = 4) = true := decide_eq_true h2
      have e2 : decide (1 ≤ r.1 ∧ r.1 ≤ 4) = true := decide_eq_true (by omega)
      rw [if_pos h2, e1, e2, moD_true]
      cases decide (degS r.2 ≤ 1) <;> simp
    · have e2 : decide (1 ≤ r.1 ∧ r.1 ≤ 4) = false := decide_eq_false (by omega)
      rw [if_neg h2, e2]; rfl
set_option maxHeartbeats 1000000 in
theorem rdegreew_any (s : List Mo) (v : Value) (w : World) (hT : Tab w) (hR : MRw w v s) :
    Calls Tryd.prog 153 #[v] w fun e w' => e = .returned (.int .i64 ((degS s : Nat) : Int)) ∧ w = w' := by
  obtain ⟨a, cap, rfl⟩ := hR.shape
  have HR := Lib.hid hR
  have HC := Lib.hid hR.cells
  have HB := Lib.hid (degS_boundw hR)
  have hL := hR.2.1
  clear hR hT
  obtain ⟨n, hn⟩ : ∃ n, s.length = n := ⟨_, rfl⟩
  have HN := Lib.hid hn
  rw [hn] at HC hL ⊢
  clear hn
  go_enter Tryd.func153, Tryd.ntmps153
  go_wp2_with fail
  go_loop [3, 4] (fun vm vi => ∃ k m : Nat, k ≤ n ∧ vi = .int .i64 (k : Int) ∧ vm = .int .i64 (m : Int) ∧ Hid (m = degS (s.take k))) (fun _ vi => n - (intOf vi).toNat)
  case atStart => exact ⟨0, 0, Nat.zero_le _, rfl, rfl, Lib.hid rfl⟩
  case round =>
    obtain ⟨k, m, hk, rfl, rfl, HM⟩ := hrel
    by_cases hlt : k < n
    · obtain ⟨b, off, a', c', rfl, c0, c1, c2⟩ := HC.out k hlt
      have hlt' : (k : Int) < (n : Int) := by omega
      have HV := Lib.hid c2
      have hmb : m ≤ 9223372036854775807 := by rw [HM.out]; exact HB.out k
      have HS : Hid (degS (s.take (k + 1)) = max m (degM (s.getD k zM).2)) := by
        have h := degS_snoc s k (by rw [HN.out]; exact hlt); rw [← HM.out] at h; exact h
      clear c2 HM
      generalize (s.getD k zM).1 = cc at *
      generalize (s.getD k zM).2 = vs at *
      have hvl := HV.out.2.1
      have HVC := Lib.hid HV.out.cells
      obtain ⟨nv, hnv⟩ : ∃ nv, vs.length = nv := ⟨_, rfl⟩
      have HNV := Lib.hid hnv
      rw [hnv] at hvl HVC c1 HV
      clear hnv
      go_wp2_with fail
      go_loop [5, 6] (fun vn vj => ∃ j d : Nat, j ≤ nv ∧ vj = .int .i64 (j : Int) ∧ vn = .int .i64 (d : Int) ∧ Hid (d = degM (vs.take j))) (fun _ vj => nv - (intOf vj).toNat)
      case atStart => exact ⟨0, 0, Nat.zero_le _, rfl, rfl, Lib.hid rfl⟩
      case round =>
        obtain ⟨j, d, hj, rfl, rfl, HD⟩ := hrel
        by_cases hjt : j < nv
        · obtain ⟨bv, ov, rfl, e0, e1⟩ := HVC.out j hjt
          have hjt' : (j : Int) < (nv : Int) := by omega
          have HS2 := Lib.hid (degM_snoc vs j (by rw [HNV.out]; exact hjt))
          have hdb : d < 9223372036854775807 := by
            rw [HD.out]; have := degM_len (vs.take j); have : (vs.take j).length ≤ j := by simp; omega
            omega
          rw [← HD.out] at HS2
          clear HD
          generalize vs.getD j zV = x at *
          obtain ⟨xk, xi⟩ := x
          simp only at e0 e1 HS2
          cases hcol : isCol xk
          · rw [hcol] at HS2
            go_wp2_with (go_at_call 165; refine (rcounts_any _ _).mono ?_; rintro e w' ⟨rfl, rfl⟩; rw [hcol])
            go_round
            case rel => exact ⟨j + 1, d, by omega, by simp, by simp, Lib.hid (by rw [HS2.out]; rfl)⟩
            case measure => simp [intOf]; omega
          · rw [hcol] at HS2
            go_wp2_with (go_at_call 165; refine (rcounts_any _ _).mono ?_; rintro e w' ⟨rfl, rfl⟩; rw [hcol])
            go_round
            case rel => exact ⟨j + 1, d + 1, by omega, by simp, by simp, Lib.hid (by rw [HS2.out]; rfl)⟩
            case measure => simp [intOf]; omega
        · obtain rfl : j = nv := by omega
          have HF : Hid (degS (s.take (k + 1)) = max m d) := by
            unfold Hid; rw [HS.out, HD.out, ← HNV.out, List.take_length]
          have hmx : (if (m : Int) < (d : Int) then (d : Int) else (m : Int)) = ((max m d : Nat) : Int) := by split <;> omega
          have hmx2 : (if m < d then (d : Int) else (m : Int)) = ((max m d : Nat) : Int) := by split <;> omega
          clear HS HD
          generalize max m d = q at *
          go_wp2
          go_round
          case rel => exact ⟨k + 1, q, by omega, by simp, by simp [hmx, hmx2], Lib.hid HF.out.symm⟩
          case measure => simp [intOf]; omega
    · obtain rfl : k = n := by omega
      have HE : Hid (m = degS s) := by unfold Hid; rw [HM.out, ← HN.out, List.take_length]
      go_wp2
      go_ret
      exact ⟨by rw [HE.out]; rfl, rfl⟩
set_option maxHeartbeats 4000000 in
set_option maxRecDepth 100000 in
theorem rrule_any (S : Sy) (H : Sh) (r : Ru) (ua : Option Addr) (uc : Nat) (w : World) (hT : Tab w) (hr : 0 ≤ r.1 ∧ r.1 ≤ 255) (hV : MRw w (.slice ua r.2.length uc) r.2) :
    Calls Tryd.prog 111 #[syA S H, .agg #[.int .u8 r.1, .slice ua r.2.length uc]] w fun e w' => e = .returned (.bool (ruB S r)) ∧ On w w' := by
  obtain ⟨W0, hW0⟩ : ∃ W0, W0 = (w.alloc (syO S H)).alloc (.cells #[.int .u8 r.1, .slice ua r.2.length uc] 76) := ⟨_, rfl⟩
  have hO0 : On w W0 := by rw [hW0]; exact ((On.refl hT).alloc _).alloc _
  obtain ⟨Q, hQ⟩ : ∃ Q, Q = w.heap.size := ⟨_, rfl⟩
  have HB0 : Hid (VB Q W0 (syL S H)) := by rw [hW0, hQ]; exact Lib.hid ((vb_newS S H w).on ((On.refl ((On.refl hT).alloc _).tab).alloc _))
  have HB1 : Hid (VB (Q + 1) W0 [.int .u8 r.1, .slice ua r.2.length uc]) := by
    have h := vb_new (w.alloc (syO S H)) #[.int .u8 r.1, .slice ua r.2.length uc] 76
    rw [World.size_alloc] at h
    rw [hW0, hQ]; exact Lib.hid h
  have HV := Lib.hid hV
  have HMC := Lib.hid hV.cells
  have HMU : Hid (∀ i, (r.2.getD i zM).1 ≤ 18446744073709551615) := fun i => by
    rcases Nat.lt_or_ge i r.2.length with hi | hi
    · rw [List.getD_eq_getElem?_getD, List.getElem?_eq_getElem hi]; exact hV.1 _ (List.getElem_mem _)
    · rw [List.getD_eq_getElem?_getD, List.getElem?_eq_none hi]; simp
  have hL := hV.2.1
  have HDG : Hid (∀ V, On W0 V → Calls Tryd.prog 153 #[.slice ua r.2.length uc] V fun e w' => e = .returned (.int .i64 ((degS r.2 : Nat) : Int)) ∧ V = w') := fun V h => rdegreew_any r.2 _ V h.tab (HV.out.on (hO0.trans h))
  have HW0 := Lib.hid hW0; have HQ := Lib.hid hQ; have HO0 := Lib.hid hO0
  rw [ruB_edge]
  obtain ⟨rk, sm⟩ := r
  simp only at hr hL HB1 HMC HMU HDG HW0 ⊢
  obtain ⟨ed, hed⟩ : ∃ ed, ed = decide (rk = 3 ∨ rk = 4) := ⟨_, rfl⟩
  rw [← hed]
  have HNO : Hid (∀ j, j < sm.length → moD S ed (sm.getD j zM) = false → sm.all (moD S ed) = false) := fun j hj h => all_no _ zM sm j hj h
  have HYES : Hid ((∀ j, j < sm.length → moD S ed (sm.getD j zM) = true) → sm.all (moD S ed) = true) := fun h => (all_getD _ zM sm).2 h
  have HVB := Lib.hid HV.out
  clear HV hT hV hW0 hQ hO0 HVB
  generalize sm.all (moD S ed) = RR at *
  generalize degS sm = D at *
  generalize hn : sm.length = n at *
  clear hn
  have BOX : ∀ V, On W0 V → (V.cell? ⟨Q, 0, none⟩ = some (.int .i64 S.f) ∧ V.cell? ⟨Q + 1, 0, none⟩ = some (.int .u8 rk) ∧ V.cell? ⟨Q + 1, 1, none⟩ = some (.slice ua n uc)) := fun V h => ⟨(sy_cells (HB0.out.on h)).1, (HB1.out.on h).2.1 0 _ rfl, (HB1.out.on h).2.1 1 _ rfl⟩
  have HBOX := Lib.hid BOX
  have HOK : Hid (On W0 W0) := On.refl HO0.out.tab
  clear BOX
  by_cases h14 : 1 ≤ rk ∧ rk ≤ 4
  rotate_left
  · have e1 : (decide (1 ≤ rk ∧ rk ≤ 4) && (decide (n ≤ 64) && (RR && (!ed || decide (D ≤ 1))))) = false := by rw [decide_eq_false h14]; rfl
    rw [e1]; clear e1 hed
    by_cases h1 : rk < 1
    · clear h14
      go_enter Tryd.func111, Tryd.ntmps111
      go_upto_region 1 with fail
      rw [← HW0.out, ← HQ.out]
      obtain ⟨x0, x1, x2⟩ := HBOX.out _ HOK.out
      go_wp2
      go_ret
      exact ⟨rfl, HO0.out⟩
    · have h4 : 4 < rk := by omega
      clear h14
      go_enter Tryd.func111, Tryd.ntmps111
      go_upto_region 1 with fail
      rw [← HW0.out, ← HQ.out]
      obtain ⟨x0, x1, x2⟩ := HBOX.out _ HOK.out
      go_wp2
      go_ret
      exact ⟨rfl, HO0.out⟩
  have e1 : (decide (1 ≤ rk ∧ rk ≤ 4) && (decide (n ≤ 64) && (RR && (!ed || decide (D ≤ 1))))) = (decide (n ≤ 64) && (RR && (!ed || decide (D ≤ 1)))) := by rw [decide_eq_true h14]; rfl
  rw [e1]; clear e1
  have h1 : ¬ rk < 1 := by omega
  have h4 : ¬ 4 < rk := by omega
  by_cases h64 : n ≤ 64
  rotate_left
  · have e1 : (decide (n ≤ 64) && (RR && (!ed || decide (D ≤ 1)))) = false := by rw [decide_eq_false h64]; rfl
    have h64' : (64 : Int) < (n : Int) := by omega
    rw [e1]; clear e1 hed h14 h64
    go_enter Tryd.func111, Tryd.ntmps111
    go_upto_region 1 with fail
    rw [← HW0.out, ← HQ.out]
    obtain ⟨x0, x1, x2⟩ := HBOX.out _ HOK.out
    go_wp2
    go_ret
    exact ⟨rfl, HO0.out⟩
  have e1 : (decide (n ≤ 64) && (RR && (!ed || decide (D ≤ 1)))) = (RR && (!ed || decide (D ≤ 1))) := by rw [decide_eq_true h64]; rfl
  have h64' : ¬ (64 : Int) < (n : Int) := by omega
  rw [e1]; clear e1
  go_enter Tryd.func111, Tryd.ntmps111
  go_upto_region 1 with fail
  rw [← HW0.out, ← HQ.out]
  obtain ⟨x0, x1, x2⟩ := HBOX.out _ HOK.out
  go_upto_region 3 with fail
  clear h64'
  have HED := Lib.hid hed
  obtain ⟨edv, hedv⟩ : ∃ z, z = ed := ⟨_, rfl⟩
  have h3or : (rk = 3 ∧ ed = true) ∨ (¬ rk = 3 ∧ rk = 4 ∧ ed = true) ∨ (¬ rk = 3 ∧ ¬ rk = 4 ∧ ed = false) := by
    by_cases a : rk = 3
    · exact .inl ⟨a, by rw [hed]; exact decide_eq_true (.inl a)⟩
    · by_cases b : rk = 4
      · exact .inr (.inl ⟨a, b, by rw [hed]; exact decide_eq_true (.inr b)⟩)
      · exact .inr (.inr ⟨a, b, by rw [hed]; exact decide_eq_false (by omega)⟩)
  have H3 := Lib.hid h3or
  clear hed h3or hedv edv h14 h1 h4
  rcases H3.out with ⟨rfl, rfl⟩ | ⟨h3, rfl, rfl⟩ | ⟨h3, h4, rfl⟩
  · clear H3 HED
    go_wp2_with fail
    clear x0 x1 x2
    go_loopw [6] (fun vi wr => ∃ i : Nat, i ≤ n ∧ vi = .int .i64 (i : Int) ∧ Hid (∀ j, j < i → moD S true (sm.getD j zM) = true) ∧ Hid (On W0 wr)) (fun vi _ => n - (intOf vi).toNat)
    case atStart => exact ⟨0, Nat.zero_le _, rfl, Lib.hid (fun j hj => absurd hj (Nat.not_lt_zero _)), HOK⟩
    case round =>
      rename World => wr
      obtain ⟨i, hi, rfl, HJ, HO⟩ := hrel
      by_cases hlt : i < n
      · have hlt' : (i : Int) < (n : Int) := by omega
        obtain ⟨b, off, ma, mcap, rfl, d0, d1, d2⟩ := HMC.out i hlt
        have hWr := HO0.out.trans HO.out
        have c0 := cell_on hWr d0
        have c1 := cell_on hWr d1
        have HVC := Lib.hid ((d2.on hWr).cells)
        have HMUi := HMU.out i
        have HJ2 : Hid (moD S true (sm.getD i zM) = true → ∀ j, j < i + 1 → moD S true (sm.getD j zM) = true) := fun h j hj => by
          by_cases e : j = i
          · rw [e]; exact h
          · exact HJ.out j (by omega)
        have HN := Lib.hid (HNO.out i hlt)
        clear d0 d1 d2 HJ hWr
        generalize sm.getD i zM = mm at *
        obtain ⟨mc, vs⟩ := mm
        simp only at c0 c1 HMUi
        have e : moD S true (mc, vs) = (decide (mc < pOf S.f) && (decide (vs.length ≤ 8) && vs.all (vaD S true))) := rfl
        rw [e] at HJ2 HN
        clear e
        have HNO2 : Hid (∀ j, j < vs.length → vaD S true (vs.getD j zV) = false → vs.all (vaD S true) = false) := fun j hj h => all_no _ zV vs j hj h
        have HYES2 : Hid ((∀ j, j < vs.length → vaD S true (vs.getD j zV) = true) → vs.all (vaD S true) = true) := fun h => (all_getD _ zV vs).2 h
        generalize vs.all (vaD S true) = VV at *
        generalize hln : vs.length = ln at *
        clear hln
        obtain ⟨x0, x1, x2⟩ := HBOX.out wr HO.out
        go_upto_region 8 with fail
        obtain ⟨u, hu⟩ : ∃ u, u = wr.alloc (.cells #[.int .u64 (mc : Int), .slice ma ln mcap] 78) := ⟨_, rfl⟩
        obtain ⟨X, hX⟩ : ∃ X, X = wr.heap.size := ⟨_, rfl⟩
        rw [← hu, ← hX]
        have hUr : On wr u := by rw [hu]; exact (On.refl HO.out.tab).alloc _
        have HU : Hid (On W0 u) := Lib.hid (HO.out.trans hUr)
        have HBX : Hid (VB X u [.int .u64 (mc : Int), .slice ma ln mcap]) := by rw [hu, hX]; exact Lib.hid (vb_new wr _ _)
        have HXC : Hid (∀ wq, On u wq → wq.cell? ⟨X, 0, none⟩ = some (.int .u64 (mc : Int)) ∧ wq.cell? ⟨X, 1, none⟩ = some (.slice ma ln mcap)) := fun wq h => ⟨(HBX.out.on h).2.1 0 _ rfl, (HBX.out.on h).2.1 1 _ rfl⟩
        have HSY : Hid (∀ wq, On u wq → _) := fun wq h => sy_cells ((HB0.out.on HU.out).on h)
        have HP : Hid (∀ wq, On u wq → Calls Tryd.prog 62 #[.int .i64 S.f] wq fun e w' => e = .returned (.int .u64 ((pOf S.f : Nat) : Int)) ∧ On u w') := fun wq h => (rp_any S.f wq).mono fun e w' ⟨he, ho⟩ => ⟨he, ho ▸ h⟩
        have HVC2 : Hid (∀ k, k < ln → ∃ mb mo, ma = some ⟨mb, mo, none⟩ ∧ ∀ wq, On u wq → wq.cell? ⟨mb, mo + k * 2, none⟩ = some (.int .u8 (vs.getD k zV).1) ∧ wq.cell? ⟨mb, mo + k * 2 + 1, none⟩ = some (.int .i64 (vs.getD k zV).2)) := fun k hk => by
          obtain ⟨mb, mo, e, g0, g1⟩ := HVC.out k hk
          exact ⟨mb, mo, e, fun wq h => ⟨cell_on (hUr.trans h) g0, cell_on (hUr.trans h) g1⟩⟩
        clear hu hX c0 c1 HBX x0 x1 x2 HVC hUr
        by_cases hcp : mc < pOf S.f
        rotate_left
        · have HCP : Hid (decide ((pOf S.f : Int) ≤ (mc : Int)) = true) := Lib.hid (decide_eq_true (by omega))
          rw [decide_eq_false hcp] at HJ2 HN
          clear hcp
          refine region_keep_tail (fun wq => On u wq) 11 (by kernel_rfl) (by kernel_rfl) (On.refl HU.out.tab).drew ?_
          simp only [List.take_succ_cons, List.take_zero, List.drop_succ_cons, List.drop_zero]
          refine quiet_start fun L9 hL9 => ?_
          refine quiet_take (v := ?apv0) hL9 (by kernel_rfl) (fun wq hwq => ?apy0) (fun L9 hL9 => ?apr0)
          case apy0 => (go_simp; try with_reducible rfl)
          try simp only [Act.put, List.setIfInBounds_toArray, List.set_cons_zero, List.set_cons_succ]
          refine quiet_take (v := .int .u64 (mc : Int)) hL9 (by kernel_rfl) (fun wq hwq => ?apy1) (fun L9 hL9 => ?apr1)
          case apy1 => (obtain ⟨q0, q1⟩ := HXC.out wq hwq; go_simp; try with_reducible rfl)
          try simp only [Act.put, List.setIfInBounds_toArray, List.set_cons_zero, List.set_cons_succ]
          refine quiet_take (v := ?apv2) hL9 (by kernel_rfl) (fun wq hwq => ?apy2) (fun L9 hL9 => ?apr2)
          case apy2 => (go_simp; try with_reducible rfl)
          try simp only [Act.put, List.setIfInBounds_toArray, List.set_cons_zero, List.set_cons_succ]
          refine quiet_take (v := .int .i64 S.f) hL9 (by kernel_rfl) (fun wq hwq => ?apy3) (fun L9 hL9 => ?apr3)
          case apy3 => (obtain ⟨s0, s1, s2, s3, s4, s5, s6, s7⟩ := HSY.out wq hwq; go_simp; try with_reducible rfl)
          try simp only [Act.put, List.setIfInBounds_toArray, List.set_cons_zero, List.set_cons_succ]
          refine quiet_take (v := .int .u64 ((pOf S.f : Nat) : Int)) hL9 (by kernel_rfl) (fun wq hwq => ?apy4) (fun L9 hL9 => ?apr4)
          case apy4 => (go_simp; go_at_call 62; exact HP.out wq hwq)
          try simp only [Act.put, List.setIfInBounds_toArray, List.set_cons_zero, List.set_cons_succ]
          refine quiet_take (v := .bool true) hL9 (by kernel_rfl) (fun wq hwq => ?apy5) (fun L9 hL9 => ?apr5)
          case apy5 => (have h1 := HCP.out; go_simp; try (first | with_reducible rfl | exact h1 | (simpa using h1) | (simp only [beq_iff_eq] at h1; exact h1) | (intro h2; rw [h2] at h1; exact absurd h1 (by decide))))
          try simp only [Act.put, List.setIfInBounds_toArray, List.set_cons_zero, List.set_cons_succ]
          refine quiet_take (v := .bool true) hL9 (by kernel_rfl) (fun wq hwq => ?apy6) (fun L9 hL9 => ?apr6)
          case apy6 => (go_simp; try with_reducible rfl)
          try simp only [Act.put, List.setIfInBounds_toArray, List.set_cons_zero, List.set_cons_succ]
          refine quiet_skip hL9 (by kernel_rfl) (fun L9 hL9 => ?_)
          try simp only [Act.put, List.setIfInBounds_toArray, List.set_cons_zero, List.set_cons_succ]
          refine quiet_skip hL9 (by kernel_rfl) (fun L9 hL9 => ?_)
          try simp only [Act.put, List.setIfInBounds_toArray, List.set_cons_zero, List.set_cons_succ]
          refine quiet_skip hL9 (by kernel_rfl) (fun L9 hL9 => ?_)
          try simp only [Act.put, List.setIfInBounds_toArray, List.set_cons_zero, List.set_cons_succ]
          refine quiet_skip hL9 (by kernel_rfl) (fun L9 hL9 => ?_)
          try simp only [Act.put, List.setIfInBounds_toArray, List.set_cons_zero, List.set_cons_succ]
          refine quiet_nil hL9 ?_
          clear hL9
          intro wy hOy
          have HF := Lib.hid (HN.out rfl)
          have hOz := HO0.out.trans (HU.out.trans hOy)
          go_wp2
          go_ret
          exact ⟨by rw [HF.out]; rfl, hOz⟩
        have HCP : Hid (decide ((pOf S.f : Int) ≤ (mc : Int)) = false) := Lib.hid (decide_eq_false (by omega))
        rw [decide_eq_true hcp] at HJ2 HN
        clear hcp
        by_cases hl8 : ln ≤ 8
        rotate_left
        · have HLN : Hid (decide ((8 : Int) < (ln : Int)) = true) := Lib.hid (decide_eq_true (by omega))
          rw [decide_eq_false hl8] at HJ2 HN
          clear hl8
          refine region_keep_tail (fun wq => On u wq) 11 (by kernel_rfl) (by kernel_rfl) (On.refl HU.out.tab).drew ?_
          simp only [List.take_succ_cons, List.take_zero, List.drop_succ_cons, List.drop_zero]
          refine quiet_start fun L9 hL9 => ?_
          refine quiet_take (v := ?bpv0) hL9 (by kernel_rfl) (fun wq hwq => ?bpy0) (fun L9 hL9 => ?bpr0)
          case bpy0 => (go_simp; try with_reducible rfl)
          try simp only [Act.put, List.setIfInBounds_toArray, List.set_cons_zero, List.set_cons_succ]
          refine quiet_take (v := .int .u64 (mc : Int)) hL9 (by kernel_rfl) (fun wq hwq => ?bpy1) (fun L9 hL9 => ?bpr1)
          case bpy1 => (obtain ⟨q0, q1⟩ := HXC.out wq hwq; go_simp; try with_reducible rfl)
          try simp only [Act.put, List.setIfInBounds_toArray, List.set_cons_zero, List.set_cons_succ]
          refine quiet_take (v := ?bpv2) hL9 (by kernel_rfl) (fun wq hwq => ?bpy2) (fun L9 hL9 => ?bpr2)
          case bpy2 => (go_simp; try with_reducible rfl)
          try simp only [Act.put, List.setIfInBounds_toArray, List.set_cons_zero, List.set_cons_succ]
          refine quiet_take (v := .int .i64 S.f) hL9 (by kernel_rfl) (fun wq hwq => ?bpy3) (fun L9 hL9 => ?bpr3)
          case bpy3 => (obtain ⟨s0, s1, s2, s3, s4, s5, s6, s7⟩ := HSY.out wq hwq; go_simp; try with_reducible rfl)
          try simp only [Act.put, List.setIfInBounds_toArray, List.set_cons_zero, List.set_cons_succ]
          refine quiet_take (v := .int .u64 ((pOf S.f : Nat) : Int)) hL9 (by kernel_rfl) (fun wq hwq => ?bpy4) (fun L9 hL9 => ?bpr4)
          case bpy4 => (go_simp; go_at_call 62; exact HP.out wq hwq)
          try simp only [Act.put, List.setIfInBounds_toArray, List.set_cons_zero, List.set_cons_succ]
          refine quiet_take (v := .bool false) hL9 (by kernel_rfl) (fun wq hwq => ?bpy5) (fun L9 hL9 => ?bpr5)
          case bpy5 => (have h1 := HCP.out; go_simp; try (first | with_reducible rfl | exact h1 | (simpa using h1) | (simp only [beq_iff_eq] at h1; exact h1) | (intro h2; rw [h2] at h1; exact absurd h1 (by decide))))
          try simp only [Act.put, List.setIfInBounds_toArray, List.set_cons_zero, List.set_cons_succ]
          refine quiet_take (v := .bool false) hL9 (by kernel_rfl) (fun wq hwq => ?bpy6) (fun L9 hL9 => ?bpr6)
          case bpy6 => (go_simp; try with_reducible rfl)
          try simp only [Act.put, List.setIfInBounds_toArray, List.set_cons_zero, List.set_cons_succ]
          refine quiet_take (v := ?bpv7) hL9 (by kernel_rfl) (fun wq hwq => ?bpy7) (fun L9 hL9 => ?bpr7)
          case bpy7 => (go_simp; try with_reducible rfl)
          try simp only [Act.put, List.setIfInBounds_toArray, List.set_cons_zero, List.set_cons_succ]
          refine quiet_take (v := .slice ma ln mcap) hL9 (by kernel_rfl) (fun wq hwq => ?bpy8) (fun L9 hL9 => ?bpr8)
          case bpy8 => (obtain ⟨q0, q1⟩ := HXC.out wq hwq; go_simp; try with_reducible rfl)
          try simp only [Act.put, List.setIfInBounds_toArray, List.set_cons_zero, List.set_cons_succ]
          refine quiet_take (v := .int .i64 (ln : Int)) hL9 (by kernel_rfl) (fun wq hwq => ?bpy9) (fun L9 hL9 => ?bpr9)
          case bpy9 => (go_simp; try with_reducible rfl; try simp)
          try simp only [Act.put, List.setIfInBounds_toArray, List.set_cons_zero, List.set_cons_succ]
          refine quiet_take (v := .bool true) hL9 (by kernel_rfl) (fun wq hwq => ?bpy10) (fun L9 hL9 => ?bpr10)
          case bpy10 => (have h1 := HLN.out; go_simp; try (first | with_reducible rfl | exact h1 | (simpa using h1) | (simp only [beq_iff_eq] at h1; exact h1) | (intro h2; rw [h2] at h1; exact absurd h1 (by decide))))
          try simp only [Act.put, List.setIfInBounds_toArray, List.set_cons_zero, List.set_cons_succ]
          refine quiet_nil hL9 ?_
          clear hL9
          intro wy hOy
          have HF := Lib.hid (HN.out rfl)
          have hOz := HO0.out.trans (HU.out.trans hOy)
          go_wp2
          go_ret
          exact ⟨by rw [HF.out]; rfl, hOz⟩
        have HLN : Hid (decide ((8 : Int) < (ln : Int)) = false) := Lib.hid (decide_eq_false (by omega))
        rw [decide_eq_true hl8] at HJ2 HN
        refine region_keep_tail (fun wq => On u wq) 11 (by kernel_rfl) (by kernel_rfl) (On.refl HU.out.tab).drew ?_
        simp only [List.take_succ_cons, List.take_zero, List.drop_succ_cons, List.drop_zero]
        refine quiet_start fun L9 hL9 => ?_
        refine quiet_take (v := ?cpv0) hL9 (by kernel_rfl) (fun wq hwq => ?cpy0) (fun L9 hL9 => ?cpr0)
        case cpy0 => (go_simp; try with_reducible rfl)
        try simp only [Act.put, List.setIfInBounds_toArray, List.set_cons_zero, List.set_cons_succ]
        refine quiet_take (v := .int .u64 (mc : Int)) hL9 (by kernel_rfl) (fun wq hwq => ?cpy1) (fun L9 hL9 => ?cpr1)
        case cpy1 => (obtain ⟨q0, q1⟩ := HXC.out wq hwq; go_simp; try with_reducible rfl)
        try simp only [Act.put, List.setIfInBounds_toArray, List.set_cons_zero, List.set_cons_succ]
        refine quiet_take (v := ?cpv2) hL9 (by kernel_rfl) (fun wq hwq => ?cpy2) (fun L9 hL9 => ?cpr2)
        case cpy2 => (go_simp; try with_reducible rfl)
        try simp only [Act.put, List.setIfInBounds_toArray, List.set_cons_zero, List.set_cons_succ]
        refine quiet_take (v := .int .i64 S.f) hL9 (by kernel_rfl) (fun wq hwq => ?cpy3) (fun L9 hL9 => ?cpr3)
        case cpy3 => (obtain ⟨s0, s1, s2, s3, s4, s5, s6, s7⟩ := HSY.out wq hwq; go_simp; try with_reducible rfl)
        try simp only [Act.put, List.setIfInBounds_toArray, List.set_cons_zero, List.set_cons_succ]
        refine quiet_take (v := .int .u64 ((pOf S.f : Nat) : Int)) hL9 (by kernel_rfl) (fun wq hwq => ?cpy4) (fun L9 hL9 => ?cpr4)
        case cpy4 => (go_simp; go_at_call 62; exact HP.out wq hwq)
        try simp only [Act.put, List.setIfInBounds_toArray, List.set_cons_zero, List.set_cons_succ]
        refine quiet_take (v := .bool false) hL9 (by kernel_rfl) (fun wq hwq => ?cpy5) (fun L9 hL9 => ?cpr5)
        case cpy5 => (have h1 := HCP.out; go_simp; try (first | with_reducible rfl | exact h1 | (simpa using h1) | (simp only [beq_iff_eq] at h1; exact h1) | (intro h2; rw [h2] at h1; exact absurd h1 (by decide))))
        try simp only [Act.put, List.setIfInBounds_toArray, List.set_cons_zero, List.set_cons_succ]
        refine quiet_take (v := .bool false) hL9 (by kernel_rfl) (fun wq hwq => ?cpy6) (fun L9 hL9 => ?cpr6)
        case cpy6 => (go_simp; try with_reducible rfl)
        try simp only [Act.put, List.setIfInBounds_toArray, List.set_cons_zero, List.set_cons_succ]
        refine quiet_take (v := ?cpv7) hL9 (by kernel_rfl) (fun wq hwq => ?cpy7) (fun L9 hL9 => ?cpr7)
        case cpy7 => (go_simp; try with_reducible rfl)
        try simp only [Act.put, List.setIfInBounds_toArray, List.set_cons_zero, List.set_cons_succ]
        refine quiet_take (v := .slice ma ln mcap) hL9 (by kernel_rfl) (fun wq hwq => ?cpy8) (fun L9 hL9 => ?cpr8)
        case cpy8 => (obtain ⟨q0, q1⟩ := HXC.out wq hwq; go_simp; try with_reducible rfl)
        try simp only [Act.put, List.setIfInBounds_toArray, List.set_cons_zero, List.set_cons_succ]
        refine quiet_take (v := .int .i64 (ln : Int)) hL9 (by kernel_rfl) (fun wq hwq => ?cpy9) (fun L9 hL9 => ?cpr9)
        case cpy9 => (go_simp; try with_reducible rfl; try simp)
        try simp only [Act.put, List.setIfInBounds_toArray, List.set_cons_zero, List.set_cons_succ]
        refine quiet_take (v := .bool false) hL9 (by kernel_rfl) (fun wq hwq => ?cpy10) (fun L9 hL9 => ?cpr10)
        case cpy10 => (have h1 := HLN.out; go_simp; try (first | with_reducible rfl | exact h1 | (simpa using h1) | (simp only [beq_iff_eq] at h1; exact h1) | (intro h2; rw [h2] at h1; exact absurd h1 (by decide))))
        try simp only [Act.put, List.setIfInBounds_toArray, List.set_cons_zero, List.set_cons_succ]
        refine quiet_nil hL9 ?_
        clear hL9
        intro wy hOy
        have HOy := Lib.hid hOy
        clear hOy
        have hl8i : (ln : Int) ≤ 8 := by omega
        go_wp2_with fail
        go_loopw [8] (fun vk wv => ∃ k : Nat, k ≤ ln ∧ vk = .int .i64 (k : Int) ∧ Hid (∀ j, j < k → vaD S true (vs.getD j zV) = true) ∧ Hid (On W0 wv) ∧ Hid (On u wv)) (fun vk _ => ln - (intOf vk).toNat)
        case atStart => exact ⟨0, Nat.zero_le _, rfl, Lib.hid (fun j hj => absurd hj (Nat.not_lt_zero _)), Lib.hid (HU.out.trans HOy.out), HOy⟩
        case round =>
          rename World => wv
          obtain ⟨k, hk, rfl, HJ3', HOv, HUv⟩ := hrel
          obtain ⟨y0, y1⟩ := HXC.out wv HUv.out
          by_cases hkt : k < ln
          · have hkt' : (k : Int) < (ln : Int) := by omega
            obtain ⟨mb, mo, rfl, hz⟩ := HVC2.out k hkt
            have HZ := Lib.hid hz
            have HJ3 : Hid (vaD S true (vs.getD k zV) = true → ∀ j, j < k + 1 → vaD S true (vs.getD j zV) = true) := fun h j hj => by
              by_cases e : j = k
              · rw [e]; exact h
              · exact HJ3'.out j (by omega)
            have HN2 := Lib.hid (HNO2.out k hkt)
            clear hz HJ3'
            generalize vs.getD k zV = x at *
            obtain ⟨xk, xi⟩ := x
            have e : vaD S true (xk, xi) = (hasV S (xk, xi) && !(true && xk == 2)) := rfl
            rw [e] at HJ3 HN2
            clear e
            have HVX : Hid (∀ wq, On wv wq → wq.cell? ⟨mb, mo + k * 2, none⟩ = some (.int .u8 xk) ∧ wq.cell? ⟨mb, mo + k * 2 + 1, none⟩ = some (.int .i64 xi)) := fun wq h => HZ.out wq (HUv.out.trans h)
            have HWI : Hid (∀ wq, On wv wq → Calls Tryd.prog 152 #[syA S H, .agg #[.int .u8 xk, .int .i64 xi]] wq fun e w' => e = .returned (.bool (hasV S (xk, xi))) ∧ On wv w') := fun wq h => (rwithin_any S H (xk, xi) wq h.tab).mono fun e w' ⟨he, ho⟩ => ⟨he, h.trans ho⟩
            go_upto_region 13 with fail
            clear y0 y1
            have HXC0 := HXC; have HSY0 := HSY
            clear HXC HSY
            have HXC : Hid (∀ wq, On wv wq → wq.cell? ⟨X, 0, none⟩ = some (.int .u64 (mc : Int)) ∧ wq.cell? ⟨X, 1, none⟩ = some (.slice (some ⟨mb, mo, none⟩) ln mcap)) := fun wq h => HXC0.out wq (HUv.out.trans h)
            have HSY : Hid (∀ wq, On wv wq → _) := fun wq h => sy_cells ((HB0.out.on HOv.out).on h)
            generalize hasV S (xk, xi) = HH at *
            cases HH with
            | false =>
              refine region_keep_tail (fun wq => On wv wq) 19 (by kernel_rfl) (by kernel_rfl) (On.refl HOv.out.tab).drew ?_
              simp only [List.take_succ_cons, List.take_zero, List.drop_succ_cons, List.drop_zero]
              refine quiet_start fun L9 hL9 => ?_
              refine quiet_take (v := syA S H) hL9 (by kernel_rfl) (fun wq hwq => ?dpy0) (fun L9 hL9 => ?dpr0)
              case dpy0 => (obtain ⟨s0, s1, s2, s3, s4, s5, s6, s7⟩ := HSY.out wq hwq; go_simp; try with_reducible rfl)
              try simp only [Act.put, List.setIfInBounds_toArray, List.set_cons_zero, List.set_cons_succ]
              refine quiet_take (v := ?dpv1) hL9 (by kernel_rfl) (fun wq hwq => ?dpy1) (fun L9 hL9 => ?dpr1)
              case dpy1 => (go_simp; try with_reducible rfl)
              try simp only [Act.put, List.setIfInBounds_toArray, List.set_cons_zero, List.set_cons_succ]
              refine quiet_take (v := .slice (some ⟨mb, mo, none⟩) ln mcap) hL9 (by kernel_rfl) (fun wq hwq => ?dpy2) (fun L9 hL9 => ?dpr2)
              case dpy2 => (obtain ⟨q0, q1⟩ := HXC.out wq hwq; go_simp; try with_reducible rfl)
              try simp only [Act.put, List.setIfInBounds_toArray, List.set_cons_zero, List.set_cons_succ]
              refine quiet_take (v := ?dpv3) hL9 (by kernel_rfl) (fun wq hwq => ?dpy3) (fun L9 hL9 => ?dpr3)
              case dpy3 => (go_simp; try with_reducible rfl)
              try simp only [Act.put, List.setIfInBounds_toArray, List.set_cons_zero, List.set_cons_succ]
              refine quiet_take (v := ?dpv4) hL9 (by kernel_rfl) (fun wq hwq => ?dpy4) (fun L9 hL9 => ?dpr4)
              case dpy4 => (go_simp; try with_reducible rfl)
              try simp only [Act.put, List.setIfInBounds_toArray, List.set_cons_zero, List.set_cons_succ]
              refine quiet_take (v := .agg #[.int .u8 xk, .int .i64 xi]) hL9 (by kernel_rfl) (fun wq hwq => ?dpy5) (fun L9 hL9 => ?dpr5)
              case dpy5 => (obtain ⟨z0, z1⟩ := HVX.out wq hwq; go_simp; try with_reducible rfl)
              try simp only [Act.put, List.setIfInBounds_toArray, List.set_cons_zero, List.set_cons_succ]
              refine quiet_take (v := .bool false) hL9 (by kernel_rfl) (fun wq hwq => ?dpy6) (fun L9 hL9 => ?dpr6)
              case dpy6 => (go_simp; go_at_call 152; exact HWI.out wq hwq)
              try simp only [Act.put, List.setIfInBounds_toArray, List.set_cons_zero, List.set_cons_succ]
              refine quiet_take (v := .bool true) hL9 (by kernel_rfl) (fun wq hwq => ?dpy7) (fun L9 hL9 => ?dpr7)
              case dpy7 => (go_simp; try with_reducible rfl)
              try simp only [Act.put, List.setIfInBounds_toArray, List.set_cons_zero, List.set_cons_succ]
              refine quiet_take (v := .bool true) hL9 (by kernel_rfl) (fun wq hwq => ?dpy8) (fun L9 hL9 => ?dpr8)
              case dpy8 => (go_simp; try with_reducible rfl)
              try simp only [Act.put, List.setIfInBounds_toArray, List.set_cons_zero, List.set_cons_succ]
              refine quiet_skip hL9 (by kernel_rfl) (fun L9 hL9 => ?_)
              try simp only [Act.put, List.setIfInBounds_toArray, List.set_cons_zero, List.set_cons_succ]
              refine quiet_skip hL9 (by kernel_rfl) (fun L9 hL9 => ?_)
              try simp only [Act.put, List.setIfInBounds_toArray, List.set_cons_zero, List.set_cons_succ]
              refine quiet_skip hL9 (by kernel_rfl) (fun L9 hL9 => ?_)
              try simp only [Act.put, List.setIfInBounds_toArray, List.set_cons_zero, List.set_cons_succ]
              refine quiet_skip hL9 (by kernel_rfl) (fun L9 hL9 => ?_)
              try simp only [Act.put, List.setIfInBounds_toArray, List.set_cons_zero, List.set_cons_succ]
              refine quiet_skip hL9 (by kernel_rfl) (fun L9 hL9 => ?_)
              try simp only [Act.put, List.setIfInBounds_toArray, List.set_cons_zero, List.set_cons_succ]
              refine quiet_skip hL9 (by kernel_rfl) (fun L9 hL9 => ?_)
              try simp only [Act.put, List.setIfInBounds_toArray, List.set_cons_zero, List.set_cons_succ]
              refine quiet_skip hL9 (by kernel_rfl) (fun L9 hL9 => ?_)
              try simp only [Act.put, List.setIfInBounds_toArray, List.set_cons_zero, List.set_cons_succ]
              refine quiet_skip hL9 (by kernel_rfl) (fun L9 hL9 => ?_)
              try simp only [Act.put, List.setIfInBounds_toArray, List.set_cons_zero, List.set_cons_succ]
              refine quiet_skip hL9 (by kernel_rfl) (fun L9 hL9 => ?_)
              try simp only [Act.put, List.setIfInBounds_toArray, List.set_cons_zero, List.set_cons_succ]
              refine quiet_skip hL9 (by kernel_rfl) (fun L9 hL9 => ?_)
              try simp only [Act.put, List.setIfInBounds_toArray, List.set_cons_zero, List.set_cons_succ]
              refine quiet_nil hL9 ?_
              clear hL9
              intro wy hOy
              have HF := Lib.hid (HN.out (by rw [HN2.out rfl]; rfl))
              have hOz := HO0.out.trans (HOv.out.trans hOy)
              go_wp2
              go_ret
              exact ⟨by rw [HF.out]; rfl, hOz⟩
            | true =>
              by_cases h2 : xk = 2
              · have HE2 : Hid ((xk == 2) = true) := Lib.hid (by simp [h2])
                have e3 := HE2.out
                rw [e3] at HJ3 HN2
                clear e3 h2
                refine region_keep_tail (fun wq => On wv wq) 19 (by kernel_rfl) (by kernel_rfl) (On.refl HOv.out.tab).drew ?_
                simp only [List.take_succ_cons, List.take_zero, List.drop_succ_cons, List.drop_zero]
                refine quiet_start fun L9 hL9 => ?_
                refine quiet_take (v := syA S H) hL9 (by kernel_rfl) (fun wq hwq => ?fpy0) (fun L9 hL9 => ?fpr0)
                case fpy0 => (obtain ⟨s0, s1, s2, s3, s4, s5, s6, s7⟩ := HSY.out wq hwq; go_simp; try with_reducible rfl)
                try simp only [Act.put, List.setIfInBounds_toArray, List.set_cons_zero, List.set_cons_succ]
                refine quiet_take (v := ?fpv1) hL9 (by kernel_rfl) (fun wq hwq => ?fpy1) (fun L9 hL9 => ?fpr1)
                case fpy1 => (go_simp; try with_reducible rfl)
                try simp only [Act.put, List.setIfInBounds_toArray, List.set_cons_zero, List.set_cons_succ]
                refine quiet_take (v := .slice (some ⟨mb, mo, none⟩) ln mcap) hL9 (by kernel_rfl) (fun wq hwq => ?fpy2) (fun L9 hL9 => ?fpr2)
                case fpy2 => (obtain ⟨q0, q1⟩ := HXC.out wq hwq; go_simp; try with_reducible rfl)
                try simp only [Act.put, List.setIfInBounds_toArray, List.set_cons_zero, List.set_cons_succ]
                refine quiet_take (v := ?fpv3) hL9 (by kernel_rfl) (fun wq hwq => ?fpy3) (fun L9 hL9 => ?fpr3)
                case fpy3 => (go_simp; try with_reducible rfl)
                try simp only [Act.put, List.setIfInBounds_toArray, List.set_cons_zero, List.set_cons_succ]
                refine quiet_take (v := ?fpv4) hL9 (by kernel_rfl) (fun wq hwq => ?fpy4) (fun L9 hL9 => ?fpr4)
                case fpy4 => (go_simp; try with_reducible rfl)
                try simp only [Act.put, List.setIfInBounds_toArray, List.set_cons_zero, List.set_cons_succ]
                refine quiet_take (v := .agg #[.int .u8 xk, .int .i64 xi]) hL9 (by kernel_rfl) (fun wq hwq => ?fpy5) (fun L9 hL9 => ?fpr5)
                case fpy5 => (obtain ⟨z0, z1⟩ := HVX.out wq hwq; go_simp; try with_reducible rfl)
                try simp only [Act.put, List.setIfInBounds_toArray, List.set_cons_zero, List.set_cons_succ]
                refine quiet_take (v := .bool true) hL9 (by kernel_rfl) (fun wq hwq => ?fpy6) (fun L9 hL9 => ?fpr6)
                case fpy6 => (go_simp; go_at_call 152; exact HWI.out wq hwq)
                try simp only [Act.put, List.setIfInBounds_toArray, List.set_cons_zero, List.set_cons_succ]
                refine quiet_take (v := .bool false) hL9 (by kernel_rfl) (fun wq hwq => ?fpy7) (fun L9 hL9 => ?fpr7)
                case fpy7 => (go_simp; try with_reducible rfl)
                try simp only [Act.put, List.setIfInBounds_toArray, List.set_cons_zero, List.set_cons_succ]
                refine quiet_take (v := .bool false) hL9 (by kernel_rfl) (fun wq hwq => ?fpy8) (fun L9 hL9 => ?fpr8)
                case fpy8 => (go_simp; try with_reducible rfl)
                try simp only [Act.put, List.setIfInBounds_toArray, List.set_cons_zero, List.set_cons_succ]
                refine quiet_take (v := .bool true) hL9 (by kernel_rfl) (fun wq hwq => ?fpy9) (fun L9 hL9 => ?fpr9)
                case fpy9 => (go_simp; try with_reducible rfl)
                try simp only [Act.put, List.setIfInBounds_toArray, List.set_cons_zero, List.set_cons_succ]
                refine quiet_take (v := .bool true) hL9 (by kernel_rfl) (fun wq hwq => ?fpy10) (fun L9 hL9 => ?fpr10)
                case fpy10 => (go_simp; try with_reducible rfl)
                try simp only [Act.put, List.setIfInBounds_toArray, List.set_cons_zero, List.set_cons_succ]
                refine quiet_take (v := ?fpv11) hL9 (by kernel_rfl) (fun wq hwq => ?fpy11) (fun L9 hL9 => ?fpr11)
                case fpy11 => (go_simp; try with_reducible rfl)
                try simp only [Act.put, List.setIfInBounds_toArray, List.set_cons_zero, List.set_cons_succ]
                refine quiet_take (v := .slice (some ⟨mb, mo, none⟩) ln mcap) hL9 (by kernel_rfl) (fun wq hwq => ?fpy12) (fun L9 hL9 => ?fpr12)
                case fpy12 => (obtain ⟨q0, q1⟩ := HXC.out wq hwq; go_simp; try with_reducible rfl)
                try simp only [Act.put, List.setIfInBounds_toArray, List.set_cons_zero, List.set_cons_succ]
                refine quiet_take (v := ?fpv13) hL9 (by kernel_rfl) (fun wq hwq => ?fpy13) (fun L9 hL9 => ?fpr13)
                case fpy13 => (go_simp; try with_reducible rfl)
                try simp only [Act.put, List.setIfInBounds_toArray, List.set_cons_zero, List.set_cons_succ]
                refine quiet_take (v := ?fpv14) hL9 (by kernel_rfl) (fun wq hwq => ?fpy14) (fun L9 hL9 => ?fpr14)
                case fpy14 => (go_simp; try with_reducible rfl)
                try simp only [Act.put, List.setIfInBounds_toArray, List.set_cons_zero, List.set_cons_succ]
                refine quiet_take (v := ?fpv15) hL9 (by kernel_rfl) (fun wq hwq => ?fpy15) (fun L9 hL9 => ?fpr15)
                case fpy15 => (go_simp; try with_reducible rfl)
                try simp only [Act.put, List.setIfInBounds_toArray, List.set_cons_zero, List.set_cons_succ]
                refine quiet_take (v := .int .u8 xk) hL9 (by kernel_rfl) (fun wq hwq => ?fpy16) (fun L9 hL9 => ?fpr16)
                case fpy16 => (obtain ⟨z0, z1⟩ := HVX.out wq hwq; go_simp; try with_reducible rfl)
                try simp only [Act.put, List.setIfInBounds_toArray, List.set_cons_zero, List.set_cons_succ]
                refine quiet_take (v := .bool true) hL9 (by kernel_rfl) (fun wq hwq => ?fpy17) (fun L9 hL9 => ?fpr17)
                case fpy17 => (have h1 := HE2.out; go_simp; try (first | with_reducible rfl | exact h1 | (simpa using h1) | (simp only [beq_iff_eq] at h1; exact h1) | (intro h2; rw [h2] at h1; exact absurd h1 (by decide))))
                try simp only [Act.put, List.setIfInBounds_toArray, List.set_cons_zero, List.set_cons_succ]
                refine quiet_take (v := .bool true) hL9 (by kernel_rfl) (fun wq hwq => ?fpy18) (fun L9 hL9 => ?fpr18)
                case fpy18 => (go_simp; try with_reducible rfl)
                try simp only [Act.put, List.setIfInBounds_toArray, List.set_cons_zero, List.set_cons_succ]
                refine quiet_nil hL9 ?_
                clear hL9
                intro wy hOy
                have HF := Lib.hid (HN.out (by rw [HN2.out rfl]; rfl))
                have hOz := HO0.out.trans (HOv.out.trans hOy)
                go_wp2
                go_ret
                exact ⟨by rw [HF.out]; rfl, hOz⟩
              · have HE2 : Hid ((xk == 2) = false) := Lib.hid (beq_no h2)
                have e3 := HE2.out
                rw [e3] at HJ3 HN2
                clear e3 h2
                refine region_keep_tail (fun wq => On wv wq) 19 (by kernel_rfl) (by kernel_rfl) (On.refl HOv.out.tab).drew ?_
                simp only [List.take_succ_cons, List.take_zero, List.drop_succ_cons, List.drop_zero]
                refine quiet_start fun L9 hL9 => ?_
                refine quiet_take (v := syA S H) hL9 (by kernel_rfl) (fun wq hwq => ?gpy0) (fun L9 hL9 => ?gpr0)
                case gpy0 => (obtain ⟨s0, s1, s2, s3, s4, s5, s6, s7⟩ := HSY.out wq hwq; go_simp; try with_reducible rfl)
                try simp only [Act.put, List.setIfInBounds_toArray, List.set_cons_zero, List.set_cons_succ]
                refine quiet_take (v := ?gpv1) hL9 (by kernel_rfl) (fun wq hwq => ?gpy1) (fun L9 hL9 => ?gpr1)
                case gpy1 => (go_simp; try with_reducible rfl)
                try simp only [Act.put, List.setIfInBounds_toArray, List.set_cons_zero, List.set_cons_succ]
                refine quiet_take (v := .slice (some ⟨mb, mo, none⟩) ln mcap) hL9 (by kernel_rfl) (fun wq hwq => ?gpy2) (fun L9 hL9 => ?gpr2)
                case gpy2 => (obtain ⟨q0, q1⟩ := HXC.out wq hwq; go_simp; try with_reducible rfl)
                try simp only [Act.put, List.setIfInBounds_toArray, List.set_cons_zero, List.set_cons_succ]
                refine quiet_take (v := ?gpv3) hL9 (by kernel_rfl) (fun wq hwq => ?gpy3) (fun L9 hL9 => ?gpr3)
                case gpy3 => (go_simp; try with_reducible rfl)
                try simp only [Act.put, List.setIfInBounds_toArray, List.set_cons_zero, List.set_cons_succ]
                refine quiet_take (v := ?gpv4) hL9 (by kernel_rfl) (fun wq hwq => ?gpy4) (fun L9 hL9 => ?gpr4)
                case gpy4 => (go_simp; try with_reducible rfl)
                try simp only [Act.put, List.setIfInBounds_toArray, List.set_cons_zero, List.set_cons_succ]
                refine quiet_take (v := .agg #[.int .u8 xk, .int .i64 xi]) hL9 (by kernel_rfl) (fun wq hwq => ?gpy5) (fun L9 hL9 => ?gpr5)
                case gpy5 => (obtain ⟨z0, z1⟩ := HVX.out wq hwq; go_simp; try with_reducible rfl)
                try simp only [Act.put, List.setIfInBounds_toArray, List.set_cons_zero, List.set_cons_succ]
                refine quiet_take (v := .bool true) hL9 (by kernel_rfl) (fun wq hwq => ?gpy6) (fun L9 hL9 => ?gpr6)
                case gpy6 => (go_simp; go_at_call 152; exact HWI.out wq hwq)
                try simp only [Act.put, List.setIfInBounds_toArray, List.set_cons_zero, List.set_cons_succ]
                refine quiet_take (v := .bool false) hL9 (by kernel_rfl) (fun wq hwq => ?gpy7) (fun L9 hL9 => ?gpr7)
                case gpy7 => (go_simp; try with_reducible rfl)
                try simp only [Act.put, List.setIfInBounds_toArray, List.set_cons_zero, List.set_cons_succ]
                refine quiet_take (v := .bool false) hL9 (by kernel_rfl) (fun wq hwq => ?gpy8) (fun L9 hL9 => ?gpr8)
                case gpy8 => (go_simp; try with_reducible rfl)
                try simp only [Act.put, List.setIfInBounds_toArray, List.set_cons_zero, List.set_cons_succ]
                refine quiet_take (v := .bool true) hL9 (by kernel_rfl) (fun wq hwq => ?gpy9) (fun L9 hL9 => ?gpr9)
                case gpy9 => (go_simp; try with_reducible rfl)
                try simp only [Act.put, List.setIfInBounds_toArray, List.set_cons_zero, List.set_cons_succ]
                refine quiet_take (v := .bool true) hL9 (by kernel_rfl) (fun wq hwq => ?gpy10) (fun L9 hL9 => ?gpr10)
                case gpy10 => (go_simp; try with_reducible rfl)
                try simp only [Act.put, List.setIfInBounds_toArray, List.set_cons_zero, List.set_cons_succ]
                refine quiet_take (v := ?gpv11) hL9 (by kernel_rfl) (fun wq hwq => ?gpy11) (fun L9 hL9 => ?gpr11)
                case gpy11 => (go_simp; try with_reducible rfl)
                try simp only [Act.put, List.setIfInBounds_toArray, List.set_cons_zero, List.set_cons_succ]
                refine quiet_take (v := .slice (some ⟨mb, mo, none⟩) ln mcap) hL9 (by kernel_rfl) (fun wq hwq => ?gpy12) (fun L9 hL9 => ?gpr12)
                case gpy12 => (obtain ⟨q0, q1⟩ := HXC.out wq hwq; go_simp; try with_reducible rfl)
                try simp only [Act.put, List.setIfInBounds_toArray, List.set_cons_zero, List.set_cons_succ]
                refine quiet_take (v := ?gpv13) hL9 (by kernel_rfl) (fun wq hwq => ?gpy13) (fun L9 hL9 => ?gpr13)
                case gpy13 => (go_simp; try with_reducible rfl)
                try simp only [Act.put, List.setIfInBounds_toArray, List.set_cons_zero, List.set_cons_succ]
                refine quiet_take (v := ?gpv14) hL9 (by kernel_rfl) (fun wq hwq => ?gpy14) (fun L9 hL9 => ?gpr14)
                case gpy14 => (go_simp; try with_reducible rfl)
                try simp only [Act.put, List.setIfInBounds_toArray, List.set_cons_zero, List.set_cons_succ]
                refine quiet_take (v := ?gpv15) hL9 (by kernel_rfl) (fun wq hwq => ?gpy15) (fun L9 hL9 => ?gpr15)
                case gpy15 => (go_simp; try with_reducible rfl)
                try simp only [Act.put, List.setIfInBounds_toArray, List.set_cons_zero, List.set_cons_succ]
                refine quiet_take (v := .int .u8 xk) hL9 (by kernel_rfl) (fun wq hwq => ?gpy16) (fun L9 hL9 => ?gpr16)
                case gpy16 => (obtain ⟨z0, z1⟩ := HVX.out wq hwq; go_simp; try with_reducible rfl)
                try simp only [Act.put, List.setIfInBounds_toArray, List.set_cons_zero, List.set_cons_succ]
                refine quiet_take (v := .bool false) hL9 (by kernel_rfl) (fun wq hwq => ?gpy17) (fun L9 hL9 => ?gpr17)
                case gpy17 => (have h1 := HE2.out; go_simp; try (first | with_reducible rfl | exact h1 | (simpa using h1) | (simp only [beq_iff_eq] at h1; exact h1) | (intro h2; rw [h2] at h1; exact absurd h1 (by decide))))
                try simp only [Act.put, List.setIfInBounds_toArray, List.set_cons_zero, List.set_cons_succ]
                refine quiet_take (v := .bool false) hL9 (by kernel_rfl) (fun wq hwq => ?gpy18) (fun L9 hL9 => ?gpr18)
                case gpy18 => (go_simp; try with_reducible rfl)
                try simp only [Act.put, List.setIfInBounds_toArray, List.set_cons_zero, List.set_cons_succ]
                refine quiet_nil hL9 ?_
                clear hL9
                intro wy hOy
                have HF := Lib.hid (HJ3.out rfl)
                have hOz := Lib.hid (HOv.out.trans hOy)
                have hOu := Lib.hid (HUv.out.trans hOy)
                clear hOy
                go_wp2
                go_roundw
                case rel => exact ⟨k + 1, by omega, by simp, HF, hOz, hOu⟩
                case measure => simp [intOf]; omega
          · obtain rfl : ln = k := by omega
            have HF := Lib.hid (HJ2.out (by rw [HYES2.out HJ3'.out]; rfl))
            clear HJ3'
            go_wp2
            go_roundw
            case rel => exact ⟨i + 1, by omega, by simp, HF, HOv⟩
            case measure => simp [intOf]; omega
      · obtain rfl : n = i := by omega
        have HG := Lib.hid (HYES.out HJ.out)
        clear HJ
        obtain ⟨x0, x1, x2⟩ := HBOX.out wr HO.out
        have HDGr := Lib.hid (HDG.out wr HO.out)
        go_wp2_with (go_at_call 153; (with_reducible refine HDGr.out.mono ?_); rintro e wz ⟨rfl, rfl⟩)
        go_ret
        have e9 : decide (D ≤ 1) = decide ((D : Int) ≤ 1) := decide_eq_decide.2 (by omega)
        exact ⟨by rw [HG.out, e9]; simp, HO0.out.trans HO.out⟩
  · clear H3 HED
    go_wp2_with fail
    clear x0 x1 x2
    go_loopw [6] (fun vi wr => ∃ i : Nat, i ≤ n ∧ vi = .int .i64 (i : Int) ∧ Hid (∀ j, j < i → moD S true (sm.getD j zM) = true) ∧ Hid (On W0 wr)) (fun vi _ => n - (intOf vi).toNat)
    case atStart => exact ⟨0, Nat.zero_le _, rfl, Lib.hid (fun j hj => absurd hj (Nat.not_lt_zero _)), HOK⟩
    case round =>
      rename World => wr
      obtain ⟨i, hi, rfl, HJ, HO⟩ := hrel
      by_cases hlt : i < n
      · have hlt' : (i : Int) < (n : Int) := by omega
        obtain ⟨b, off, ma, mcap, rfl, d0, d1, d2⟩ := HMC.out i hlt
        have hWr := HO0.out.trans HO.out
        have c0 := cell_on hWr d0
        have c1 := cell_on hWr d1
        have HVC := Lib.hid ((d2.on hWr).cells)
        have HMUi := HMU.out i
        have HJ2 : Hid (moD S true (sm.getD i zM) = true → ∀ j, j < i + 1 → moD S true (sm.getD j zM) = true) := fun h j hj => by
          by_cases e : j = i
          · rw [e]; exact h
          · exact HJ.out j (by omega)
        have HN := Lib.hid (HNO.out i hlt)
        clear d0 d1 d2 HJ hWr
        generalize sm.getD i zM = mm at *
        obtain ⟨mc, vs⟩ := mm
        simp only at c0 c1 HMUi
        have e : moD S true (mc, vs) = (decide (mc < pOf S.f) && (decide (vs.length ≤ 8) && vs.all (vaD S true))) := rfl
        rw [e] at HJ2 HN
        clear e
        have HNO2 : Hid (∀ j, j < vs.length → vaD S true (vs.getD j zV) = false → vs.all (vaD S true) = false) := fun j hj h => all_no _ zV vs j hj h
        have HYES2 : Hid ((∀ j, j < vs.length → vaD S true (vs.getD j zV) = true) → vs.all (vaD S true) = true) := fun h => (all_getD _ zV vs).2 h
        generalize vs.all (vaD S true) = VV at *
        generalize hln : vs.length = ln at *
        clear hln
        obtain ⟨x0, x1, x2⟩ := HBOX.out wr HO.out
        go_upto_region 8 with fail
        obtain ⟨u, hu⟩ : ∃ u, u = wr.alloc (.cells #[.int .u64 (mc : Int), .slice ma ln mcap] 78) := ⟨_, rfl⟩
        obtain ⟨X, hX⟩ : ∃ X, X = wr.heap.size := ⟨_, rfl⟩
        rw [← hu, ← hX]
        have hUr : On wr u := by rw [hu]; exact (On.refl HO.out.tab).alloc _
        have HU : Hid (On W0 u) := Lib.hid (HO.out.trans hUr)
        have HBX : Hid (VB X u [.int .u64 (mc : Int), .slice ma ln mcap]) := by rw [hu, hX]; exact Lib.hid (vb_new wr _ _)
        have HXC : Hid (∀ wq, On u wq → wq.cell? ⟨X, 0, none⟩ = some (.int .u64 (mc : Int)) ∧ wq.cell? ⟨X, 1, none⟩ = some (.slice ma ln mcap)) := fun wq h => ⟨(HBX.out.on h).2.1 0 _ rfl, (HBX.out.on h).2.1 1 _ rfl⟩
        have HSY : Hid (∀ wq, On u wq → _) := fun wq h => sy_cells ((HB0.out.on HU.out).on h)
        have HP : Hid (∀ wq, On u wq → Calls Tryd.prog 62 #[.int .i64 S.f] wq fun e w' => e = .returned (.int .u64 ((pOf S.f : Nat) : Int)) ∧ On u w') := fun wq h => (rp_any S.f wq).mono fun e w' ⟨he, ho⟩ => ⟨he, ho ▸ h⟩
        have HVC2 : Hid (∀ k, k < ln → ∃ mb mo, ma = some ⟨mb, mo, none⟩ ∧ ∀ wq, On u wq → wq.cell? ⟨mb, mo + k * 2, none⟩ = some (.int .u8 (vs.getD k zV).1) ∧ wq.cell? ⟨mb, mo + k * 2 + 1, none⟩ = some (.int .i64 (vs.getD k zV).2)) := fun k hk => by
          obtain ⟨mb, mo, e, g0, g1⟩ := HVC.out k hk
          exact ⟨mb, mo, e, fun wq h => ⟨cell_on (hUr.trans h) g0, cell_on (hUr.trans h) g1⟩⟩
        clear hu hX c0 c1 HBX x0 x1 x2 HVC hUr
        by_cases hcp : mc < pOf S.f
        rotate_left
        · have HCP : Hid (decide ((pOf S.f : Int) ≤ (mc : Int)) = true) := Lib.hid (decide_eq_true (by omega))
          rw [decide_eq_false hcp] at HJ2 HN
          clear hcp
          refine region_keep_tail (fun wq => On u wq) 11 (by kernel_rfl) (by kernel_rfl) (On.refl HU.out.tab).drew ?_
          simp only [List.take_succ_cons, List.take_zero, List.drop_succ_cons, List.drop_zero]
          refine quiet_start fun L9 hL9 => ?_
          refine quiet_take (v := ?aqv0) hL9 (by kernel_rfl) (fun wq hwq => ?aqy0) (fun L9 hL9 => ?aqr0)
          case aqy0 => (go_simp; try with_reducible rfl)
          try simp only [Act.put, List.setIfInBounds_toArray, List.set_cons_zero, List.set_cons_succ]
          refine quiet_take (v := .int .u64 (mc : Int)) hL9 (by kernel_rfl) (fun wq hwq => ?aqy1) (fun L9 hL9 => ?aqr1)
          case aqy1 => (obtain ⟨q0, q1⟩ := HXC.out wq hwq; go_simp; try with_reducible rfl)
          try simp only [Act.put, List.setIfInBounds_toArray, List.set_cons_zero, List.set_cons_succ]
          refine quiet_take (v := ?aqv2) hL9 (by kernel_rfl) (fun wq hwq => ?aqy2) (fun L9 hL9 => ?aqr2)
          case aqy2 => (go_simp; try with_reducible rfl)
          try simp only [Act.put, List.setIfInBounds_toArray, List.set_cons_zero, List.set_cons_succ]
          refine quiet_take (v := .int .i64 S.f) hL9 (by kernel_rfl) (fun wq hwq => ?aqy3) (fun L9 hL9 => ?aqr3)
          case aqy3 => (obtain ⟨s0, s1, s2, s3, s4, s5, s6, s7⟩ := HSY.out wq hwq; go_simp; try with_reducible rfl)
          try simp only [Act.put, List.setIfInBounds_toArray, List.set_cons_zero, List.set_cons_succ]
          refine quiet_take (v := .int .u64 ((pOf S.f : Nat) : Int)) hL9 (by kernel_rfl) (fun wq hwq => ?aqy4) (fun L9 hL9 => ?aqr4)
          case aqy4 => (go_simp; go_at_call 62; exact HP.out wq hwq)
          try simp only [Act.put, List.setIfInBounds_toArray, List.set_cons_zero, List.set_cons_succ]
          refine quiet_take (v := .bool true) hL9 (by kernel_rfl) (fun wq hwq => ?aqy5) (fun L9 hL9 => ?aqr5)
          case aqy5 => (have h1 := HCP.out; go_simp; try (first | with_reducible rfl | exact h1 | (simpa using h1) | (simp only [beq_iff_eq] at h1; exact h1) | (intro h2; rw [h2] at h1; exact absurd h1 (by decide))))
          try simp only [Act.put, List.setIfInBounds_toArray, List.set_cons_zero, List.set_cons_succ]
          refine quiet_take (v := .bool true) hL9 (by kernel_rfl) (fun wq hwq => ?aqy6) (fun L9 hL9 => ?aqr6)
          case aqy6 => (go_simp; try with_reducible rfl)
          try simp only [Act.put, List.setIfInBounds_toArray, List.set_cons_zero, List.set_cons_succ]
          refine quiet_skip hL9 (by kernel_rfl) (fun L9 hL9 => ?_)
          try simp only [Act.put, List.setIfInBounds_toArray, List.set_cons_zero, List.set_cons_succ]
          refine quiet_skip hL9 (by kernel_rfl) (fun L9 hL9 => ?_)
          try simp only [Act.put, List.setIfInBounds_toArray, List.set_cons_zero, List.set_cons_succ]
          refine quiet_skip hL9 (by kernel_rfl) (fun L9 hL9 => ?_)
          try simp only [Act.put, List.setIfInBounds_toArray, List.set_cons_zero, List.set_cons_succ]
          refine quiet_skip hL9 (by kernel_rfl) (fun L9 hL9 => ?_)
          try simp only [Act.put, List.setIfInBounds_toArray, List.set_cons_zero, List.set_cons_succ]
          refine quiet_nil hL9 ?_
          clear hL9
          intro wy hOy
          have HF := Lib.hid (HN.out rfl)
          have hOz := HO0.out.trans (HU.out.trans hOy)
          go_wp2
          go_ret
          exact ⟨by rw [HF.out]; rfl, hOz⟩
        have HCP : Hid (decide ((pOf S.f : Int) ≤ (mc : Int)) = false) := Lib.hid (decide_eq_false (by omega))
        rw [decide_eq_true hcp] at HJ2 HN
        clear hcp
        by_cases hl8 : ln ≤ 8
        rotate_left
        · have HLN : Hid (decide ((8 : Int) < (ln : Int)) = true) := Lib.hid (decide_eq_true (by omega))
          rw [decide_eq_false hl8] at HJ2 HN
          clear hl8
          refine region_keep_tail (fun wq => On u wq) 11 (by kernel_rfl) (by kernel_rfl) (On.refl HU.out.tab).drew ?_
          simp only [List.take_succ_cons, List.take_zero, List.drop_succ_cons, List.drop_zero]
          refine quiet_start fun L9 hL9 => ?_
          refine quiet_take (v := ?bqv0) hL9 (by kernel_rfl) (fun wq hwq => ?bqy0) (fun L9 hL9 => ?bqr0)
          case bqy0 => (go_simp; try with_reducible rfl)
          try simp only [Act.put, List.setIfInBounds_toArray, List.set_cons_zero, List.set_cons_succ]
          refine quiet_take (v := .int .u64 (mc : Int)) hL9 (by kernel_rfl) (fun wq hwq => ?bqy1) (fun L9 hL9 => ?bqr1)
          case bqy1 => (obtain ⟨q0, q1⟩ := HXC.out wq hwq; go_simp; try with_reducible rfl)
          try simp only [Act.put, List.setIfInBounds_toArray, List.set_cons_zero, List.set_cons_succ]
          refine quiet_take (v := ?bqv2) hL9 (by kernel_rfl) (fun wq hwq => ?bqy2) (fun L9 hL9 => ?bqr2)
          case bqy2 => (go_simp; try with_reducible rfl)
          try simp only [Act.put, List.setIfInBounds_toArray, List.set_cons_zero, List.set_cons_succ]
          refine quiet_take (v := .int .i64 S.f) hL9 (by kernel_rfl) (fun wq hwq => ?bqy3) (fun L9 hL9 => ?bqr3)
          case bqy3 => (obtain ⟨s0, s1, s2, s3, s4, s5, s6, s7⟩ := HSY.out wq hwq; go_simp; try with_reducible rfl)
          try simp only [Act.put, List.setIfInBounds_toArray, List.set_cons_zero, List.set_cons_succ]
          refine quiet_take (v := .int .u64 ((pOf S.f : Nat) : Int)) hL9 (by kernel_rfl) (fun wq hwq => ?bqy4) (fun L9 hL9 => ?bqr4)
          case bqy4 => (go_simp; go_at_call 62; exact HP.out wq hwq)
          try simp only [Act.put, List.setIfInBounds_toArray, List.set_cons_zero, List.set_cons_succ]
          refine quiet_take (v := .bool false) hL9 (by kernel_rfl) (fun wq hwq => ?bqy5) (fun L9 hL9 => ?bqr5)
          case bqy5 => (have h1 := HCP.out; go_simp; try (first | with_reducible rfl | exact h1 | (simpa using h1) | (simp only [beq_iff_eq] at h1; exact h1) | (intro h2; rw [h2] at h1; exact absurd h1 (by decide))))
          try simp only [Act.put, List.setIfInBounds_toArray, List.set_cons_zero, List.set_cons_succ]
          refine quiet_take (v := .bool false) hL9 (by kernel_rfl) (fun wq hwq => ?bqy6) (fun L9 hL9 => ?bqr6)
          case bqy6 => (go_simp; try with_reducible rfl)
          try simp only [Act.put, List.setIfInBounds_toArray, List.set_cons_zero, List.set_cons_succ]
          refine quiet_take (v := ?bqv7) hL9 (by kernel_rfl) (fun wq hwq => ?bqy7) (fun L9 hL9 => ?bqr7)
          case bqy7 => (go_simp; try with_reducible rfl)
          try simp only [Act.put, List.setIfInBounds_toArray, List.set_cons_zero, List.set_cons_succ]
          refine quiet_take (v := .slice ma ln mcap) hL9 (by kernel_rfl) (fun wq hwq => ?bqy8) (fun L9 hL9 => ?bqr8)
          case bqy8 => (obtain ⟨q0, q1⟩ := HXC.out wq hwq; go_simp; try with_reducible rfl)
          try simp only [Act.put, List.setIfInBounds_toArray, List.set_cons_zero, List.set_cons_succ]
          refine quiet_take (v := .int .i64 (ln : Int)) hL9 (by kernel_rfl) (fun wq hwq => ?bqy9) (fun L9 hL9 => ?bqr9)
          case bqy9 => (go_simp; try with_reducible rfl; try simp)
          try simp only [Act.put, List.setIfInBounds_toArray, List.set_cons_zero, List.set_cons_succ]
          refine quiet_take (v := .bool true) hL9 (by kernel_rfl) (fun wq hwq => ?bqy10) (fun L9 hL9 => ?bqr10)
          case bqy10 => (have h1 := HLN.out; go_simp; try (first | with_reducible rfl | exact h1 | (simpa using h1) | (simp only [beq_iff_eq] at h1; exact h1) | (intro h2; rw [h2] at h1; exact absurd h1 (by decide))))
          try simp only [Act.put, List.setIfInBounds_toArray, List.set_cons_zero, List.set_cons_succ]
          refine quiet_nil hL9 ?_
          clear hL9
          intro wy hOy
          have HF := Lib.hid (HN.out rfl)
          have hOz := HO0.out.trans (HU.out.trans hOy)
          go_wp2
          go_ret
          exact ⟨by rw [HF.out]; rfl, hOz⟩
        have HLN : Hid (decide ((8 : Int) < (ln : Int)) = false) := Lib.hid (decide_eq_false (by omega))
        rw [decide_eq_true hl8] at HJ2 HN
        refine region_keep_tail (fun wq => On u wq) 11 (by kernel_rfl) (by kernel_rfl) (On.refl HU.out.tab).drew ?_
        simp only [List.take_succ_cons, List.take_zero, List.drop_succ_cons, List.drop_zero]
        refine quiet_start fun L9 hL9 => ?_
        refine quiet_take (v := ?cqv0) hL9 (by kernel_rfl) (fun wq hwq => ?cqy0) (fun L9 hL9 => ?cqr0)
        case cqy0 => (go_simp; try with_reducible rfl)
        try simp only [Act.put, List.setIfInBounds_toArray, List.set_cons_zero, List.set_cons_succ]
        refine quiet_take (v := .int .u64 (mc : Int)) hL9 (by kernel_rfl) (fun wq hwq => ?cqy1) (fun L9 hL9 => ?cqr1)
        case cqy1 => (obtain ⟨q0, q1⟩ := HXC.out wq hwq; go_simp; try with_reducible rfl)
        try simp only [Act.put, List.setIfInBounds_toArray, List.set_cons_zero, List.set_cons_succ]
        refine quiet_take (v := ?cqv2) hL9 (by kernel_rfl) (fun wq hwq => ?cqy2) (fun L9 hL9 => ?cqr2)
        case cqy2 => (go_simp; try with_reducible rfl)
        try simp only [Act.put, List.setIfInBounds_toArray, List.set_cons_zero, List.set_cons_succ]
        refine quiet_take (v := .int .i64 S.f) hL9 (by kernel_rfl) (fun wq hwq => ?cqy3) (fun L9 hL9 => ?cqr3)
        case cqy3 => (obtain ⟨s0, s1, s2, s3, s4, s5, s6, s7⟩ := HSY.out wq hwq; go_simp; try with_reducible rfl)
        try simp only [Act.put, List.setIfInBounds_toArray, List.set_cons_zero, List.set_cons_succ]
        refine quiet_take (v := .int .u64 ((pOf S.f : Nat) : Int)) hL9 (by kernel_rfl) (fun wq hwq => ?cqy4) (fun L9 hL9 => ?cqr4)
        case cqy4 => (go_simp; go_at_call 62; exact HP.out wq hwq)
        try simp only [Act.put, List.setIfInBounds_toArray, List.set_cons_zero, List.set_cons_succ]
        refine quiet_take (v := .bool false) hL9 (by kernel_rfl) (fun wq hwq => ?cqy5) (fun L9 hL9 => ?cqr5)
        case cqy5 => (have h1 := HCP.out; go_simp; try (first | with_reducible rfl | exact h1 | (simpa using h1) | (simp only [beq_iff_eq] at h1; exact h1) | (intro h2; rw [h2] at h1; exact absurd h1 (by decide))))
        try simp only [Act.put, List.setIfInBounds_toArray, List.set_cons_zero, List.set_cons_succ]
        refine quiet_take (v := .bool false) hL9 (by kernel_rfl) (fun wq hwq => ?cqy6) (fun L9 hL9 => ?cqr6)
        case cqy6 => (go_simp; try with_reducible rfl)
        try simp only [Act.put, List.setIfInBounds_toArray, List.set_cons_zero, List.set_cons_succ]
        refine quiet_take (v := ?cqv7) hL9 (by kernel_rfl) (fun wq hwq => ?cqy7) (fun L9 hL9 => ?cqr7)
        case cqy7 => (go_simp; try with_reducible rfl)
        try simp only [Act.put, List.setIfInBounds_toArray, List.set_cons_zero, List.set_cons_succ]
        refine quiet_take (v := .slice ma ln mcap) hL9 (by kernel_rfl) (fun wq hwq => ?cqy8) (fun L9 hL9 => ?cqr8)
        case cqy8 => (obtain ⟨q0, q1⟩ := HXC.out wq hwq; go_simp; try with_reducible rfl)
        try simp only [Act.put, List.setIfInBounds_toArray, List.set_cons_zero, List.set_cons_succ]
        refine quiet_take (v := .int .i64 (ln : Int)) hL9 (by kernel_rfl) (fun wq hwq => ?cqy9) (fun L9 hL9 => ?cqr9)
        case cqy9 => (go_simp; try with_reducible rfl; try simp)
        try simp only [Act.put, List.setIfInBounds_toArray, List.set_cons_zero, List.set_cons_succ]
        refine quiet_take (v := .bool false) hL9 (by kernel_rfl) (fun wq hwq => ?cqy10) (fun L9 hL9 => ?cqr10)
        case cqy10 => (have h1 := HLN.out; go_simp; try (first | with_reducible rfl | exact h1 | (simpa using h1) | (simp only [beq_iff_eq] at h1; exact h1) | (intro h2; rw [h2] at h1; exact absurd h1 (by decide))))
        try simp only [Act.put, List.setIfInBounds_toArray, List.set_cons_zero, List.set_cons_succ]
        refine quiet_nil hL9 ?_
        clear hL9
        intro wy hOy
        have HOy := Lib.hid hOy
        clear hOy
        have hl8i : (ln : Int) ≤ 8 := by omega
        go_wp2_with fail
        go_loopw [8] (fun vk wv => ∃ k : Nat, k ≤ ln ∧ vk = .int .i64 (k : Int) ∧ Hid (∀ j, j < k → vaD S true (vs.getD j zV) = true) ∧ Hid (On W0 wv) ∧ Hid (On u wv)) (fun vk _ => ln - (intOf vk).toNat)
        case atStart => exact ⟨0, Nat.zero_le _, rfl, Lib.hid (fun j hj => absurd hj (Nat.not_lt_zero _)), Lib.hid (HU.out.trans HOy.out), HOy⟩
        case round =>
          rename World => wv
          obtain ⟨k, hk, rfl, HJ3', HOv, HUv⟩ := hrel
          obtain ⟨y0, y1⟩ := HXC.out wv HUv.out
          by_cases hkt : k < ln
          · have hkt' : (k : Int) < (ln : Int) := by omega
            obtain ⟨mb, mo, rfl, hz⟩ := HVC2.out k hkt
            have HZ := Lib.hid hz
            have HJ3 : Hid (vaD S true (vs.getD k zV) = true → ∀ j, j < k + 1 → vaD S true (vs.getD j zV) = true) := fun h j hj => by
              by_cases e : j = k
              · rw [e]; exact h
              · exact HJ3'.out j (by omega)
            have HN2 := Lib.hid (HNO2.out k hkt)
            clear hz HJ3'
            generalize vs.getD k zV = x at *
            obtain ⟨xk, xi⟩ := x
            have e : vaD S true (xk, xi) = (hasV S (xk, xi) && !(true && xk == 2)) := rfl
            rw [e] at HJ3 HN2
            clear e
            have HVX : Hid (∀ wq, On wv wq → wq.cell? ⟨mb, mo + k * 2, none⟩ = some (.int .u8 xk) ∧ wq.cell? ⟨mb, mo + k * 2 + 1, none⟩ = some (.int .i64 xi)) := fun wq h => HZ.out wq (HUv.out.trans h)
            have HWI : Hid (∀ wq, On wv wq → Calls Tryd.prog 152 #[syA S H, .agg #[.int .u8 xk, .int .i64 xi]] wq fun e w' => e = .returned (.bool (hasV S (xk, xi))) ∧ On wv w') := fun wq h => (rwithin_any S H (xk, xi) wq h.tab).mono fun e w' ⟨he, ho⟩ => ⟨he, h.trans ho⟩
            go_upto_region 13 with fail
            clear y0 y1
            have HXC0 := HXC; have HSY0 := HSY
            clear HXC HSY
            have HXC : Hid (∀ wq, On wv wq → wq.cell? ⟨X, 0, none⟩ = some (.int .u64 (mc : Int)) ∧ wq.cell? ⟨X, 1, none⟩ = some (.slice (some ⟨mb, mo, none⟩) ln mcap)) := fun wq h => HXC0.out wq (HUv.out.trans h)
            have HSY : Hid (∀ wq, On wv wq → _) := fun wq h => sy_cells ((HB0.out.on HOv.out).on h)
            generalize hasV S (xk, xi) = HH at *
            cases HH with
            | false =>
              refine region_keep_tail (fun wq => On wv wq) 19 (by kernel_rfl) (by kernel_rfl) (On.refl HOv.out.tab).drew ?_
              simp only [List.take_succ_cons, List.take_zero, List.drop_succ_cons, List.drop_zero]
              refine quiet_start fun L9 hL9 => ?_
              refine quiet_take (v := syA S H) hL9 (by kernel_rfl) (fun wq hwq => ?dqy0) (fun L9 hL9 => ?dqr0)
              case dqy0 => (obtain ⟨s0, s1, s2, s3, s4, s5, s6, s7⟩ := HSY.out wq hwq; go_simp; try with_reducible rfl)
              try simp only [Act.put, List.setIfInBounds_toArray, List.set_cons_zero, List.set_cons_succ]
              refine quiet_take (v := ?dqv1) hL9 (by kernel_rfl) (fun wq hwq => ?dqy1) (fun L9 hL9 => ?dqr1)
              case dqy1 => (go_simp; try with_reducible rfl)
              try simp only [Act.put, List.setIfInBounds_toArray, List.set_cons_zero, List.set_cons_succ]
              refine quiet_take (v := .slice (some ⟨mb, mo, none⟩) ln mcap) hL9 (by kernel_rfl) (fun wq hwq => ?dqy2) (fun L9 hL9 => ?dqr2)
              case dqy2 => (obtain ⟨q0, q1⟩ := HXC.out wq hwq; go_simp; try with_reducible rfl)
              try simp only [Act.put, List.setIfInBounds_toArray, List.set_cons_zero, List.set_cons_succ]
              refine quiet_take (v := ?dqv3) hL9 (by kernel_rfl) (fun wq hwq => ?dqy3) (fun L9 hL9 => ?dqr3)
              case dqy3 => (go_simp; try with_reducible rfl)
              try simp only [Act.put, List.setIfInBounds_toArray, List.set_cons_zero, List.set_cons_succ]
              refine quiet_take (v := ?dqv4) hL9 (by kernel_rfl) (fun wq hwq => ?dqy4) (fun L9 hL9 => ?dqr4)
              case dqy4 => (go_simp; try with_reducible rfl)
              try simp only [Act.put, List.setIfInBounds_toArray, List.set_cons_zero, List.set_cons_succ]
              refine quiet_take (v := .agg #[.int .u8 xk, .int .i64 xi]) hL9 (by kernel_rfl) (fun wq hwq => ?dqy5) (fun L9 hL9 => ?dqr5)
              case dqy5 => (obtain ⟨z0, z1⟩ := HVX.out wq hwq; go_simp; try with_reducible rfl)
              try simp only [Act.put, List.setIfInBounds_toArray, List.set_cons_zero, List.set_cons_succ]
              refine quiet_take (v := .bool false) hL9 (by kernel_rfl) (fun wq hwq => ?dqy6) (fun L9 hL9 => ?dqr6)
              case dqy6 => (go_simp; go_at_call 152; exact HWI.out wq hwq)
              try simp only [Act.put, List.setIfInBounds_toArray, List.set_cons_zero, List.set_cons_succ]
              refine quiet_take (v := .bool true) hL9 (by kernel_rfl) (fun wq hwq => ?dqy7) (fun L9 hL9 => ?dqr7)
              case dqy7 => (go_simp; try with_reducible rfl)
              try simp only [Act.put, List.setIfInBounds_toArray, List.set_cons_zero, List.set_cons_succ]
              refine quiet_take (v := .bool true) hL9 (by kernel_rfl) (fun wq hwq => ?dqy8) (fun L9 hL9 => ?dqr8)
              case dqy8 => (go_simp; try with_reducible rfl)
              try simp only [Act.put, List.setIfInBounds_toArray, List.set_cons_zero, List.set_cons_succ]
              refine quiet_skip hL9 (by kernel_rfl) (fun L9 hL9 => ?_)
              try simp only [Act.put, List.setIfInBounds_toArray, List.set_cons_zero, List.set_cons_succ]
              refine quiet_skip hL9 (by kernel_rfl) (fun L9 hL9 => ?_)
              try simp only [Act.put, List.setIfInBounds_toArray, List.set_cons_zero, List.set_cons_succ]
              refine quiet_skip hL9 (by kernel_rfl) (fun L9 hL9 => ?_)
              try simp only [Act.put, List.setIfInBounds_toArray, List.set_cons_zero, List.set_cons_succ]
              refine quiet_skip hL9 (by kernel_rfl) (fun L9 hL9 => ?_)
              try simp only [Act.put, List.setIfInBounds_toArray, List.set_cons_zero, List.set_cons_succ]
              refine quiet_skip hL9 (by kernel_rfl) (fun L9 hL9 => ?_)
              try simp only [Act.put, List.setIfInBounds_toArray, List.set_cons_zero, List.set_cons_succ]
              refine quiet_skip hL9 (by kernel_rfl) (fun L9 hL9 => ?_)
              try simp only [Act.put, List.setIfInBounds_toArray, List.set_cons_zero, List.set_cons_succ]
              refine quiet_skip hL9 (by kernel_rfl) (fun L9 hL9 => ?_)
              try simp only [Act.put, List.setIfInBounds_toArray, List.set_cons_zero, List.set_cons_succ]
              refine quiet_skip hL9 (by kernel_rfl) (fun L9 hL9 => ?_)
              try simp only [Act.put, List.setIfInBounds_toArray, List.set_cons_zero, List.set_cons_succ]
              refine quiet_skip hL9 (by kernel_rfl) (fun L9 hL9 => ?_)
              try simp only [Act.put, List.setIfInBounds_toArray, List.set_cons_zero, List.set_cons_succ]
              refine quiet_skip hL9 (by kernel_rfl) (fun L9 hL9 => ?_)
              try simp only [Act.put, List.setIfInBounds_toArray, List.set_cons_zero, List.set_cons_succ]
              refine quiet_nil hL9 ?_
              clear hL9
              intro wy hOy
              have HF := Lib.hid (HN.out (by rw [HN2.out rfl]; rfl))
              have hOz := HO0.out.trans (HOv.out.trans hOy)
              go_wp2
              go_ret
              exact ⟨by rw [HF.out]; rfl, hOz⟩
            | true =>
              by_cases h2 : xk = 2
              · have HE2 : Hid ((xk == 2) = true) := Lib.hid (by simp [h2])
                have e3 := HE2.out
                rw [e3] at HJ3 HN2
                clear e3 h2
                refine region_keep_tail (fun wq => On wv wq) 19 (by kernel_rfl) (by kernel_rfl) (On.refl HOv.out.tab).drew ?_
                simp only [List.take_succ_cons, List.take_zero, List.drop_succ_cons, List.drop_zero]
                refine quiet_start fun L9 hL9 => ?_
                refine quiet_take (v := syA S H) hL9 (by kernel_rfl) (fun wq hwq => ?fqy0) (fun L9 hL9 => ?fqr0)
                case fqy0 => (obtain ⟨s0, s1, s2, s3, s4, s5, s6, s7⟩ := HSY.out wq hwq; go_simp; try with_reducible rfl)
                try simp only [Act.put, List.setIfInBounds_toArray, List.set_cons_zero, List.set_cons_succ]
                refine quiet_take (v := ?fqv1) hL9 (by kernel_rfl) (fun wq hwq => ?fqy1) (fun L9 hL9 => ?fqr1)
                case fqy1 => (go_simp; try with_reducible rfl)
                try simp only [Act.put, List.setIfInBounds_toArray, List.set_cons_zero, List.set_cons_succ]
                refine quiet_take (v := .slice (some ⟨mb, mo, none⟩) ln mcap) hL9 (by kernel_rfl) (fun wq hwq => ?fqy2) (fun L9 hL9 => ?fqr2)
                case fqy2 => (obtain ⟨q0, q1⟩ := HXC.out wq hwq; go_simp; try with_reducible rfl)
                try simp only [Act.put, List.setIfInBounds_toArray, List.set_cons_zero, List.set_cons_succ]
                refine quiet_take (v := ?fqv3) hL9 (by kernel_rfl) (fun wq hwq => ?fqy3) (fun L9 hL9 => ?fqr3)
                case fqy3 => (go_simp; try with_reducible rfl)
                try simp only [Act.put, List.setIfInBounds_toArray, List.set_cons_zero, List.set_cons_succ]
                refine quiet_take (v := ?fqv4) hL9 (by kernel_rfl) (fun wq hwq => ?fqy4) (fun L9 hL9 => ?fqr4)
                case fqy4 => (go_simp; try with_reducible rfl)
                try simp only [Act.put, List.setIfInBounds_toArray, List.set_cons_zero, List.set_cons_succ]
                refine quiet_take (v := .agg #[.int .u8 xk, .int .i64 xi]) hL9 (by kernel_rfl) (fun wq hwq => ?fqy5) (fun L9 hL9 => ?fqr5)
                case fqy5 => (obtain ⟨z0, z1⟩ := HVX.out wq hwq; go_simp; try with_reducible rfl)
                try simp only [Act.put, List.setIfInBounds_toArray, List.set_cons_zero, List.set_cons_succ]
                refine quiet_take (v := .bool true) hL9 (by kernel_rfl) (fun wq hwq => ?fqy6) (fun L9 hL9 => ?fqr6)
                case fqy6 => (go_simp; go_at_call 152; exact HWI.out wq hwq)
                try simp only [Act.put, List.setIfInBounds_toArray, List.set_cons_zero, List.set_cons_succ]
                refine quiet_take (v := .bool false) hL9 (by kernel_rfl) (fun wq hwq => ?fqy7) (fun L9 hL9 => ?fqr7)
                case fqy7 => (go_simp; try with_reducible rfl)
                try simp only [Act.put, List.setIfInBounds_toArray, List.set_cons_zero, List.set_cons_succ]
                refine quiet_take (v := .bool false) hL9 (by kernel_rfl) (fun wq hwq => ?fqy8) (fun L9 hL9 => ?fqr8)
                case fqy8 => (go_simp; try with_reducible rfl)
                try simp only [Act.put, List.setIfInBounds_toArray, List.set_cons_zero, List.set_cons_succ]
                refine quiet_take (v := .bool true) hL9 (by kernel_rfl) (fun wq hwq => ?fqy9) (fun L9 hL9 => ?fqr9)
                case fqy9 => (go_simp; try with_reducible rfl)
                try simp only [Act.put, List.setIfInBounds_toArray, List.set_cons_zero, List.set_cons_succ]
                refine quiet_take (v := .bool true) hL9 (by kernel_rfl) (fun wq hwq => ?fqy10) (fun L9 hL9 => ?fqr10)
                case fqy10 => (go_simp; try with_reducible rfl)
                try simp only [Act.put, List.setIfInBounds_toArray, List.set_cons_zero, List.set_cons_succ]
                refine quiet_take (v := ?fqv11) hL9 (by kernel_rfl) (fun wq hwq => ?fqy11) (fun L9 hL9 => ?fqr11)
                case fqy11 => (go_simp; try with_reducible rfl)
                try simp only [Act.put, List.setIfInBounds_toArray, List.set_cons_zero, List.set_cons_succ]
                refine quiet_take (v := .slice (some ⟨mb, mo, none⟩) ln mcap) hL9 (by kernel_rfl) (fun wq hwq => ?fqy12) (fun L9 hL9 => ?fqr12)
                case fqy12 => (obtain ⟨q0, q1⟩ := HXC.out wq hwq; go_simp; try with_reducible rfl)
                try simp only [Act.put, List.setIfInBounds_toArray, List.set_cons_zero, List.set_cons_succ]
                refine quiet_take (v := ?fqv13) hL9 (by kernel_rfl) (fun wq hwq => ?fqy13) (fun L9 hL9 => ?fqr13)
                case fqy13 => (go_simp; try with_reducible rfl)
                try simp only [Act.put, List.setIfInBounds_toArray, List.set_cons_zero, List.set_cons_succ]
                refine quiet_take (v := ?fqv14) hL9 (by kernel_rfl) (fun wq hwq => ?fqy14) (fun L9 hL9 => ?fqr14)
                case fqy14 => (go_simp; try with_reducible rfl)
                try simp only [Act.put, List.setIfInBounds_toArray, List.set_cons_zero, List.set_cons_succ]
                refine quiet_take (v := ?fqv15) hL9 (by kernel_rfl) (fun wq hwq => ?fqy15) (fun L9 hL9 => ?fqr15)
                case fqy15 => (go_simp; try with_reducible rfl)
                try simp only [Act.put, List.setIfInBounds_toArray, List.set_cons_zero, List.set_cons_succ]
                refine quiet_take (v := .int .u8 xk) hL9 (by kernel_rfl) (fun wq hwq => ?fqy16) (fun L9 hL9 => ?fqr16)
                case fqy16 => (obtain ⟨z0, z1⟩ := HVX.out wq hwq; go_simp; try with_reducible rfl)
                try simp only [Act.put, List.setIfInBounds_toArray, List.set_cons_zero, List.set_cons_succ]
                refine quiet_take (v := .bool true) hL9 (by kernel_rfl) (fun wq hwq => ?fqy17) (fun L9 hL9 => ?fqr17)
                case fqy17 => (have h1 := HE2.out; go_simp; try (first | with_reducible rfl | exact h1 | (simpa using h1) | (simp only [beq_iff_eq] at h1; exact h1) | (intro h2; rw [h2] at h1; exact absurd h1 (by decide))))
                try simp only [Act.put, List.setIfInBounds_toArray, List.set_cons_zero, List.set_cons_succ]
                refine quiet_take (v := .bool true) hL9 (by kernel_rfl) (fun wq hwq => ?fqy18) (fun L9 hL9 => ?fqr18)
                case fqy18 => (go_simp; try with_reducible rfl)
                try simp only [Act.put, List.setIfInBounds_toArray, List.set_cons_zero, List.set_cons_succ]
                refine quiet_nil hL9 ?_
                clear hL9
                intro wy hOy
                have HF := Lib.hid (HN.out (by rw [HN2.out rfl]; rfl))
                have hOz := HO0.out.trans (HOv.out.trans hOy)
                go_wp2
                go_ret
                exact ⟨by rw [HF.out]; rfl, hOz⟩
              · have HE2 : Hid ((xk == 2) = false) := Lib.hid (beq_no h2)
                have e3 := HE2.out
                rw [e3] at HJ3 HN2
                clear e3 h2
                refine region_keep_tail (fun wq => On wv wq) 19 (by kernel_rfl) (by kernel_rfl) (On.refl HOv.out.tab).drew ?_
                simp only [List.take_succ_cons, List.take_zero, List.drop_succ_cons, List.drop_zero]
                refine quiet_start fun L9 hL9 => ?_
                refine quiet_take (v := syA S H) hL9 (by kernel_rfl) (fun wq hwq => ?gqy0) (fun L9 hL9 => ?gqr0)
                case gqy0 => (obtain ⟨s0, s1, s2, s3, s4, s5, s6, s7⟩ := HSY.out wq hwq; go_simp; try with_reducible rfl)
                try simp only [Act.put, List.setIfInBounds_toArray, List.set_cons_zero, List.set_cons_succ]
                refine quiet_take (v := ?gqv1) hL9 (by kernel_rfl) (fun wq hwq => ?gqy1) (fun L9 hL9 => ?gqr1)
                case gqy1 => (go_simp; try with_reducible rfl)
                try simp only [Act.put, List.setIfInBounds_toArray, List.set_cons_zero, List.set_cons_succ]
                refine quiet_take (v := .slice (some ⟨mb, mo, none⟩) ln mcap) hL9 (by kernel_rfl) (fun wq hwq => ?gqy2) (fun L9 hL9 => ?gqr2)
                case gqy2 => (obtain ⟨q0, q1⟩ := HXC.out wq hwq; go_simp; try with_reducible rfl)
                try simp only [Act.put, List.setIfInBounds_toArray, List.set_cons_zero, List.set_cons_succ]
                refine quiet_take (v := ?gqv3) hL9 (by kernel_rfl) (fun wq hwq => ?gqy3) (fun L9 hL9 => ?gqr3)
                case gqy3 => (go_simp; try with_reducible rfl)
                try simp only [Act.put, List.setIfInBounds_toArray, List.set_cons_zero, List.set_cons_succ]
                refine quiet_take (v := ?gqv4) hL9 (by kernel_rfl) (fun wq hwq => ?gqy4) (fun L9 hL9 => ?gqr4)
                case gqy4 => (go_simp; try with_reducible rfl)
                try simp only [Act.put, List.setIfInBounds_toArray, List.set_cons_zero, List.set_cons_succ]
                refine quiet_take (v := .agg #[.int .u8 xk, .int .i64 xi]) hL9 (by kernel_rfl) (fun wq hwq => ?gqy5) (fun L9 hL9 => ?gqr5)
                case gqy5 => (obtain ⟨z0, z1⟩ := HVX.out wq hwq; go_simp; try with_reducible rfl)
                try simp only [Act.put, List.setIfInBounds_toArray, List.set_cons_zero, List.set_cons_succ]
                refine quiet_take (v := .bool true) hL9 (by kernel_rfl) (fun wq hwq => ?gqy6) (fun L9 hL9 => ?gqr6)
                case gqy6 => (go_simp; go_at_call 152; exact HWI.out wq hwq)
                try simp only [Act.put, List.setIfInBounds_toArray, List.set_cons_zero, List.set_cons_succ]
                refine quiet_take (v := .bool false) hL9 (by kernel_rfl) (fun wq hwq => ?gqy7) (fun L9 hL9 => ?gqr7)
                case gqy7 => (go_simp; try with_reducible rfl)
                try simp only [Act.put, List.setIfInBounds_toArray, List.set_cons_zero, List.set_cons_succ]
                refine quiet_take (v := .bool false) hL9 (by kernel_rfl) (fun wq hwq => ?gqy8) (fun L9 hL9 => ?gqr8)
                case gqy8 => (go_simp; try with_reducible rfl)
                try simp only [Act.put, List.setIfInBounds_toArray, List.set_cons_zero, List.set_cons_succ]
                refine quiet_take (v := .bool true) hL9 (by kernel_rfl) (fun wq hwq => ?gqy9) (fun L9 hL9 => ?gqr9)
                case gqy9 => (go_simp; try with_reducible rfl)
                try simp only [Act.put, List.setIfInBounds_toArray, List.set_cons_zero, List.set_cons_succ]
                refine quiet_take (v := .bool true) hL9 (by kernel_rfl) (fun wq hwq => ?gqy10) (fun L9 hL9 => ?gqr10)
                case gqy10 => (go_simp; try with_reducible rfl)
                try simp only [Act.put, List.setIfInBounds_toArray, List.set_cons_zero, List.set_cons_succ]
                refine quiet_take (v := ?gqv11) hL9 (by kernel_rfl) (fun wq hwq => ?gqy11) (fun L9 hL9 => ?gqr11)
                case gqy11 => (go_simp; try with_reducible rfl)
                try simp only [Act.put, List.setIfInBounds_toArray, List.set_cons_zero, List.set_cons_succ]
                refine quiet_take (v := .slice (some ⟨mb, mo, none⟩) ln mcap) hL9 (by kernel_rfl) (fun wq hwq => ?gqy12) (fun L9 hL9 => ?gqr12)
                case gqy12 => (obtain ⟨q0, q1⟩ := HXC.out wq hwq; go_simp; try with_reducible rfl)
                try simp only [Act.put, List.setIfInBounds_toArray, List.set_cons_zero, List.set_cons_succ]
                refine quiet_take (v := ?gqv13) hL9 (by kernel_rfl) (fun wq hwq => ?gqy13) (fun L9 hL9 => ?gqr13)
                case gqy13 => (go_simp; try with_reducible rfl)
                try simp only [Act.put, List.setIfInBounds_toArray, List.set_cons_zero, List.set_cons_succ]
                refine quiet_take (v := ?gqv14) hL9 (by kernel_rfl) (fun wq hwq => ?gqy14) (fun L9 hL9 => ?gqr14)
                case gqy14 => (go_simp; try with_reducible rfl)
                try simp only [Act.put, List.setIfInBounds_toArray, List.set_cons_zero, List.set_cons_succ]
                refine quiet_take (v := ?gqv15) hL9 (by kernel_rfl) (fun wq hwq => ?gqy15) (fun L9 hL9 => ?gqr15)
                case gqy15 => (go_simp; try with_reducible rfl)
                try simp only [Act.put, List.setIfInBounds_toArray, List.set_cons_zero, List.set_cons_succ]
                refine quiet_take (v := .int .u8 xk) hL9 (by kernel_rfl) (fun wq hwq => ?gqy16) (fun L9 hL9 => ?gqr16)
                case gqy16 => (obtain ⟨z0, z1⟩ := HVX.out wq hwq; go_simp; try with_reducible rfl)
                try simp only [Act.put, List.setIfInBounds_toArray, List.set_cons_zero, List.set_cons_succ]
                refine quiet_take (v := .bool false) hL9 (by kernel_rfl) (fun wq hwq => ?gqy17) (fun L9 hL9 => ?gqr17)
                case gqy17 => (have h1 := HE2.out; go_simp; try (first | with_reducible rfl | exact h1 | (simpa using h1) | (simp only [beq_iff_eq] at h1; exact h1) | (intro h2; rw [h2] at h1; exact absurd h1 (by decide))))
                try simp only [Act.put, List.setIfInBounds_toArray, List.set_cons_zero, List.set_cons_succ]
                refine quiet_take (v := .bool false) hL9 (by kernel_rfl) (fun wq hwq => ?gqy18) (fun L9 hL9 => ?gqr18)
                case gqy18 => (go_simp; try with_reducible rfl)
                try simp only [Act.put, List.setIfInBounds_toArray, List.set_cons_zero, List.set_cons_succ]
                refine quiet_nil hL9 ?_
                clear hL9
                intro wy hOy
                have HF := Lib.hid (HJ3.out rfl)
                have hOz := Lib.hid (HOv.out.trans hOy)
                have hOu := Lib.hid (HUv.out.trans hOy)
                clear hOy
                go_wp2
                go_roundw
                case rel => exact ⟨k + 1, by omega, by simp, HF, hOz, hOu⟩
                case measure => simp [intOf]; omega
          · obtain rfl : ln = k := by omega
            have HF := Lib.hid (HJ2.out (by rw [HYES2.out HJ3'.out]; rfl))
            clear HJ3'
            go_wp2
            go_roundw
            case rel => exact ⟨i + 1, by omega, by simp, HF, HOv⟩
            case measure => simp [intOf]; omega
      · obtain rfl : n = i := by omega
        have HG := Lib.hid (HYES.out HJ.out)
        clear HJ
        obtain ⟨x0, x1, x2⟩ := HBOX.out wr HO.out
        have HDGr := Lib.hid (HDG.out wr HO.out)
        go_wp2_with (go_at_call 153; (with_reducible refine HDGr.out.mono ?_); rintro e wz ⟨rfl, rfl⟩)
        go_ret
        have e9 : decide (D ≤ 1) = decide ((D : Int) ≤ 1) := decide_eq_decide.2 (by omega)
        exact ⟨by rw [HG.out, e9]; simp, HO0.out.trans HO.out⟩
  · clear H3 HED
    have e3 := beq_no h3; have e4 := beq_no h4
    clear h3 h4
    go_wp2_with fail
    clear x0 x1 x2
    go_loopw [6] (fun vi wr => ∃ i : Nat, i ≤ n ∧ vi = .int .i64 (i : Int) ∧ Hid (∀ j, j < i → moD S false (sm.getD j zM) = true) ∧ Hid (On W0 wr)) (fun vi _ => n - (intOf vi).toNat)
    case atStart => exact ⟨0, Nat.zero_le _, rfl, Lib.hid (fun j hj => absurd hj (Nat.not_lt_zero _)), HOK⟩
    case round =>
      rename World => wr
      obtain ⟨i, hi, rfl, HJ, HO⟩ := hrel
      by_cases hlt : i < n
      · have hlt' : (i : Int) < (n : Int) := by omega
        obtain ⟨b, off, ma, mcap, rfl, d0, d1, d2⟩ := HMC.out i hlt
        have hWr := HO0.out.trans HO.out
        have c0 := cell_on hWr d0
        have c1 := cell_on hWr d1
        have HVC := Lib.hid ((d2.on hWr).cells)
        have HMUi := HMU.out i
        have HJ2 : Hid (moD S false (sm.getD i zM) = true → ∀ j, j < i + 1 → moD S false (sm.getD j zM) = true) := fun h j hj => by
          by_cases e : j = i
          · rw [e]; exact h
          · exact HJ.out j (by omega)
        have HN := Lib.hid (HNO.out i hlt)
        clear d0 d1 d2 HJ hWr
        generalize sm.getD i zM = mm at *
        obtain ⟨mc, vs⟩ := mm
        simp only at c0 c1 HMUi
        have e : moD S false (mc, vs) = (decide (mc < pOf S.f) && (decide (vs.length ≤ 8) && vs.all (vaD S false))) := rfl
        rw [e] at HJ2 HN
        clear e
        have HNO2 : Hid (∀ j, j < vs.length → vaD S false (vs.getD j zV) = false → vs.all (vaD S false) = false) := fun j hj h => all_no _ zV vs j hj h
        have HYES2 : Hid ((∀ j, j < vs.length → vaD S false (vs.getD j zV) = true) → vs.all (vaD S false) = true) := fun h => (all_getD _ zV vs).2 h
        generalize vs.all (vaD S false) = VV at *
        generalize hln : vs.length = ln at *
        clear hln
        obtain ⟨x0, x1, x2⟩ := HBOX.out wr HO.out
        go_upto_region 8 with fail
        obtain ⟨u, hu⟩ : ∃ u, u = wr.alloc (.cells #[.int .u64 (mc : Int), .slice ma ln mcap] 78) := ⟨_, rfl⟩
        obtain ⟨X, hX⟩ : ∃ X, X = wr.heap.size := ⟨_, rfl⟩
        rw [← hu, ← hX]
        have hUr : On wr u := by rw [hu]; exact (On.refl HO.out.tab).alloc _
        have HU : Hid (On W0 u) := Lib.hid (HO.out.trans hUr)
        have HBX : Hid (VB X u [.int .u64 (mc : Int), .slice ma ln mcap]) := by rw [hu, hX]; exact Lib.hid (vb_new wr _ _)
        have HXC : Hid (∀ wq, On u wq → wq.cell? ⟨X, 0, none⟩ = some (.int .u64 (mc : Int)) ∧ wq.cell? ⟨X, 1, none⟩ = some (.slice ma ln mcap)) := fun wq h => ⟨(HBX.out.on h).2.1 0 _ rfl, (HBX.out.on h).2.1 1 _ rfl⟩
        have HSY : Hid (∀ wq, On u wq → _) := fun wq h => sy_cells ((HB0.out.on HU.out).on h)
        have HP : Hid (∀ wq, On u wq → Calls Tryd.prog 62 #[.int .i64 S.f] wq fun e w' => e = .returned (.int .u64 ((pOf S.f : Nat) : Int)) ∧ On u w') := fun wq h => (rp_any S.f wq).mono fun e w' ⟨he, ho⟩ => ⟨he, ho ▸ h⟩
        have HVC2 : Hid (∀ k, k < ln → ∃ mb mo, ma = some ⟨mb, mo, none⟩ ∧ ∀ wq, On u wq → wq.cell? ⟨mb, mo + k * 2, none⟩ = some (.int .u8 (vs.getD k zV).1) ∧ wq.cell? ⟨mb, mo + k * 2 + 1, none⟩ = some (.int .i64 (vs.getD k zV).2)) := fun k hk => by
          obtain ⟨mb, mo, e, g0, g1⟩ := HVC.out k hk
          exact ⟨mb, mo, e, fun wq h => ⟨cell_on (hUr.trans h) g0, cell_on (hUr.trans h) g1⟩⟩
        clear hu hX c0 c1 HBX x0 x1 x2 HVC hUr
        by_cases hcp : mc < pOf S.f
        rotate_left
        · have HCP : Hid (decide ((pOf S.f : Int) ≤ (mc : Int)) = true) := Lib.hid (decide_eq_true (by omega))
          rw [decide_eq_false hcp] at HJ2 HN
          clear hcp
          refine region_keep_tail (fun wq => On u wq) 11 (by kernel_rfl) (by kernel_rfl) (On.refl HU.out.tab).drew ?_
          simp only [List.take_succ_cons, List.take_zero, List.drop_succ_cons, List.drop_zero]
          refine quiet_start fun L9 hL9 => ?_
          refine quiet_take (v := ?arv0) hL9 (by kernel_rfl) (fun wq hwq => ?ary0) (fun L9 hL9 => ?arr0)
          case ary0 => (go_simp; try with_reducible rfl)
          try simp only [Act.put, List.setIfInBounds_toArray, List.set_cons_zero, List.set_cons_succ]
          refine quiet_take (v := .int .u64 (mc : Int)) hL9 (by kernel_rfl) (fun wq hwq => ?ary1) (fun L9 hL9 => ?arr1)
          case ary1 => (obtain ⟨q0, q1⟩ := HXC.out wq hwq; go_simp; try with_reducible rfl)
          try simp only [Act.put, List.setIfInBounds_toArray, List.set_cons_zero, List.set_cons_succ]
          refine quiet_take (v := ?arv2) hL9 (by kernel_rfl) (fun wq hwq => ?ary2) (fun L9 hL9 => ?arr2)
          case ary2 => (go_simp; try with_reducible rfl)
          try simp only [Act.put, List.setIfInBounds_toArray, List.set_cons_zero, List.set_cons_succ]
          refine quiet_take (v := .int .i64 S.f) hL9 (by kernel_rfl) (fun wq hwq => ?ary3) (fun L9 hL9 => ?arr3)
          case ary3 => (obtain ⟨s0, s1, s2, s3, s4, s5, s6, s7⟩ := HSY.out wq hwq; go_simp; try with_reducible rfl)
          try simp only [Act.put, List.setIfInBounds_toArray, List.set_cons_zero, List.set_cons_succ]
          refine quiet_take (v := .int .u64 ((pOf S.f : Nat) : Int)) hL9 (by kernel_rfl) (fun wq hwq => ?ary4) (fun L9 hL9 => ?arr4)
          case ary4 => (go_simp; go_at_call 62; exact HP.out wq hwq)
          try simp only [Act.put, List.setIfInBounds_toArray, List.set_cons_zero, List.set_cons_succ]
          refine quiet_take (v := .bool true) hL9 (by kernel_rfl) (fun wq hwq => ?ary5) (fun L9 hL9 => ?arr5)
          case ary5 => (have h1 := HCP.out; go_simp; try (first | with_reducible rfl | exact h1 | (simpa using h1) | (simp only [beq_iff_eq] at h1; exact h1) | (intro h2; rw [h2] at h1; exact absurd h1 (by decide))))
          try simp only [Act.put, List.setIfInBounds_toArray, List.set_cons_zero, List.set_cons_succ]
          refine quiet_take (v := .bool true) hL9 (by kernel_rfl) (fun wq hwq => ?ary6) (fun L9 hL9 => ?arr6)
          case ary6 => (go_simp; try with_reducible rfl)
          try simp only [Act.put, List.setIfInBounds_toArray, List.set_cons_zero, List.set_cons_succ]
          refine quiet_skip hL9 (by kernel_rfl) (fun L9 hL9 => ?_)
          try simp only [Act.put, List.setIfInBounds_toArray, List.set_cons_zero, List.set_cons_succ]
          refine quiet_skip hL9 (by kernel_rfl) (fun L9 hL9 => ?_)
          try simp only [Act.put, List.setIfInBounds_toArray, List.set_cons_zero, List.set_cons_succ]
          refine quiet_skip hL9 (by kernel_rfl) (fun L9 hL9 => ?_)
          try simp only [Act.put, List.setIfInBounds_toArray, List.set_cons_zero, List.set_cons_succ]
          refine quiet_skip hL9 (by kernel_rfl) (fun L9 hL9 => ?_)
          try simp only [Act.put, List.setIfInBounds_toArray, List.set_cons_zero, List.set_cons_succ]
          refine quiet_nil hL9 ?_
          clear hL9
          intro wy hOy
          have HF := Lib.hid (HN.out rfl)
          have hOz := HO0.out.trans (HU.out.trans hOy)
          go_wp2
          go_ret
          exact ⟨by rw [HF.out]; rfl, hOz⟩
        have HCP : Hid (decide ((pOf S.f : Int) ≤ (mc : Int)) = false) := Lib.hid (decide_eq_false (by omega))
        rw [decide_eq_true hcp] at HJ2 HN
        clear hcp
        by_cases hl8 : ln ≤ 8
        rotate_left
        · have HLN : Hid (decide ((8 : Int) < (ln : Int)) = true) := Lib.hid (decide_eq_true (by omega))
          rw [decide_eq_false hl8] at HJ2 HN
          clear hl8
          refine region_keep_tail (fun wq => On u wq) 11 (by kernel_rfl) (by kernel_rfl) (On.refl HU.out.tab).drew ?_
          simp only [List.take_succ_cons, List.take_zero, List.drop_succ_cons, List.drop_zero]
          refine quiet_start fun L9 hL9 => ?_
          refine quiet_take (v := ?brv0) hL9 (by kernel_rfl) (fun wq hwq => ?bry0) (fun L9 hL9 => ?brr0)
          case bry0 => (go_simp; try with_reducible rfl)
          try simp only [Act.put, List.setIfInBounds_toArray, List.set_cons_zero, List.set_cons_succ]
          refine quiet_take (v := .int .u64 (mc : Int)) hL9 (by kernel_rfl) (fun wq hwq => ?bry1) (fun L9 hL9 => ?brr1)
          case bry1 => (obtain ⟨q0, q1⟩ := HXC.out wq hwq; go_simp; try with_reducible rfl)
          try simp only [Act.put, List.setIfInBounds_toArray, List.set_cons_zero, List.set_cons_succ]
          refine quiet_take (v := ?brv2) hL9 (by kernel_rfl) (fun wq hwq => ?bry2) (fun L9 hL9 => ?brr2)
          case bry2 => (go_simp; try with_reducible rfl)
          try simp only [Act.put, List.setIfInBounds_toArray, List.set_cons_zero, List.set_cons_succ]
          refine quiet_take (v := .int .i64 S.f) hL9 (by kernel_rfl) (fun wq hwq => ?bry3) (fun L9 hL9 => ?brr3)
          case bry3 => (obtain ⟨s0, s1, s2, s3, s4, s5, s6, s7⟩ := HSY.out wq hwq; go_simp; try with_reducible rfl)
          try simp only [Act.put, List.setIfInBounds_toArray, List.set_cons_zero, List.set_cons_succ]
          refine quiet_take (v := .int .u64 ((pOf S.f : Nat) : Int)) hL9 (by kernel_rfl) (fun wq hwq => ?bry4) (fun L9 hL9 => ?brr4)
          case bry4 => (go_simp; go_at_call 62; exact HP.out wq hwq)
          try simp only [Act.put, List.setIfInBounds_toArray, List.set_cons_zero, List.set_cons_succ]
          refine quiet_take (v := .bool false) hL9 (by kernel_rfl) (fun wq hwq => ?bry5) (fun L9 hL9 => ?brr5)
          case bry5 => (have h1 := HCP.out; go_simp; try (first | with_reducible rfl | exact h1 | (simpa using h1) | (simp only [beq_iff_eq] at h1; exact h1) | (intro h2; rw [h2] at h1; exact absurd h1 (by decide))))
          try simp only [Act.put, List.setIfInBounds_toArray, List.set_cons_zero, List.set_cons_succ]
          refine quiet_take (v := .bool false) hL9 (by kernel_rfl) (fun wq hwq => ?bry6) (fun L9 hL9 => ?brr6)
          case bry6 => (go_simp; try with_reducible rfl)
          try simp only [Act.put, List.setIfInBounds_toArray, List.set_cons_zero, List.set_cons_succ]
          refine quiet_take (v := ?brv7) hL9 (by kernel_rfl) (fun wq hwq => ?bry7) (fun L9 hL9 => ?brr7)
          case bry7 => (go_simp; try with_reducible rfl)
          try simp only [Act.put, List.setIfInBounds_toArray, List.set_cons_zero, List.set_cons_succ]
          refine quiet_take (v := .slice ma ln mcap) hL9 (by kernel_rfl) (fun wq hwq => ?bry8) (fun L9 hL9 => ?brr8)
          case bry8 => (obtain ⟨q0, q1⟩ := HXC.out wq hwq; go_simp; try with_reducible rfl)
          try simp only [Act.put, List.setIfInBounds_toArray, List.set_cons_zero, List.set_cons_succ]
          refine quiet_take (v := .int .i64 (ln : Int)) hL9 (by kernel_rfl) (fun wq hwq => ?bry9) (fun L9 hL9 => ?brr9)
          case bry9 => (go_simp; try with_reducible rfl; try simp)
          try simp only [Act.put, List.setIfInBounds_toArray, List.set_cons_zero, List.set_cons_succ]
          refine quiet_take (v := .bool true) hL9 (by kernel_rfl) (fun wq hwq => ?bry10) (fun L9 hL9 => ?brr10)
          case bry10 => (have h1 := HLN.out; go_simp; try (first | with_reducible rfl | exact h1 | (simpa using h1) | (simp only [beq_iff_eq] at h1; exact h1) | (intro h2; rw [h2] at h1; exact absurd h1 (by decide))))
          try simp only [Act.put, List.setIfInBounds_toArray, List.set_cons_zero, List.set_cons_succ]
          refine quiet_nil hL9 ?_
          clear hL9
          intro wy hOy
          have HF := Lib.hid (HN.out rfl)
          have hOz := HO0.out.trans (HU.out.trans hOy)
          go_wp2
          go_ret
          exact ⟨by rw [HF.out]; rfl, hOz⟩
        have HLN : Hid (decide ((8 : Int) < (ln : Int)) = false) := Lib.hid (decide_eq_false (by omega))
        rw [decide_eq_true hl8] at HJ2 HN
        refine region_keep_tail (fun wq => On u wq) 11 (by kernel_rfl) (by kernel_rfl) (On.refl HU.out.tab).drew ?_
        simp only [List.take_succ_cons, List.take_zero, List.drop_succ_cons, List.drop_zero]
        refine quiet_start fun L9 hL9 => ?_
        refine quiet_take (v := ?crv0) hL9 (by kernel_rfl) (fun wq hwq => ?cry0) (fun L9 hL9 => ?crr0)
        case cry0 => (go_simp; try with_reducible rfl)
        try simp only [Act.put, List.setIfInBounds_toArray, List.set_cons_zero, List.set_cons_succ]
        refine quiet_take (v := .int .u64 (mc : Int)) hL9 (by kernel_rfl) (fun wq hwq => ?cry1) (fun L9 hL9 => ?crr1)
        case cry1 => (obtain ⟨q0, q1⟩ := HXC.out wq hwq; go_simp; try with_reducible rfl)
        try simp only [Act.put, List.setIfInBounds_toArray, List.set_cons_zero, List.set_cons_succ]
        refine quiet_take (v := ?crv2) hL9 (by kernel_rfl) (fun wq hwq => ?cry2) (fun L9 hL9 => ?crr2)
        case cry2 => (go_simp; try with_reducible rfl)
        try simp only [Act.put, List.setIfInBounds_toArray, List.set_cons_zero, List.set_cons_succ]
        refine quiet_take (v := .int .i64 S.f) hL9 (by kernel_rfl) (fun wq hwq => ?cry3) (fun L9 hL9 => ?crr3)
        case cry3 => (obtain ⟨s0, s1, s2, s3, s4, s5, s6, s7⟩ := HSY.out wq hwq; go_simp; try with_reducible rfl)
        try simp only [Act.put, List.setIfInBounds_toArray, List.set_cons_zero, List.set_cons_succ]
        refine quiet_take (v := .int .u64 ((pOf S.f : Nat) : Int)) hL9 (by kernel_rfl) (fun wq hwq => ?cry4) (fun L9 hL9 => ?crr4)
        case cry4 => (go_simp; go_at_call 62; exact HP.out wq hwq)
        try simp only [Act.put, List.setIfInBounds_toArray, List.set_cons_zero, List.set_cons_succ]
        refine quiet_take (v := .bool false) hL9 (by kernel_rfl) (fun wq hwq => ?cry5) (fun L9 hL9 => ?crr5)
        case cry5 => (have h1 := HCP.out; go_simp; try (first | with_reducible rfl | exact h1 | (simpa using h1) | (simp only [beq_iff_eq] at h1; exact h1) | (intro h2; rw [h2] at h1; exact absurd h1 (by decide))))
        try simp only [Act.put, List.setIfInBounds_toArray, List.set_cons_zero, List.set_cons_succ]
        refine quiet_take (v := .bool false) hL9 (by kernel_rfl) (fun wq hwq => ?cry6) (fun L9 hL9 => ?crr6)
        case cry6 => (go_simp; try with_reducible rfl)
        try simp only [Act.put, List.setIfInBounds_toArray, List.set_cons_zero, List.set_cons_succ]
        refine quiet_take (v := ?crv7) hL9 (by kernel_rfl) (fun wq hwq => ?cry7) (fun L9 hL9 => ?crr7)
        case cry7 => (go_simp; try with_reducible rfl)
        try simp only [Act.put, List.setIfInBounds_toArray, List.set_cons_zero, List.set_cons_succ]
        refine quiet_take (v := .slice ma ln mcap) hL9 (by kernel_rfl) (fun wq hwq => ?cry8) (fun L9 hL9 => ?crr8)
        case cry8 => (obtain ⟨q0, q1⟩ := HXC.out wq hwq; go_simp; try with_reducible rfl)
        try simp only [Act.put, List.setIfInBounds_toArray, List.set_cons_zero, List.set_cons_succ]
        refine quiet_take (v := .int .i64 (ln : Int)) hL9 (by kernel_rfl) (fun wq hwq => ?cry9) (fun L9 hL9 => ?crr9)
        case cry9 => (go_simp; try with_reducible rfl; try simp)
        try simp only [Act.put, List.setIfInBounds_toArray, List.set_cons_zero, List.set_cons_succ]
        refine quiet_take (v := .bool false) hL9 (by kernel_rfl) (fun wq hwq => ?cry10) (fun L9 hL9 => ?crr10)
        case cry10 => (have h1 := HLN.out; go_simp; try (first | with_reducible rfl | exact h1 | (simpa using h1) | (simp only [beq_iff_eq] at h1; exact h1) | (intro h2; rw [h2] at h1; exact absurd h1 (by decide))))
        try simp only [Act.put, List.setIfInBounds_toArray, List.set_cons_zero, List.set_cons_succ]
        refine quiet_nil hL9 ?_
        clear hL9
        intro wy hOy
        have HOy := Lib.hid hOy
        clear hOy
        have hl8i : (ln : Int) ≤ 8 := by omega
        go_wp2_with fail
        go_loopw [8] (fun vk wv => ∃ k : Nat, k ≤ ln ∧ vk = .int .i64 (k : Int) ∧ Hid (∀ j, j < k → vaD S false (vs.getD j zV) = true) ∧ Hid (On W0 wv) ∧ Hid (On u wv)) (fun vk _ => ln - (intOf vk).toNat)
        case atStart => exact ⟨0, Nat.zero_le _, rfl, Lib.hid (fun j hj => absurd hj (Nat.not_lt_zero _)), Lib.hid (HU.out.trans HOy.out), HOy⟩
        case round =>
          rename World => wv
          obtain ⟨k, hk, rfl, HJ3', HOv, HUv⟩ := hrel
          obtain ⟨y0, y1⟩ := HXC.out wv HUv.out
          by_cases hkt : k < ln
          · have hkt' : (k : Int) < (ln : Int) := by omega
            obtain ⟨mb, mo, rfl, hz⟩ := HVC2.out k hkt
            have HZ := Lib.hid hz
            have HJ3 : Hid (vaD S false (vs.getD k zV) = true → ∀ j, j < k + 1 → vaD S false (vs.getD j zV) = true) := fun h j hj => by
              by_cases e : j = k
              · rw [e]; exact h
              · exact HJ3'.out j (by omega)
            have HN2 := Lib.hid (HNO2.out k hkt)
            clear hz HJ3'
            generalize vs.getD k zV = x at *
            obtain ⟨xk, xi⟩ := x
            have e : vaD S false (xk, xi) = (hasV S (xk, xi) && !(false && xk == 2)) := rfl
            rw [e] at HJ3 HN2
            clear e
            have HVX : Hid (∀ wq, On wv wq → wq.cell? ⟨mb, mo + k * 2, none⟩ = some (.int .u8 xk) ∧ wq.cell? ⟨mb, mo + k * 2 + 1, none⟩ = some (.int .i64 xi)) := fun wq h => HZ.out wq (HUv.out.trans h)
            have HWI : Hid (∀ wq, On wv wq → Calls Tryd.prog 152 #[syA S H, .agg #[.int .u8 xk, .int .i64 xi]] wq fun e w' => e = .returned (.bool (hasV S (xk, xi))) ∧ On wv w') := fun wq h => (rwithin_any S H (xk, xi) wq h.tab).mono fun e w' ⟨he, ho⟩ => ⟨he, h.trans ho⟩
            go_upto_region 13 with fail
            clear y0 y1
            have HXC0 := HXC; have HSY0 := HSY
            clear HXC HSY
            have HXC : Hid (∀ wq, On wv wq → wq.cell? ⟨X, 0, none⟩ = some (.int .u64 (mc : Int)) ∧ wq.cell? ⟨X, 1, none⟩ = some (.slice (some ⟨mb, mo, none⟩) ln mcap)) := fun wq h => HXC0.out wq (HUv.out.trans h)
            have HSY : Hid (∀ wq, On wv wq → _) := fun wq h => sy_cells ((HB0.out.on HOv.out).on h)
            generalize hasV S (xk, xi) = HH at *
            cases HH with
            | false =>
              refine region_keep_tail (fun wq => On wv wq) 19 (by kernel_rfl) (by kernel_rfl) (On.refl HOv.out.tab).drew ?_
              simp only [List.take_succ_cons, List.take_zero, List.drop_succ_cons, List.drop_zero]
              refine quiet_start fun L9 hL9 => ?_
              refine quiet_take (v := syA S H) hL9 (by kernel_rfl) (fun wq hwq => ?dry0) (fun L9 hL9 => ?drr0)
              case dry0 => (obtain ⟨s0, s1, s2, s3, s4, s5, s6, s7⟩ := HSY.out wq hwq; go_simp; try with_reducible rfl)
              try simp only [Act.put, List.setIfInBounds_toArray, List.set_cons_zero, List.set_cons_succ]
              refine quiet_take (v := ?drv1) hL9 (by kernel_rfl) (fun wq hwq => ?dry1) (fun L9 hL9 => ?drr1)
              case dry1 => (go_simp; try with_reducible rfl)
              try simp only [Act.put, List.setIfInBounds_toArray, List.set_cons_zero, List.set_cons_succ]
              refine quiet_take (v := .slice (some ⟨mb, mo, none⟩) ln mcap) hL9 (by kernel_rfl) (fun wq hwq => ?dry2) (fun L9 hL9 => ?drr2)
              case dry2 => (obtain ⟨q0, q1⟩ := HXC.out wq hwq; go_simp; try with_reducible rfl)
              try simp only [Act.put, List.setIfInBounds_toArray, List.set_cons_zero, List.set_cons_succ]
              refine quiet_take (v := ?drv3) hL9 (by kernel_rfl) (fun wq hwq => ?dry3) (fun L9 hL9 => ?drr3)
              case dry3 => (go_simp; try with_reducible rfl)
              try simp only [Act.put, List.setIfInBounds_toArray, List.set_cons_zero, List.set_cons_succ]
              refine quiet_take (v := ?drv4) hL9 (by kernel_rfl) (fun wq hwq => ?dry4) (fun L9 hL9 => ?drr4)
              case dry4 => (go_simp; try with_reducible rfl)
              try simp only [Act.put, List.setIfInBounds_toArray, List.set_cons_zero, List.set_cons_succ]
              refine quiet_take (v := .agg #[.int .u8 xk, .int .i64 xi]) hL9 (by kernel_rfl) (fun wq hwq => ?dry5) (fun L9 hL9 => ?drr5)
              case dry5 => (obtain ⟨z0, z1⟩ := HVX.out wq hwq; go_simp; try with_reducible rfl)
              try simp only [Act.put, List.setIfInBounds_toArray, List.set_cons_zero, List.set_cons_succ]
              refine quiet_take (v := .bool false) hL9 (by kernel_rfl) (fun wq hwq => ?dry6) (fun L9 hL9 => ?drr6)
              case dry6 => (go_simp; go_at_call 152; exact HWI.out wq hwq)
              try simp only [Act.put, List.setIfInBounds_toArray, List.set_cons_zero, List.set_cons_succ]
              refine quiet_take (v := .bool true) hL9 (by kernel_rfl) (fun wq hwq => ?dry7) (fun L9 hL9 => ?drr7)
              case dry7 => (go_simp; try with_reducible rfl)
              try simp only [Act.put, List.setIfInBounds_toArray, List.set_cons_zero, List.set_cons_succ]
              refine quiet_take (v := .bool true) hL9 (by kernel_rfl) (fun wq hwq => ?dry8) (fun L9 hL9 => ?drr8)
              case dry8 => (go_simp; try with_reducible rfl)
              try simp only [Act.put, List.setIfInBounds_toArray, List.set_cons_zero, List.set_cons_succ]
              refine quiet_skip hL9 (by kernel_rfl) (fun L9 hL9 => ?_)
              try simp only [Act.put, List.setIfInBounds_toArray, List.set_cons_zero, List.set_cons_succ]
              refine quiet_skip hL9 (by kernel_rfl) (fun L9 hL9 => ?_)
              try simp only [Act.put, List.setIfInBounds_toArray, List.set_cons_zero, List.set_cons_succ]
              refine quiet_skip hL9 (by kernel_rfl) (fun L9 hL9 => ?_)
              try simp only [Act.put, List.setIfInBounds_toArray, List.set_cons_zero, List.set_cons_succ]
              refine quiet_skip hL9 (by kernel_rfl) (fun L9 hL9 => ?_)
              try simp only [Act.put, List.setIfInBounds_toArray, List.set_cons_zero, List.set_cons_succ]
              refine quiet_skip hL9 (by kernel_rfl) (fun L9 hL9 => ?_)
              try simp only [Act.put, List.setIfInBounds_toArray, List.set_cons_zero, List.set_cons_succ]
              refine quiet_skip hL9 (by kernel_rfl) (fun L9 hL9 => ?_)
              try simp only [Act.put, List.setIfInBounds_toArray, List.set_cons_zero, List.set_cons_succ]
              refine quiet_skip hL9 (by kernel_rfl) (fun L9 hL9 => ?_)
              try simp only [Act.put, List.setIfInBounds_toArray, List.set_cons_zero, List.set_cons_succ]
              refine quiet_skip hL9 (by kernel_rfl) (fun L9 hL9 => ?_)
              try simp only [Act.put, List.setIfInBounds_toArray, List.set_cons_zero, List.set_cons_succ]
              refine quiet_skip hL9 (by kernel_rfl) (fun L9 hL9 => ?_)
              try simp only [Act.put, List.setIfInBounds_toArray, List.set_cons_zero, List.set_cons_succ]
              refine quiet_skip hL9 (by kernel_rfl) (fun L9 hL9 => ?_)
              try simp only [Act.put, List.setIfInBounds_toArray, List.set_cons_zero, List.set_cons_succ]
              refine quiet_nil hL9 ?_
              clear hL9
              intro wy hOy
              have HF := Lib.hid (HN.out (by rw [HN2.out rfl]; rfl))
              have hOz := HO0.out.trans (HOv.out.trans hOy)
              go_wp2
              go_ret
              exact ⟨by rw [HF.out]; rfl, hOz⟩
            | true =>
              refine region_keep_tail (fun wq => On wv wq) 19 (by kernel_rfl) (by kernel_rfl) (On.refl HOv.out.tab).drew ?_
              simp only [List.take_succ_cons, List.take_zero, List.drop_succ_cons, List.drop_zero]
              refine quiet_start fun L9 hL9 => ?_
              refine quiet_take (v := syA S H) hL9 (by kernel_rfl) (fun wq hwq => ?ery0) (fun L9 hL9 => ?err0)
              case ery0 => (obtain ⟨s0, s1, s2, s3, s4, s5, s6, s7⟩ := HSY.out wq hwq; go_simp; try with_reducible rfl)
              try simp only [Act.put, List.setIfInBounds_toArray, List.set_cons_zero, List.set_cons_succ]
              refine quiet_take (v := ?erv1) hL9 (by kernel_rfl) (fun wq hwq => ?ery1) (fun L9 hL9 => ?err1)
              case ery1 => (go_simp; try with_reducible rfl)
              try simp only [Act.put, List.setIfInBounds_toArray, List.set_cons_zero, List.set_cons_succ]
              refine quiet_take (v := .slice (some ⟨mb, mo, none⟩) ln mcap) hL9 (by kernel_rfl) (fun wq hwq => ?ery2) (fun L9 hL9 => ?err2)
              case ery2 => (obtain ⟨q0, q1⟩ := HXC.out wq hwq; go_simp; try with_reducible rfl)
              try simp only [Act.put, List.setIfInBounds_toArray, List.set_cons_zero, List.set_cons_succ]
              refine quiet_take (v := ?erv3) hL9 (by kernel_rfl) (fun wq hwq => ?ery3) (fun L9 hL9 => ?err3)
              case ery3 => (go_simp; try with_reducible rfl)
              try simp only [Act.put, List.setIfInBounds_toArray, List.set_cons_zero, List.set_cons_succ]
              refine quiet_take (v := ?erv4) hL9 (by kernel_rfl) (fun wq hwq => ?ery4) (fun L9 hL9 => ?err4)
              case ery4 => (go_simp; try with_reducible rfl)
              try simp only [Act.put, List.setIfInBounds_toArray, List.set_cons_zero, List.set_cons_succ]
              refine quiet_take (v := .agg #[.int .u8 xk, .int .i64 xi]) hL9 (by kernel_rfl) (fun wq hwq => ?ery5) (fun L9 hL9 => ?err5)
              case ery5 => (obtain ⟨z0, z1⟩ := HVX.out wq hwq; go_simp; try with_reducible rfl)
              try simp only [Act.put, List.setIfInBounds_toArray, List.set_cons_zero, List.set_cons_succ]
              refine quiet_take (v := .bool true) hL9 (by kernel_rfl) (fun wq hwq => ?ery6) (fun L9 hL9 => ?err6)
              case ery6 => (go_simp; go_at_call 152; exact HWI.out wq hwq)
              try simp only [Act.put, List.setIfInBounds_toArray, List.set_cons_zero, List.set_cons_succ]
              refine quiet_take (v := .bool false) hL9 (by kernel_rfl) (fun wq hwq => ?ery7) (fun L9 hL9 => ?err7)
              case ery7 => (go_simp; try with_reducible rfl)
              try simp only [Act.put, List.setIfInBounds_toArray, List.set_cons_zero, List.set_cons_succ]
              refine quiet_take (v := .bool false) hL9 (by kernel_rfl) (fun wq hwq => ?ery8) (fun L9 hL9 => ?err8)
              case ery8 => (go_simp; try with_reducible rfl)
              try simp only [Act.put, List.setIfInBounds_toArray, List.set_cons_zero, List.set_cons_succ]
              refine quiet_take (v := .bool false) hL9 (by kernel_rfl) (fun wq hwq => ?ery9) (fun L9 hL9 => ?err9)
              case ery9 => (go_simp; try with_reducible rfl)
              try simp only [Act.put, List.setIfInBounds_toArray, List.set_cons_zero, List.set_cons_succ]
              refine quiet_take (v := .bool false) hL9 (by kernel_rfl) (fun wq hwq => ?ery10) (fun L9 hL9 => ?err10)
              case ery10 => (go_simp; try with_reducible rfl)
              try simp only [Act.put, List.setIfInBounds_toArray, List.set_cons_zero, List.set_cons_succ]
              refine quiet_skip hL9 (by kernel_rfl) (fun L9 hL9 => ?_)
              try simp only [Act.put, List.setIfInBounds_toArray, List.set_cons_zero, List.set_cons_succ]
              refine quiet_skip hL9 (by kernel_rfl) (fun L9 hL9 => ?_)
              try simp only [Act.put, List.setIfInBounds_toArray, List.set_cons_zero, List.set_cons_succ]
              refine quiet_skip hL9 (by kernel_rfl) (fun L9 hL9 => ?_)
              try simp only [Act.put, List.setIfInBounds_toArray, List.set_cons_zero, List.set_cons_succ]
              refine quiet_skip hL9 (by kernel_rfl) (fun L9 hL9 => ?_)
              try simp only [Act.put, List.setIfInBounds_toArray, List.set_cons_zero, List.set_cons_succ]
              refine quiet_skip hL9 (by kernel_rfl) (fun L9 hL9 => ?_)
              try simp only [Act.put, List.setIfInBounds_toArray, List.set_cons_zero, List.set_cons_succ]
              refine quiet_skip hL9 (by kernel_rfl) (fun L9 hL9 => ?_)
              try simp only [Act.put, List.setIfInBounds_toArray, List.set_cons_zero, List.set_cons_succ]
              refine quiet_skip hL9 (by kernel_rfl) (fun L9 hL9 => ?_)
              try simp only [Act.put, List.setIfInBounds_toArray, List.set_cons_zero, List.set_cons_succ]
              refine quiet_take (v := .bool false) hL9 (by kernel_rfl) (fun wq hwq => ?ery18) (fun L9 hL9 => ?err18)
              case ery18 => (go_simp; try with_reducible rfl)
              try simp only [Act.put, List.setIfInBounds_toArray, List.set_cons_zero, List.set_cons_succ]
              refine quiet_nil hL9 ?_
              clear hL9
              intro wy hOy
              have HF := Lib.hid (HJ3.out rfl)
              have hOz := Lib.hid (HOv.out.trans hOy)
              have hOu := Lib.hid (HUv.out.trans hOy)
              clear hOy
              go_wp2
              go_roundw
              case rel => exact ⟨k + 1, by omega, by simp, HF, hOz, hOu⟩
              case measure => simp [intOf]; omega
          · obtain rfl : ln = k := by omega
            have HF := Lib.hid (HJ2.out (by rw [HYES2.out HJ3'.out]; rfl))
            clear HJ3'
            go_wp2
            go_roundw
            case rel => exact ⟨i + 1, by omega, by simp, HF, HOv⟩
            case measure => simp [intOf]; omega
      · obtain rfl : n = i := by omega
        have HG := Lib.hid (HYES.out HJ.out)
        clear HJ
        obtain ⟨x0, x1, x2⟩ := HBOX.out wr HO.out
        go_wp2
        go_ret
        exact ⟨by rw [HG.out]; simp, HO0.out.trans HO.out⟩
end Go.Proofs.YtnanjacllmdenaaDoor
