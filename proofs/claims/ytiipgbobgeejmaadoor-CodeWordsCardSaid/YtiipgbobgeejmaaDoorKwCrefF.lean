/- The document's own Coefficients and Widen of transforms: what each call returns. -/
import Derived.Test.YtiipgbobgeejmaaDoorKwCref3
namespace Go.Proofs.YtiipgbobgeejmaaDoor
open Go.RowKit
set_option linter.unusedVariables false

/-- The sum of the first m terms of the coefficient j. -/
def cS (f : Int) (k : Int) (s : Nat) (v : List Nat) (j : Nat) : Nat → Nat
  | 0 => 0
  | m + 1 => addF f (cS f k s v j m) (mulF f (v.getD m 0) (powF f (invF f (rptF f k s m)) j))
theorem cS_le (f : Int) (k : Int) (s : Nat) (v : List Nat) (j m : Nat) : cS f k s v j m ≤ 998244353 := by
  cases m with
  | zero => simp [cS]
  | succ m => exact addF_le _ _ _
theorem cS_sum {f : Int} (hp : 0 < pOf f) (k : Int) (s : Nat) (v : List Nat) (j m : Nat) : cS f k s v j m = S (fun l => v.getD l 0 * powF f (invF f (rptF f k s l)) j) m % pOf f := by
  induction m with
  | zero => simp [cS, S]
  | succ m ih => rw [cS, ih, addF_modL, mulF_pos _ _ _ hp, addF_modR, addF_pos _ _ _ hp, S]
/-- What the coefficient is. -/
theorem coef_mean {f : Int} {k : Nat} (hv : validB f = true) (hk : k ≤ twoOf f) (s : Nat) (hs : s % pOf f ≠ 0) (v : List Nat) (hl : v.length = 2 ^ k) (j : Nat) (hj : j < 2 ^ k) :
    divF f (cS f (k : Int) s v j (2 ^ k)) (2 ^ k) = (coefL f k s v).getD j 0 := by
  have hp := (valid_iff f).1 hv
  rw [coefL_getD _ _ _ _ _ hj, mul_powC, ifft_sum hv hk v (Nat.le_of_eq hl) j hj, cS_sum hp]
  unfold divF
  rw [mulF_modL, mulF_assoc, mulF_comm f (invF f (2 ^ k)), ← mulF_assoc]
  rw [← mulF_modL f (S _ _), ← mulF_modL f (mulF f _ (powF f (invF f s) j))]
  congr 1
  rw [mulF_pos _ _ _ hp, Nat.mod_mod, Nat.mul_comm (S _ _), ← S_mul]
  refine S_mod fun l hl2 => ?_
  rw [Nat.mul_left_comm, Nat.mul_mod, Nat.mul_mod (v.getD l 0)]
  congr 2
  -- the inverse of the point, to the power j
  have hinv : invF f (rptF f (k : Int) s l) = mulF f (invF f s) (invF f (powF f (rootF f k) l)) := by unfold rptF; exact inv_mul f _ _
  rw [hinv]
  have hw : rootF f k ^ l % pOf f ≠ 0 := by
    have hr := root_ne hv hk
    induction l with
    | zero => have := big f hv; rw [Nat.pow_zero, Nat.mod_eq_of_lt (by omega)]; omega
    | succ l ih =>
      have h1 := prod_ne f _ _ hv (ih (by omega) (by unfold rptF; exact inv_mul f _ _)) hr
      rw [mulF_pos _ _ _ hp, Nat.mod_mod] at h1
      rw [Nat.pow_succ]; exact h1
  have h1 := mul_inv f (rootF f k ^ l) hv hw
  have h2 : invF f (powF f (rootF f k) l) = invF f (rootF f k ^ l) := by rw [powF_pos _ _ _ hp, inv_mod]
  rw [h2]
  generalize invF f (rootF f k ^ l) = u at *
  rw [mulF_pos _ _ _ hp] at h1
  -- u^j is the root to the power (n - j) l
  have h3 : u ^ j % pOf f = rootF f k ^ ((2 ^ k - j) * l) % pOf f := by
    have h4 : (u * rootF f k ^ l) ^ j % pOf f = 1 := by
      rw [Nat.mul_comm, Nat.pow_mod, h1, Nat.one_pow]; have := big f hv; exact Nat.mod_eq_of_lt (by omega)
    have h5 : rootF f k ^ ((2 ^ k - j) * l) * (rootF f k ^ l) ^ j % pOf f = 1 := by
      have e : (2 ^ k - j) * l + l * j = 0 + 2 ^ k * l := by rw [Nat.sub_mul, Nat.mul_comm l j]; have := Nat.mul_le_mul_right l (show j ≤ 2 ^ k by omega); omega
      rw [← Nat.pow_mul, ← Nat.pow_add, e, root_mul hv hk 0 l, Nat.pow_zero]
      have := big f hv; exact Nat.mod_eq_of_lt (by omega)
    rw [Nat.mul_pow] at h4
    have hne : (rootF f k ^ l) ^ j % pOf f ≠ 0 := fun h => by
      rw [Nat.mul_mod, h, Nat.mul_zero, Nat.zero_mod] at h4; omega
    exact mul_cancel hv hne (h4.trans h5.symm)
  rw [powF_pos _ _ _ hp, powF_pos _ _ _ hp, Nat.mod_mod, Nat.pow_mod (mulF f _ _), mulF_pos _ _ _ hp, Nat.mod_mod, ← Nat.pow_mod, Nat.mul_pow, Nat.mul_mod, h3, ← Nat.mul_mod, ← Nat.mod_mul_mod, Nat.mul_comm]
theorem rcoefs_arg (f : Int) (s : Nat) (v : Value) (w : World) (hs : s ≤ 18446744073709551615) (hb : shB f s = false) :
    Calls Tryd.prog 25 #[.int .i64 f, .int .u64 (s : Int), v] w fun e w' => e = .returned (.tuple #[.slice none 0 0, .int .i64 1]) ∧ Drawn w w' := by
  cases hv : validB f
  · have HV := Lib.hid hv
    clear hv hb
    go_enter Tryd.func25, Tryd.ntmps25
    go_wp2_with (first
      | (go_at_call 33; refine (rvalid_any _ _).mono ?_; rintro e w' ⟨rfl, rfl⟩; rw [HV.out])
      | (go_at_call 22; refine (rreduce_any f s _ hs).mono ?_; rintro e w' ⟨rfl, hd⟩))
    go_ret2
    exact ⟨rfl, Drawn.refl _⟩
  · have hz : redF f s = 0 := by unfold shB at hb; rw [hv] at hb; simpa using hb
    have HV := Lib.hid hv; have HZ := Lib.hid hz
    clear hv hb hz
    go_enter Tryd.func25, Tryd.ntmps25
    go_wp2_with (first
      | (go_at_call 33; refine (rvalid_any _ _).mono ?_; rintro e w' ⟨rfl, rfl⟩; rw [HV.out])
      | (go_at_call 22; refine (rreduce_any f s _ hs).mono ?_; rintro e w1 ⟨rfl, hd⟩; rw [HZ.out]))
    go_ret2
    exact ⟨rfl, hd⟩
/-- What Bits returns where there is no subgroup of so many elements. -/
theorem rbits_bad (f : Int) (n : Nat) (hn : n ≤ 1000000) (hno : ∀ k, k ≤ grF f → n ≠ 2 ^ k) :
    ∃ b : Int, (b = -1 ∨ ((grF f : Int) < b ∧ b ≤ 40)) ∧ ∀ w, Calls Tryd.prog 68 #[.int .i64 (n : Int)] w fun e w' => e = .returned (.int .i64 b) ∧ w = w' := by
  by_cases hp : ∃ k, n = 2 ^ k
  · obtain ⟨k, hk⟩ := hp
    have hk40 : k ≤ 40 := by
      rcases Nat.lt_or_ge 40 k with h | h
      · have := Nat.pow_le_pow_right (show 0 < 2 by omega) (show 40 ≤ k by omega); omega
      · exact h
    have hkg : ¬ k ≤ grF f := fun h => hno k h hk
    exact ⟨(k : Int), .inr ⟨by omega, by omega⟩, fun w => rbits_pow k n w hk hk40⟩
  · exact ⟨-1, .inl rfl, fun w => rbits_no n w (fun k hk => hp ⟨k, hk⟩) (by omega)⟩
theorem rcoefs_range (f : Int) (s : Nat) (p : List Nat) (v : Value) (w : World) (hs : s ≤ 18446744073709551615) (hb : shB f s = true) (hR : Reads w v p) (hL : p.length ≤ 1000) (hno : ∀ k, k ≤ grF f → p.length ≠ 2 ^ k) :
    Calls Tryd.prog 25 #[.int .i64 f, .int .u64 (s : Int), v] w fun e w' => e = .returned (.tuple #[.slice none 0 0, .int .i64 2]) ∧ Drawn w w' := by
  obtain ⟨hv, hz⟩ := shB_parts hb
  have HV := Lib.hid hv
  have hz2 : (((redF f s : Nat) : Int) == 0) = false := by simp; exact hz
  obtain ⟨oa, oc, rfl⟩ := hR.shape
  obtain ⟨b, hcb, hbits⟩ := rbits_bad f p.length (by omega) hno
  have HBT := Lib.hid hbits
  have hg := grF_le f
  clear hb hv hz hno hR hbits
  rcases hcb with rfl | ⟨h1, h2⟩
  all_goals
    go_enter Tryd.func25, Tryd.ntmps25
    go_wp2_with (first
      | (go_at_call 33; refine (rvalid_any _ _).mono ?_; rintro e w' ⟨rfl, rfl⟩; rw [HV.out])
      | (go_at_call 22; refine (rreduce_any f s _ hs).mono ?_; rintro e w1 ⟨rfl, hd⟩)
      | (go_at_call 68; refine (HBT.out _).mono ?_; rintro e w' ⟨rfl, rfl⟩)
      | (go_at_call 34; refine (rgreatest_any f _).mono ?_; rintro e w' ⟨rfl, rfl⟩))
    go_ret2
    exact ⟨rfl, hd⟩

set_option maxHeartbeats 2000000 in
theorem rcoefs_any (f : Int) (k s : Nat) (p : List Nat) (v : Value) (w : World) (hT : Tab w) (hs : s ≤ 18446744073709551615) (hb : shB f s = true) (hk : k ≤ grF f) (hk9 : k ≤ 9) (hR : Reads w v p) (hl : p.length = 2 ^ k) :
    Calls Tryd.prog 25 #[.int .i64 f, .int .u64 (s : Int), v] w fun e w' => (∃ u, e = .returned (.tuple #[u, .int .i64 0]) ∧ Ow w.heap.size w' u (coefL f k s p)) ∧ On w w' := by
  obtain ⟨hv, hz⟩ := shB_parts hb
  have hsp := shB_ne hb
  have HV := Lib.hid hv
  have hz2 : (((redF f s : Nat) : Int) == 0) = false := by simp; exact hz
  have hg := grF_le f
  have hk2 : k ≤ twoOf f := Nat.le_trans hk (Nat.min_le_left _ _)
  have HCL := Lib.hid (coefL_len f k s p)
  have HCM : Hid (∀ j, j < 2 ^ k → divF f (cS f (k : Int) s p j (2 ^ k)) (2 ^ k) = (coefL f k s p).getD j 0) := fun j hj => coef_mean hv hk2 s hsp p hl j hj
  have HBT : Hid (∀ w, _) := fun w => rbits_pow k p.length w hl (by omega)
  obtain ⟨oa, oc, rfl⟩ := hR.shape
  have h23 : 2 ^ k ≤ 2 ^ 9 := Nat.pow_le_pow_right (by omega) hk9
  generalize coefL f k s p = R at *
  obtain ⟨N, hN⟩ : ∃ N, N = 2 ^ k := ⟨_, rfl⟩
  rw [← hN] at h23 HCL HCM hl
  have hNb : N ≤ 512 := by omega
  rw [hl] at hR HBT ⊢
  have HR := Lib.hid hR
  have HTT := Lib.hid hT
  have HLP := Lib.hid hl
  have hN0 : 0 < N := by rw [hN]; exact Nat.pow_pos (by omega)
  have hkd : decide ((k : Int) < 0) = false := decide_eq_false (by omega)
  have hkd2 : decide (((grF f : Nat) : Int) < (k : Int)) = false := decide_eq_false (by omega)
  have hkd3 : decide (grF f < k) = false := decide_eq_false (by omega)
  clear hb hv hz hsp hN h23 hR hT hl hk2
  go_enter Tryd.func25, Tryd.ntmps25
  go_wp2_with (first
    | (go_at_call 33; refine (rvalid_any _ _).mono ?_; rintro e w' ⟨rfl, rfl⟩; rw [HV.out])
    | (go_at_call 22; refine (rreduce_any f s _ hs).mono ?_; rintro e w1 ⟨rfl, hd⟩)
    | (go_at_call 68; refine (HBT.out _).mono ?_; rintro e w' ⟨rfl, rfl⟩)
    | (go_at_call 34; refine (rgreatest_any f _).mono ?_; rintro e w' ⟨rfl, rfl⟩))
  have HO1 := Lib.hid (hd.on (On.refl HTT.out))
  have HR1 := Lib.hid (HR.out.on HO1.out)
  clear hd HR
  go_loopw [9, 10] (fun vo vj wr => ∃ (j : Nat) (u : Value), j ≤ N ∧ vj = .int .i64 (j : Int) ∧ u = vo ∧ Hid (Ow w1.heap.size wr u (R.take j)) ∧ Hid (On w1 wr)) (fun _ vj _ => N - (intOf vj).toNat)
  case atStart => exact ⟨0, _, Nat.zero_le _, rfl, rfl, by rw [List.take_zero]; exact Ow.nil _ _, On.refl HO1.out.tab⟩
  case round =>
    rename World => wx
    obtain ⟨j, u, hj, rfl, rfl, HW, HO⟩ := hrel
    by_cases hlt : j < N
    · have HTS := Lib.hid (take_snoc R j (by rw [HCL.out]; exact hlt))
      have HEQ := Lib.hid (HCM.out j hlt)
      have hlen : (R.take j).length ≤ 1000 := by rw [List.length_take]; omega
      have HRx := Lib.hid (HR1.out.on HO.out)
      go_wp2
      go_loopw [11, 12] (fun vs vi wr => ∃ (i : Nat), i ≤ N ∧ vi = .int .i64 (i : Int) ∧ vs = .int .u64 ((cS f (k : Int) s p j i : Nat) : Int) ∧ Hid (Drawn wx wr)) (fun _ vi _ => N - (intOf vi).toNat)
      case atStart => exact ⟨0, Nat.zero_le _, rfl, rfl, Drawn.refl _⟩
      case round =>
        obtain ⟨i, hi, rfl, rfl, HD⟩ := hrel
        by_cases hlt2 : i < N
        · have hpt := rptF_le f (k : Int) s i
          have hiv := invF_le f (rptF f (k : Int) s i)
          have hcs := cS_le f (k : Int) s p j i
          have hpw := powF_le f (invF f (rptF f (k : Int) s i)) j
          have hml := mulF_le f (p.getD i 0) (powF f (invF f (rptF f (k : Int) s i)) j)
          have HCS : Hid (cS f (k : Int) s p j (i + 1) = addF f (cS f (k : Int) s p j i) (mulF f (p.getD i 0) (powF f (invF f (rptF f (k : Int) s i)) j))) := rfl
          have HDW : Hid (∃ n, wr = wx.drewN n) := HD.out
          have HPT := Lib.hid (rpoint_any f (k : Int) s i wr hs (by omega))
          go_wp2_with fail
          refine HPT.out.mono ?_
          rintro e w3 ⟨rfl, hd3⟩
          have HD3 := Lib.hid (HD.out.trans hd3)
          clear hd3 HPT
          go_wp2_with fail
          refine (rinv_any f (rptF f (k : Int) s i) w3 (by omega)).mono ?_
          rintro e w4 ⟨rfl, hd4⟩
          have HD4 := Lib.hid (HD3.out.trans hd4)
          clear hd4
          obtain ⟨-, hcv⟩ := reads_opt (HRx.out.on (HD4.out.on (On.refl HO.out.tab)))
          obtain ⟨bv, ov, rfl, hcell⟩ := hcv i (by rw [HLP.out]; exact hlt2)
          have hxb : p.getD i 0 ≤ 18446744073709551615 := HRx.out.1 _ (getD_mem p i (by rw [HLP.out]; exact hlt2))
          have HPW : Hid (∀ n, _) := fun n => rpow_all f (invF f (rptF f (k : Int) s i)) j (w4.drewN n) (by omega) (by omega)
          have HML : Hid (∀ n, _) := fun n => rmul_any f (p.getD i 0) (powF f (invF f (rptF f (k : Int) s i)) j) (w4.drewN n) hxb (by omega)
          have HAD : Hid (∀ n, _) := fun n => radd_any f (cS f (k : Int) s p j i) (mulF f (p.getD i 0) (powF f (invF f (rptF f (k : Int) s i)) j)) (w4.drewN n) (by omega) (by omega)
          have hwj : IntKind.u64.wrap (j : Int) = (j : Int) := IntWalk.u64_in _ (by omega)
          clear hcv
          generalize p.getD i 0 = x at *
          generalize cS f (k : Int) s p j i = c1 at *
          generalize invF f (rptF f (k : Int) s i) = iv at *
          generalize powF f iv j = pw at *
          generalize mulF f x pw = mw at *
          go_wp2
          go_quiet ((first | (go_at_call 70; exact quiet_of_drawn (HPW.out _)) | (go_at_call 62; exact quiet_of_drawn (HML.out _)) | (go_at_call 61; exact quiet_of_drawn (HAD.out _))))
          go_wp2
          go_roundw
          case rel => exact ⟨i + 1, by omega, by go_num, by rw [HCS.out], HD4.out.trans (Drawn.drewN _ _)⟩
          case measure => simp [intOf]; omega
        · obtain rfl : i = N := by omega
          have hcs := cS_le f (k : Int) s p j i
          have HO2 := Lib.hid (HD.out.on HO.out)
          have HW2 : Hid (Ow w1.heap.size wr u (R.take j)) := by obtain ⟨n, rfl⟩ := HD.out; exact HW.out.drewN n
          have hwN : IntKind.u64.wrap (i : Int) = (i : Int) := IntWalk.u64_in _ (by omega)
          have HDV := Lib.hid (rdiv_any f (cS f (k : Int) s p j i) i wr (by omega) (by omega))
          rw [HEQ.out] at HDV
          have hx : R.getD j 0 ≤ 998244353 := by rw [← HEQ.out]; exact divF_le _ _ _
          generalize cS f (k : Int) s p j i = c1 at *
          go_wp2_with fail
          refine HDV.out.mono ?_
          rintro e w4 ⟨rfl, hd4⟩
          have HO4 := Lib.hid (hd4.on HO2.out)
          have HW4 : Hid (Ow w1.heap.size w4 u (R.take j)) := by obtain ⟨n, rfl⟩ := hd4; exact HW2.out.drewN n
          clear hd4 HDV
          obtain ⟨u2, w5, hrun, hu2, hg2, hb2⟩ := append_own w1.heap.size (R.getD j 0) _ rfl (R.take j) u w4 w4.heap.size rfl HW4.out HO4.out.size hlen
          rw [← HTS.out] at hu2
          have HRUN := Lib.hid hrun
          have HU2 := Lib.hid hu2
          have HO5 : Hid (On w1 w5) := HO4.out.grown (Nat.le_refl _) HW4.out hg2
          clear hrun hu2 hg2 hb2 hlen
          generalize R.getD j 0 = y at *
          go_wp2_with (at_builtin; refine wp_append2 rfl (.tmp 67) (.tmp 74) _ _ rfl _ _ _ rfl rfl HRUN.out ?_)
          go_roundw
          case rel => exact ⟨j + 1, u2, by omega, by go_num, rfl, HU2, HO5⟩
          case measure => simp [intOf]; omega
    · obtain rfl : j = N := by omega
      have HD : Hid (Ow w1.heap.size wx u R) := by
        have h := HW.out
        rw [List.take_of_length_le (by rw [HCL.out]; exact Nat.le_refl _)] at h
        exact h
      go_wp2
      go_ret2
      exact ⟨⟨_, rfl, HD.out.mono HO1.out.size⟩, HO1.out.trans HO.out⟩
end Go.Proofs.YtiipgbobgeejmaaDoor
