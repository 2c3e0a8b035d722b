/- The document's own Widen of transforms, and both pairs: the same answers. -/
import Derived.Test.YthaabkmodpnbbaaDoorKeCrefF
namespace Go.Proofs.YthaabkmodpnbbaaDoor
open Go.RowKit
set_option linter.unusedVariables false

theorem coef_one1 {f : Int} {k : Nat} (hv : validB f = true) (v : List Nat) : coefL f k 1 v = ifftL f k v := by
  have hp := (valid_iff f).1 hv
  have h97 := big f hv
  have h1 : invF f 1 = 1 := one_powF f _ hv
  refine list_ext (by rw [coefL_len, ifftL_len]) fun i hi => ?_
  rw [coefL_len] at hi
  rw [coefL_getD _ _ _ _ _ hi, h1, mul_powC, one_powF f i hv, mulF_oneR _ _ hp, Nat.mod_eq_of_lt]
  exact ifftL_lt f k v hp _ (getD_mem _ _ (by rw [ifftL_len]; exact hi))
theorem rwiden_arg (f b : Int) (v : Value) (w : World) (hv : validB f = false) :
    Calls Tryd.prog 57 #[.int .i64 f, v, .int .i64 b] w fun e w' => e = .returned (.tuple #[.slice none 0 0, .int .i64 1]) ∧ w = w' := by
  have HV := Lib.hid hv; clear hv
  go_enter Tryd.func57, Tryd.ntmps57
  go_wp2_with (go_at_call 47; refine (rvalid_any _ _).mono ?_; rintro e w' ⟨rfl, rfl⟩; rw [HV.out])
  go_ret2
  exact ⟨rfl, rfl⟩
theorem rwiden_range (f b kk : Int) (p : List Nat) (v : Value) (w : World) (hv : validB f = true) (hR : Reads w v p) (hL : p.length ≤ 1000) (hb : -9223372036854775808 ≤ b ∧ b ≤ 9223372036854775807) (hkk : kk = -1 ∨ (0 ≤ kk ∧ kk ≤ 40))
    (hB : ∀ w, Calls Tryd.prog 84 #[.int .i64 (p.length : Int)] w fun e w' => e = .returned (.int .i64 kk) ∧ w = w') (hc : kk < 0 ∨ b < 0 ∨ (grF f : Int) < b ∨ (grF f : Int) < kk + b) :
    Calls Tryd.prog 57 #[.int .i64 f, v, .int .i64 b] w fun e w' => e = .returned (.tuple #[.slice none 0 0, .int .i64 2]) ∧ w = w' := by
  have HV := Lib.hid hv
  have HB := Lib.hid hB
  have hg := grF_le f
  obtain ⟨oa, oc, rfl⟩ := hR.shape
  obtain ⟨hb1, hb2⟩ := hb
  have hc2 : kk = -1 ∨ ((0 ≤ kk ∧ kk ≤ 40) ∧ b < 0) ∨ ((0 ≤ kk ∧ kk ≤ 40) ∧ 0 ≤ b ∧ (grF f : Int) < b) ∨ ((0 ≤ kk ∧ kk ≤ 40) ∧ 0 ≤ b ∧ b ≤ (grF f : Int) ∧ (grF f : Int) < kk + b) := by omega
  clear hc hkk hv hB hR
  rcases hc2 with rfl | ⟨⟨h1, h2⟩, h3⟩ | ⟨⟨h1, h2⟩, h3, h4⟩ | ⟨⟨h1, h2⟩, h3, h4, h5⟩
  all_goals
    go_enter Tryd.func57, Tryd.ntmps57
    go_wp2_with (first
      | (go_at_call 47; refine (rvalid_any _ _).mono ?_; rintro e w' ⟨rfl, rfl⟩; rw [HV.out])
      | (go_at_call 84; refine (HB.out _).mono ?_; rintro e w' ⟨rfl, rfl⟩)
      | (go_at_call 48; refine (rgreatest_any f _).mono ?_; rintro e w' ⟨rfl, rfl⟩))
    go_ret2
    exact ⟨rfl, rfl⟩
set_option maxHeartbeats 400000 in
theorem rwiden_any (f : Int) (k b : Nat) (p : List Nat) (v : Value) (w : World) (hT : Tab w) (hv : validB f = true) (hR : Reads w v p) (hk : k ≤ grF f) (hl : p.length = 2 ^ k) (hb : k + b ≤ grF f) (hb9 : k + b ≤ 9) :
    Calls Tryd.prog 57 #[.int .i64 f, v, .int .i64 (b : Int)] w fun e w' =>
      (∃ u, e = .returned (.tuple #[u, .int .i64 0]) ∧ Ow w.heap.size w' u (valL f (k + b) (gOf f) (ifftL f k p))) ∧ On w w' := by
  obtain ⟨K, hK⟩ : ∃ K, K = k + b := ⟨_, rfl⟩
  rw [← hK] at hb hb9 ⊢
  have HV := Lib.hid hv
  have hp := (valid_iff f).1 hv
  have hg := grF_le f
  obtain ⟨oa, oc, rfl⟩ := hR.shape
  have h29 : 2 ^ k ≤ 2 ^ 9 := Nat.pow_le_pow_right (by omega) (by omega)
  have h24 : 2 ^ k ≤ 2 ^ K := Nat.pow_le_pow_right (by omega) (by omega)
  have HBT : Hid (∀ w, _) := fun w => rbits_pow k p.length w hl (by omega)
  have hgl := gOf_le f
  have HGS := Lib.hid (gen_shift hv)
  have h1s : shB f 1 = true := by rcases field_cases f hv with rfl | rfl | rfl | rfl <;> decide +kernel
  have HCO := Lib.hid (fun w h1 h2 => rcoefs_any f k 1 p (.slice oa p.length oc) w h1 (by omega) h1s hk (by omega) h2 hl)
  rw [coef_one1 hv] at HCO
  have HIL := Lib.hid (ifftL_len f k p)
  have HBD := Lib.hid (ifftL_bd (f := f) (k := k) (v := p) hp)
  have HVA : Hid (∀ (l : List Nat) (u : Value) (w : World), Tab w → Reads w u l → l.length ≤ 2 ^ k → _) := fun l u w h1 h2 h3 => rvalues_any f K (gOf f) l u w h1 (by omega) (gen_shift hv) hb hb9 h2 (by omega)
  have HSL : Hid (∀ l : List Nat, l.length ≤ 2 ^ k → (shiftF f l (gOf f)).length ≤ 2 ^ K) := fun l h => Nat.le_trans (Nat.le_trans (shiftF_len f l _) h) h24
  have HR := Lib.hid hR
  have HTT := Lib.hid hT
  clear hR hl hv h1s hT
  generalize ifftL f k p = I at *
  obtain ⟨N, hN⟩ : ∃ N, N = 2 ^ k := ⟨_, rfl⟩
  obtain ⟨M, hM⟩ : ∃ M, M = 2 ^ K := ⟨_, rfl⟩
  rw [← hN] at h29 HIL HVA HSL
  rw [← hM] at HVA HSL
  clear hN hM h24
  have hkb : (k : Int) + (b : Int) = (K : Int) := by omega
  have hd1 : decide ((k : Int) < 0) = false := decide_eq_false (by omega)
  have hd2 : decide ((b : Int) < 0) = false := decide_eq_false (by omega)
  have hd3 : decide (((grF f : Nat) : Int) < (b : Int)) = false := decide_eq_false (by omega)
  have hd4 : decide (((grF f : Nat) : Int) < (K : Int)) = false := decide_eq_false (by omega)
  have hwK : IntKind.i64.wrap (K : Int) = (K : Int) := IntWalk.i64_in _ (by omega)
  clear hK
  go_enter Tryd.func57, Tryd.ntmps57
  go_wp2_with (first
    | (go_at_call 47; refine (rvalid_any _ _).mono ?_; rintro e w' ⟨rfl, rfl⟩; rw [HV.out])
    | (go_at_call 84; refine (HBT.out _).mono ?_; rintro e w' ⟨rfl, rfl⟩)
    | (go_at_call 48; refine (rgreatest_any f _).mono ?_; rintro e w' ⟨rfl, rfl⟩)
    | (go_at_call 55; refine (rgen_any f _).mono ?_; rintro e w' ⟨rfl, rfl⟩))
  refine (HCO.out _ HTT.out HR.out).mono ?_
  rintro e w4 ⟨⟨u, rfl, hW⟩, hO4⟩
  have hR4 : Reads w4 u I := hW.reads HBD.out
  have HW4 := Lib.hid hO4
  have HVL := Lib.hid (HVA.out I u w4 HW4.out.tab hR4 (by rw [HIL.out]; exact Nat.le_refl _))
  clear hW hO4 hR4
  go_wp2_with (first
    | (go_at_call 55; refine (rgen_any f _).mono ?_; rintro e w' ⟨rfl, rfl⟩)
    | (go_at_call 85; refine HVL.out.mono ?_; rintro e w5 ⟨-, h5, hO5⟩; obtain ⟨u5, rfl, hW5⟩ := h5 (HSL.out I (by rw [HIL.out]; exact Nat.le_refl _))))
  go_ret2
  exact ⟨⟨u5, rfl, hW5.mono HW4.out.size⟩, HW4.out.trans hO5⟩

theorem coefs_pair (f : Int) (s : Nat) (p : List Nat) (hs : s ≤ 18446744073709551615) (hL : p.length ≤ 512) :
    ∃ (L : List Nat) (c : Int), (∀ v w, Tab w → TabD w → Reads w v p → Calls Tryd.prog 66 #[.int .i64 f, .int .u64 (s : Int), v] w fun e w' => Ans w e w' L c) ∧
      (∀ v w, Tab w → Reads w v p → Calls Tryd.prog 67 #[.int .i64 f, .int .u64 (s : Int), v] w fun e w' => Ans w e w' L c) := by
  cases hb : shB f s
  · exact ⟨[], 1, fun v w hT _ _ => (coefs_arg f s v w hT hs hb).mono fun e w' ⟨h1, h2⟩ => ans_nil h1 (h2 ▸ On.refl hT), fun v w hT _ => (rcoefs_arg f s v w hs hb).mono fun e w' ⟨h1, h2⟩ => ans_nil h1 (h2.on (On.refl hT))⟩
  · by_cases hr : ∃ k, k ≤ grF f ∧ p.length = 2 ^ k
    · obtain ⟨k, hk, hl⟩ := hr
      obtain ⟨hv, -⟩ := shB_parts hb
      have hp := (valid_iff f).1 hv
      have hk9 : k ≤ 9 := by
        rcases Nat.lt_or_ge 9 k with h | h
        · have := Nat.pow_le_pow_right (show 0 < 2 by omega) (show 10 ≤ k by omega); omega
        · exact h
      refine ⟨coefL f k s p, 0, fun v w hT hD hR => ?_, fun v w hT hR => ?_⟩
      · refine (w_coefs f k s p v w (2 ^ k) _ rfl rfl hT hD hs hb hk hR hl).mono ?_
        rintro e w' ⟨a, h1, h2, h3⟩
        exact ⟨a, 2 ^ k, by rw [coefL_len]; exact h1, by rw [coefL_len]; exact h2, h3⟩
      · refine (rcoefs_any f k s p v w hT hs hb hk hk9 hR hl).mono ?_
        rintro e w' ⟨⟨u, h3, h4⟩, h2⟩
        obtain ⟨a, c, rfl⟩ := h4.shape
        exact ⟨a, c, h3, h4.reads (coefL_bd hp), h2⟩
    · have hno : ∀ k, k ≤ grF f → p.length ≠ 2 ^ k := fun k hk h => hr ⟨k, hk, h⟩
      exact ⟨[], 2, fun v w hT hD hR => (coefs_range f s p v w hT hD hs hb hR (by omega) hno).mono fun e w' ⟨h1, h2⟩ => ans_nil h1 h2, fun v w hT hR => (rcoefs_range f s p v w hs hb hR (by omega) hno).mono fun e w' ⟨h1, h2⟩ => ans_nil h1 (h2.on (On.refl hT))⟩
theorem widen_pair (f b : Int) (p : List Nat) (hb : -9223372036854775808 ≤ b ∧ b ≤ 9223372036854775807) (hL : p.length ≤ 64) (hsz : b < 2 ∨ (grF f : Int) < b ∨ p.length * 2 ^ b.toNat ≤ 128) :
    ∃ (L : List Nat) (c : Int), (∀ v w, Tab w → TabD w → Reads w v p → Calls Tryd.prog 56 #[.int .i64 f, v, .int .i64 b] w fun e w' => Ans w e w' L c) ∧
      (∀ v w, Tab w → Reads w v p → Calls Tryd.prog 57 #[.int .i64 f, v, .int .i64 b] w fun e w' => Ans w e w' L c) := by
  cases hv : validB f
  · exact ⟨[], 1, fun v w hT _ _ => (widen_arg f b v w hT hv).mono fun e w' ⟨h1, h2⟩ => ans_nil h1 (h2 ▸ On.refl hT), fun v w hT _ => (rwiden_arg f b v w hv).mono fun e w' ⟨h1, h2⟩ => ans_nil h1 (h2 ▸ On.refl hT)⟩
  · have hg := grF_le f
    have hp := (valid_iff f).1 hv
    by_cases hr : ∃ k, k ≤ grF f ∧ p.length = 2 ^ k
    · obtain ⟨k, hk, hl⟩ := hr
      have hbits := fun w => rbits_pow k p.length w hl (by omega)
      have hk6 : k ≤ 6 := by
        rcases Nat.lt_or_ge 6 k with h | h
        · have := Nat.pow_le_pow_right (show 0 < 2 by omega) (show 7 ≤ k by omega); omega
        · exact h
      by_cases hc : b < 0 ∨ (grF f : Int) - (k : Int) < b
      · exact ⟨[], 2, fun v w hT hD hR => (widen_range f b k p v w hT hD hv hR hk hl hc).mono fun e w' ⟨h1, h2⟩ => ans_nil h1 h2, fun v w hT hR => (rwiden_range f b k p v w hv hR (by omega) hb (by omega) hbits (by omega)).mono fun e w' ⟨h1, h2⟩ => ans_nil h1 (h2 ▸ On.refl hT)⟩
      · obtain ⟨B, rfl⟩ : ∃ B : Nat, b = (B : Int) := ⟨b.toNat, by omega⟩
        have hK9 : k + B ≤ 9 := by
          rcases hsz with h | h | h
          · omega
          · omega
          · rw [hl, ← Nat.pow_add, Int.toNat_natCast] at h
            rcases Nat.lt_or_ge 9 (k + B) with h2 | h2
            · have := Nat.pow_le_pow_right (show 0 < 2 by omega) (show 10 ≤ k + B by omega); omega
            · exact h2
        refine ⟨valL f (k + B) (gOf f) (ifftL f k p), 0, fun v w hT hD hR => ?_, fun v w hT hR => ?_⟩
        · refine (w_widen f k B p v w (2 ^ (k + B)) _ rfl rfl hT hD hv hk hR hl (by omega)).mono ?_
          rintro e w' ⟨a, h1, h2, h3⟩
          exact ⟨a, 2 ^ (k + B), by rw [valL_len]; exact h1, by rw [valL_len]; exact h2, h3⟩
        · refine (rwiden_any f k B p v w hT hv hR hk hl (by omega) hK9).mono ?_
          rintro e w' ⟨⟨u, h3, h4⟩, h2⟩
          obtain ⟨a, c, rfl⟩ := h4.shape
          exact ⟨a, c, h3, h4.reads (valL_bd hp), h2⟩
    · have hno : ∀ k, k ≤ grF f → p.length ≠ 2 ^ k := fun k hk h => hr ⟨k, hk, h⟩
      obtain ⟨kk, hkk, hbits⟩ := rbits_bad f p.length (by omega) hno
      refine ⟨[], 2, fun v w hT hD hR => (widen_size f b p v w hT hD hv hR (by omega) hno).mono fun e w' ⟨h1, h2⟩ => ans_nil h1 h2, fun v w hT hR => (rwiden_range f b kk p v w hv hR (by omega) hb (by omega) hbits (by omega)).mono fun e w' ⟨h1, h2⟩ => ans_nil h1 (h2 ▸ On.refl hT)⟩
end Go.Proofs.YthaabkmodpnbbaaDoor
