/- The walk of the law TransformMeans: it returns true. -/
import Derived.Test.YtgkegpnpooeghaaDoorTpoly
import Derived.Test.YtgkegpnpooeghaaDoorTinvl
import Derived.Deep.RegionHeld3
import Derived.Deep.DeepCutAuto
namespace Go.Proofs.YtgkegpnpooeghaaDoor
open Go.RowKit
set_option linter.unusedVariables false

theorem coef_one {f : Int} {k : Nat} (hv : validB f = true) (v : List Nat) : coefL f k 1 v = ifftL f k v := by
  have hp := (valid_iff f).1 hv
  have h97 := big f hv
  have h1 : invF f 1 = 1 := one_powF f _ hv
  refine list_ext (by rw [coefL_len, ifftL_len]) fun i hi => ?_
  rw [coefL_len] at hi
  rw [coefL_getD _ _ _ _ _ hi, h1, mul_powC, one_powF f i hv, mulF_oneR _ _ hp, Nat.mod_eq_of_lt]
  exact ifftL_lt f k v hp _ (getD_mem _ _ (by rw [ifftL_len]; exact hi))
theorem rootF_bd (f k : Int) : rootF f k ≤ 998244353 := by
  unfold rootF; split
  · exact powF_le _ _ _
  · omega

set_option maxHeartbeats 8000000 in
set_option maxRecDepth 100000 in
theorem means_any (X : Int) (A K N s at_ : Nat) (l : List Nat) (v : Value) (w : World) (hT : Tab w) (hD : TabD w) (hv : validB X = true) (hA : (A : Int) % 4 = X) (hA1 : A ≤ 255) (hK1 : K ≤ 255) (hN : (K : Int) % 10 % (((limF X : Nat) : Int) + 1) = (N : Int)) (hs : s ≤ 18446744073709551615) (hat : at_ ≤ 65535) (hR : Reads w v l) :
    Calls Tryd.prog 7 #[.int .u8 (A : Int), .int .u8 (K : Int), .int .u64 (s : Int), v, .int .u16 (at_ : Int)] w fun e w' => e = .returned (.bool true) ∧ On w w' := by
  have hNle : N ≤ limF X := by
    have := Int.emod_lt_of_pos ((K : Int) % 10) (show (0 : Int) < ((limF X : Nat) : Int) + 1 by omega)
    omega
  have hkg : N ≤ grF X := Nat.le_trans hNle (limF_gr X hv).1
  have h5g : 5 ≤ grF X := by rcases field_cases X hv with rfl | rfl | rfl | rfl <;> decide
  have hk9 : N ≤ 9 := Nat.le_trans hNle (limF_gr X hv).2
  have HSZ := Lib.hid (sized_any X A K N s l v w hT hv hA hA1 hK1 hN hs hR)
  have HU := Lib.hid (pad_le hR.1 (2 ^ N))
  have HPL := Lib.hid (pad_len l (2 ^ N))
  have hsb := shF_ok X s hv
  have hs2 := shF_bd X s hs
  have h29 : 2 ^ N ≤ 2 ^ 9 := Nat.pow_le_pow_right (by omega) hk9
  have h20 : 0 < 2 ^ N := Nat.pow_pos (by omega)
  have HSB := Lib.hid hsb
  have HVV := Lib.hid hv
  have HDD := Lib.hid hD
  have hp := (valid_iff X).1 hv
  have h97 := big X hv
  have HS1 : Hid (shB X 1 = true) := by
    unfold Hid shB
    rw [hv, redF_pos _ _ hp, Nat.mod_eq_of_lt (by omega)]; rfl
  generalize shF X s = S at *
  generalize pad l (2 ^ N) = P at *
  obtain ⟨b, hb⟩ : ∃ b, b = if N < 5 then min 2 (5 - N) else 0 := ⟨_, rfl⟩
  have hb1 : N < 5 → b = min 2 (5 - N) := fun h => by rw [hb, if_pos h]
  have hb2 : ¬ N < 5 → b = 0 := fun h => by rw [hb, if_neg h]
  obtain ⟨KK, hKK⟩ : ∃ KK, KK = N + b := ⟨_, rfl⟩
  have hKg : KK ≤ grF X := by
    by_cases h : N < 5
    · have := hb1 h; omega
    · have := hb2 h; omega
  have HVL := Lib.hid (fun j (hj : j < 2 ^ N) => valL_getD (k := N) hv P S j hj)
  have HWL := Lib.hid (fun j (hj : j < 2 ^ KK) => valL_getD (k := KK) hv (ifftL X N P) (gOf X) j hj)
  have HC1 := Lib.hid (coef_one (k := N) hv P)
  have hpow2 : 2 ^ KK = 2 ^ N * 2 ^ b := by rw [hKK, Nat.pow_add]
  have hM2b : 2 ^ KK ≤ 262144 := pow_big hKg
  obtain ⟨M, hM⟩ : ∃ M, M = 2 ^ N := ⟨_, rfl⟩
  obtain ⟨M2, hM2⟩ : ∃ M2, M2 = 2 ^ KK := ⟨_, rfl⟩
  have hsh : (M : Int) * 2 ^ b = (M2 : Int) := by rw [hM, hM2, hpow2, Int.natCast_mul, Int.natCast_pow, Int.natCast_pow]; rfl
  have HKK := Lib.hid hKK
  have hkb : (N : Int) + (b : Int) = (KK : Int) := by omega
  have HPM : Hid (P.length = 2 ^ N) := HPL
  rw [← hM] at h29 HSZ HPL HVL h20
  rw [← hM2] at HWL hM2b
  have hMb : M ≤ 512 := by omega
  have hM20 : 0 < M2 := by rw [hM2]; exact Nat.pow_pos (by omega)
  have HM := Lib.hid hM; have HM2 := Lib.hid hM2
  have hb3 : b ≤ 2 := by
    by_cases h : N < 5
    · have := hb1 h; omega
    · have := hb2 h; omega
  have HB1 := Lib.hid hb1; have HB2 := Lib.hid hb2
  obtain ⟨I, hI⟩ : ∃ I, I = at_ % M := ⟨_, rfl⟩
  have hI1 : (at_ : Int) % (M : Int) = (I : Int) := by rw [hI]; rfl
  have hIt : Int.tmod (at_ : Int) (M : Int) = (I : Int) := by rw [Int.tmod_eq_emod_of_nonneg (by omega)]; exact hI1
  have hIM : I < M := by rw [hI]; exact Nat.mod_lt _ h20
  obtain ⟨J, hJ⟩ : ∃ J, J = at_ % M2 := ⟨_, rfl⟩
  have hJ1 : (at_ : Int) % (M2 : Int) = (J : Int) := by rw [hJ]; rfl
  have hJt : Int.tmod (at_ : Int) (M2 : Int) = (J : Int) := by rw [Int.tmod_eq_emod_of_nonneg (by omega)]; exact hJ1
  have hJM : J < M2 := by rw [hJ]; exact Nat.mod_lt _ hM20
  have hrb := rootF_bd X (N : Int)
  have hrb2 := rootF_bd X (KK : Int)
  have hgb := gOf_le X
  have hwI : IntKind.u64.wrap (I : Int) = (I : Int) := IntWalk.u64_in _ (by omega)
  have hwJ : IntKind.u64.wrap (J : Int) = (J : Int) := IntWalk.u64_in _ (by omega)
  have hwK : IntKind.i64.wrap ((N : Int) + (b : Int)) = (KK : Int) := by rw [hkb]; exact IntWalk.i64_in _ (by omega)
  have hwK2 : IntKind.i64.wrap (KK : Int) = (KK : Int) := IntWalk.i64_in _ (by have := grF_le X; omega)
  have h20' : ¬ ((M : Int) = 0) := by omega
  have h20'' : ¬ ((M2 : Int) = 0) := by omega
  have HX := Lib.hid (On.refl hT)
  clear hM hM2 h29 hsb hN hNle hR hD hT hv hs hb hb1 hb2 hKK hpow2 hI hJ hp h97
  go_enter Tryd.func7, Tryd.ntmps7
  go_wp2_with fail
  refine HSZ.out.mono ?_
  rintro e w1 ⟨⟨g, rfl, hB⟩, hO⟩
  have hRP : Reads w1 (.slice (some ⟨g, 0, none⟩) M M) P := by
    have h := hB.reads HU.out (by rw [HPL.out]; omega) M
    rw [HPL.out] at h; exact h
  have HX := Lib.hid (HX.out.trans hO)
  have RP := Lib.hid hRP
  clear hB hO hRP HSZ
  go_wp2_with fail
  have hO := HX.out
  have hOc := (On.refl HX.out.tab)
  refine (w_values X N S P _ _ M _ HM.out rfl hO.tab hs2 HSB.out hkg (RP.out.on hOc) (by rw [HPL.out]; omega) (Nat.le_trans (shiftF_len X P S) (Nat.le_of_eq HPM.out))).mono ?_
  rintro e w2 ⟨a1, rfl, hR, hO1⟩
  have RP := Lib.hid (RP.out.on (hOc.trans hO1))
  have HX := Lib.hid (hO.trans hO1)
  have R1 := Lib.hid hR
  clear hO1 hO hOc hR
  go_upto_region 6 with fail
  obtain ⟨-, hc⟩ := reads_opt R1.out
  obtain ⟨bL, oL, rfl, hcell⟩ := hc I (by rw [valL_len X N S P, ← HM.out]; assumption)
  rw [HVL.out I hIM] at hcell
  clear hc
  have HCX : Hid (∀ w', On w2 w' → w'.cell? ⟨bL, oL + I, none⟩ = _) := fun w' hw => (hw.cell (p := ⟨bL, oL + I, none⟩) (cell_size hcell)).trans hcell
  have hpw := powF_le X (rootF X (N : Int)) I
  have hmw := mulF_le X S (powF X (rootF X (N : Int)) I)
  obtain ⟨Y, hY⟩ : ∃ Y, Y = powF X (rootF X (N : Int)) I := ⟨_, rfl⟩
  rw [← hY] at hpw hmw hcell HCX
  have HY := Lib.hid hY
  clear hY
  obtain ⟨Z, hZ⟩ : ∃ Z, Z = mulF X S Y := ⟨_, rfl⟩
  rw [← hZ] at hmw hcell HCX
  have HZ := Lib.hid hZ
  clear hZ
  go_cut [72] (fun s72 wx => s72 = .bool false ∧ Hid (On w2 wx))
  case first =>
    go_region_held3 (fun w' => w'.cell? ⟨bL, oL + I, none⟩ = some (.int .u64 ((evF X (P) Z : Nat) : Int))) (first | assumption | exact HCX.out _ (by first | assumption | (with_reducible exact On.refl HX.out.tab) | (with_reducible exact (On.refl HX.out.tab).drew) | (with_reducible exact On.drew (by assumption)) | (with_reducible exact On.drewN (by assumption) _))) (first
        | (go_at_call 28; refine (root_any X ((N : Nat) : Int) w2 _ (by first | assumption | (with_reducible exact On.refl HX.out.tab) | (with_reducible exact (On.refl HX.out.tab).drew) | (with_reducible exact On.drew (by assumption)) | (with_reducible exact On.drewN (by assumption) _))).mono ?_; rintro e wR ⟨rfl, hR9⟩; have hcR := HCX.out wR hR9)
        | (go_at_call 27; refine (pow_any X (rootF X (N : Int)) I _ (On.tab (W := w2) (by first | assumption | (with_reducible exact On.refl HX.out.tab) | (with_reducible exact (On.refl HX.out.tab).drew) | (with_reducible exact On.drew (by assumption)) | (with_reducible exact On.drewN (by assumption) _))) (by omega) (by omega)).mono ?_; rintro e w' ⟨rfl, rfl⟩; rw [← HY.out])
        | (go_at_call 26; refine (mul_any X S Y _ (On.tab (W := w2) (by first | assumption | (with_reducible exact On.refl HX.out.tab) | (with_reducible exact (On.refl HX.out.tab).drew) | (with_reducible exact On.drew (by assumption)) | (with_reducible exact On.drewN (by assumption) _))) (by omega) (by omega)).mono ?_; rintro e w' ⟨rfl, rfl⟩; rw [← HZ.out])
        | (go_at_call 25; refine (eval_any X (P) Z _ _ (On.tab (W := w2) (by first | assumption | (with_reducible exact On.refl HX.out.tab) | (with_reducible exact (On.refl HX.out.tab).drew) | (with_reducible exact On.drew (by assumption)) | (with_reducible exact On.drewN (by assumption) _))) (RP.out.on (w := _) (by first | assumption | (with_reducible exact On.refl HX.out.tab) | (with_reducible exact (On.refl HX.out.tab).drew) | (with_reducible exact On.drew (by assumption)) | (with_reducible exact On.drewN (by assumption) _))) (by omega)).mono ?_; rintro e w' ⟨rfl, q9, rfl⟩))
    all_goals
      go_wp2_with fail
      go_meet
      exact ⟨by simp, by unfold Hid; exact (by first | assumption | (with_reducible exact On.refl HX.out.tab) | (with_reducible exact (On.refl HX.out.tab).drew) | (with_reducible exact On.drew (by assumption)) | (with_reducible exact On.drewN (by assumption) _))⟩
  case rest =>
  obtain ⟨rfl, hcO⟩ := hcut
  have RP := Lib.hid (RP.out.on hcO.out)
  have HX := Lib.hid (HX.out.trans hcO.out)
  clear hcO HCX hcell hpw hmw HY HZ R1
  obtain ⟨wd, hwd⟩ : ∃ wd, wd = wc := ⟨_, rfl⟩
  subst hwd
  go_upto_if 74 with (fail)
  go_cut [18] (fun s18 wx => s18 = .int .i64 (b : Int) ∧ Hid (On wd wx))
  case first =>
    have hcs : (N ≤ 3 ∧ Hid (b = 2)) ∨ ((4 ≤ N ∧ N ≤ 4) ∧ Hid (b = 1)) ∨ (5 ≤ N ∧ Hid (b = 0)) := by
      have h1 := HB1.out; have h2 := HB2.out
      rcases Nat.lt_or_ge N 5 with h | h
      · have h3 := h1 h
        rcases Nat.lt_or_ge 3 N with h4 | h4
        · exact .inr (.inl ⟨by omega, by unfold Hid; omega⟩)
        · exact .inl ⟨h4, by unfold Hid; omega⟩
      · exact .inr (.inr ⟨h, by unfold Hid; exact h2 (by omega)⟩)
    have HRF := Lib.hid (On.refl HX.out.tab)
    rcases hcs with ⟨hc1, Hb⟩ | ⟨⟨hc1, hc2⟩, Hb⟩ | ⟨hc1, Hb⟩
    all_goals
      go_wp2_with fail
      go_meet
      exact ⟨val_int (by have := Hb.out; omega), HRF⟩
  case rest =>
  obtain ⟨rfl, hcO⟩ := hcut
  have RP := Lib.hid (RP.out.on hcO.out)
  have HX := Lib.hid (HX.out.trans hcO.out)
  clear hcO
  go_wp2_with fail
  have hO := HX.out
  have hOc := (On.refl HX.out.tab)
  refine (w_coefs X N 1 P _ _ M _ HM.out HC1.out hO.tab (HDD.out.on hO) (by omega) HS1.out hkg (RP.out.on hOc) HPM.out).mono ?_
  rintro e w21 ⟨a3, rfl, hR, hO1⟩
  have RP := Lib.hid (RP.out.on (hOc.trans hO1))
  have HX := Lib.hid (hO.trans hO1)
  have R11 := Lib.hid hR
  clear hO1 hO hOc hR
  go_wp2_with fail
  have hO := HX.out
  have hOc := (On.refl HX.out.tab)
  refine (w_widen X N b P _ _ M2 (valL X KK (gOf X) (ifftL X N P)) (by rw [← HKK.out]; exact HM2.out) (by rw [← HKK.out]) hO.tab (HDD.out.on hO) HVV.out hkg (RP.out.on hOc) HPM.out (by rw [← HKK.out]; exact hKg)).mono ?_
  rintro e w22 ⟨a4, rfl, hR, hO1⟩
  have RP := Lib.hid (RP.out.on (hOc.trans hO1))
  have R11 := Lib.hid (R11.out.on (hOc.trans hO1))
  have HX := Lib.hid (hO.trans hO1)
  have R12 := Lib.hid hR
  clear hO1 hO hOc hR
  go_upto_region 16 with fail
  obtain ⟨-, hc⟩ := reads_opt R12.out
  obtain ⟨bL, oL, rfl, hcell⟩ := hc J (by rw [valL_len X KK (gOf X) (ifftL X N P), ← HM2.out]; assumption)
  rw [HWL.out J hJM] at hcell
  clear hc
  have HCX : Hid (∀ w', On w22 w' → w'.cell? ⟨bL, oL + J, none⟩ = _) := fun w' hw => (hw.cell (p := ⟨bL, oL + J, none⟩) (cell_size hcell)).trans hcell
  have hpw := powF_le X (rootF X (KK : Int)) J
  have hmw := mulF_le X (gOf X) (powF X (rootF X (KK : Int)) J)
  obtain ⟨Y, hY⟩ : ∃ Y, Y = powF X (rootF X (KK : Int)) J := ⟨_, rfl⟩
  rw [← hY] at hpw hmw hcell HCX
  have HY := Lib.hid hY
  clear hY
  obtain ⟨Z, hZ⟩ : ∃ Z, Z = mulF X (gOf X) Y := ⟨_, rfl⟩
  rw [← hZ] at hmw hcell HCX
  have HZ := Lib.hid hZ
  clear hZ
  go_region_held3 (fun w' => w'.cell? ⟨bL, oL + J, none⟩ = some (.int .u64 ((evF X (ifftL X N P) Z : Nat) : Int))) (first | assumption | exact HCX.out _ (by first | assumption | (with_reducible exact On.refl HX.out.tab) | (with_reducible exact (On.refl HX.out.tab).drew) | (with_reducible exact On.drew (by assumption)) | (with_reducible exact On.drewN (by assumption) _))) (first
        | (go_at_call 29; refine (gen_any X w22 _ (by first | assumption | (with_reducible exact On.refl HX.out.tab) | (with_reducible exact (On.refl HX.out.tab).drew) | (with_reducible exact On.drew (by assumption)) | (with_reducible exact On.drewN (by assumption) _))).mono ?_; rintro e wG ⟨rfl, hG9⟩; have hcG := HCX.out wG hG9)
        | (go_at_call 28; refine (root_any X ((KK : Nat) : Int) w22 _ (by first | assumption | (with_reducible exact On.refl HX.out.tab) | (with_reducible exact (On.refl HX.out.tab).drew) | (with_reducible exact On.drew (by assumption)) | (with_reducible exact On.drewN (by assumption) _))).mono ?_; rintro e wR ⟨rfl, hR9⟩; have hcR := HCX.out wR hR9)
        | (go_at_call 27; refine (pow_any X (rootF X (KK : Int)) J _ (On.tab (W := w22) (by first | assumption | (with_reducible exact On.refl HX.out.tab) | (with_reducible exact (On.refl HX.out.tab).drew) | (with_reducible exact On.drew (by assumption)) | (with_reducible exact On.drewN (by assumption) _))) (by omega) (by omega)).mono ?_; rintro e w' ⟨rfl, rfl⟩; rw [← HY.out])
        | (go_at_call 26; refine (mul_any X (gOf X) Y _ (On.tab (W := w22) (by first | assumption | (with_reducible exact On.refl HX.out.tab) | (with_reducible exact (On.refl HX.out.tab).drew) | (with_reducible exact On.drew (by assumption)) | (with_reducible exact On.drewN (by assumption) _))) (by omega) (by omega)).mono ?_; rintro e w' ⟨rfl, rfl⟩; rw [← HZ.out])
        | (go_at_call 25; refine (eval_any X (ifftL X N P) Z _ _ (On.tab (W := w22) (by first | assumption | (with_reducible exact On.refl HX.out.tab) | (with_reducible exact (On.refl HX.out.tab).drew) | (with_reducible exact On.drew (by assumption)) | (with_reducible exact On.drewN (by assumption) _))) (R11.out.on (w := _) (by first | assumption | (with_reducible exact On.refl HX.out.tab) | (with_reducible exact (On.refl HX.out.tab).drew) | (with_reducible exact On.drew (by assumption)) | (with_reducible exact On.drewN (by assumption) _))) (by omega)).mono ?_; rintro e w' ⟨rfl, q9, rfl⟩)
        | (go_at_call 15; refine (works_any _ (On.tab (W := w22) (by first | assumption | (with_reducible exact On.refl HX.out.tab) | (with_reducible exact (On.refl HX.out.tab).drew) | (with_reducible exact On.drew (by assumption)) | (with_reducible exact On.drewN (by assumption) _))) (HDD.out.on (HX.out.trans (by first | assumption | (with_reducible exact On.refl HX.out.tab) | (with_reducible exact (On.refl HX.out.tab).drew) | (with_reducible exact On.drew (by assumption)) | (with_reducible exact On.drewN (by assumption) _))))).mono ?_; rintro e wW ⟨rfl, hW9⟩; have hcW := HCX.out wW (On.trans (w := _) (by first | assumption | (with_reducible exact On.refl HX.out.tab) | (with_reducible exact (On.refl HX.out.tab).drew) | (with_reducible exact On.drew (by assumption)) | (with_reducible exact On.drewN (by assumption) _)) hW9); have hO9 : Hid (On w22 wW) := On.trans (w := _) (by first | assumption | (with_reducible exact On.refl HX.out.tab) | (with_reducible exact (On.refl HX.out.tab).drew) | (with_reducible exact On.drew (by assumption)) | (with_reducible exact On.drewN (by assumption) _)) hW9))
  all_goals
    go_wp2_with fail
    go_ret
    exact ⟨rfl, HX.out.trans hO9.out⟩
end Go.Proofs.YtgkegpnpooeghaaDoor
