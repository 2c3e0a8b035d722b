/- The walk of the law TransformProducts: it returns true. -/
import Derived.Test.YtgkegpnpooeghaaDoorTpoly
namespace Go.Proofs.YtgkegpnpooeghaaDoor
open Go.RowKit
set_option linter.unusedVariables false

set_option maxHeartbeats 4000000 in
set_option maxRecDepth 100000 in
theorem prod_zero (X : Int) (A m s : Nat) (la lb : List Nat) (va vb : Value) (w : World) (hT : Tab w) (hD : TabD w) (hv : validB X = true) (hA : (A : Int) % 4 = X) (hA1 : A ≤ 255) (hm : m ≤ 18446744073709551615) (hs : s ≤ 18446744073709551615) (hz : redF X s = 0) (hRa : Reads w va la) (hSa : Shape va la) (hRb : Reads w vb lb) (hSb : Shape vb lb) :
    Calls Tryd.prog 8 #[.int .u8 (A : Int), va, vb, .int .u64 (m : Int), .int .u64 (s : Int)] w fun e w' => e = .returned (.bool true) ∧ On w w' := by
  have hX : 0 ≤ X ∧ X ≤ 3 := by unfold validB at hv; simpa using hv
  obtain ⟨hX0, hX3⟩ := hX
  have h5g : 5 ≤ grF X := by rcases field_cases X hv with rfl | rfl | rfl | rfl <;> decide
  have HSB : Hid (shB X 1 = true) := by
    have h := shF_ok X s hv
    unfold shF at h
    rw [if_pos hz] at h
    exact h
  have hs2 : 1 ≤ 18446744073709551615 := by omega
  have HVV := Lib.hid hv; have HDD := Lib.hid hD
  have hp := (valid_iff X).1 hv
  have HX := Lib.hid (On.refl hT)
  obtain ⟨P, hP⟩ : ∃ P, P = la.take 14 := ⟨_, rfl⟩
  obtain ⟨Q, hQ⟩ : ∃ Q, Q = lb.take 14 := ⟨_, rfl⟩
  have HPl : Hid (P.length ≤ 14) := by unfold Hid; rw [hP, List.length_take]; omega
  have HQl : Hid (Q.length ≤ 14) := by unfold Hid; rw [hQ, List.length_take]; omega
  have HMl : Hid ((mulL X P Q).length ≤ 27) := by
    have h1 := mulL_lenle (f := X) (a := P) (b := Q); have h2 := normF_len X P; have h3 := normF_len X Q
    have := HPl.out; have := HQl.out; unfold Hid; omega
  have HSl : Hid ((scaleF X P m).length ≤ 14) := Nat.le_trans (scaleF_len X P m) HPl.out
  have HAl : Hid ((addL X (scaleF X P m) Q).length ≤ 14) := Nat.le_trans (addL_len X _ _) (by have := HSl.out; have := HQl.out; omega)
  have HW : Hid (∀ k, k < 32 → (valL X 5 1 (mulL X P Q)).getD k 0 = mulF X ((valL X 5 1 P).getD k 0) ((valL X 5 1 Q).getD k 0)) := fun k hk => by
    rw [valL_getD hv _ _ _ hk, valL_getD hv _ _ _ hk, valL_getD hv _ _ _ hk, val_mul hv]
  have HA2 : Hid (∀ k, k < 32 → (valL X 5 1 (addL X (scaleF X P m) Q)).getD k 0 = addF X (mulF X ((valL X 5 1 P).getD k 0) m) ((valL X 5 1 Q).getD k 0)) := fun k hk => by
    rw [valL_getD hv _ _ _ hk, valL_getD hv _ _ _ hk, valL_getD hv _ _ _ hk, val_add hv, val_scale hv]
  have HP1 := Lib.hid (hP ▸ w_own la 14 va w hT hRa hSa (by omega))
  have HSb := Lib.hid hSb; have HRb := Lib.hid hRb
  have HP2 := Lib.hid hP; have HQ2 := Lib.hid hQ
  have HVB : Hid (∀ p x, x ∈ valL X 5 1 p → x ≤ 998244353) := fun p x hx => by have := fftL_lt X 5 (shiftF X p 1) hp x hx; have := pOf_le X; omega
  clear hP hQ hRa hSa hRb hSb hD hT hv hp
  have HRD := Lib.hid (fun w' (h : Tab w') => reduce_any X s w' h hs)
  rw [hz] at HRD
  clear hz
  go_enter Tryd.func8, Tryd.ntmps8
  go_wp2_with fail
  have hO := HX.out
  have hOc := (On.refl HX.out.tab)
  refine (HP1.out).mono ?_
  rintro e w1 ⟨a1, c1, rfl, hR, hO1⟩
  have HX := Lib.hid (hO.trans hO1)
  have R1 := Lib.hid hR
  clear hO1 hO hOc hR
  go_wp2_with fail
  have hO := HX.out
  have hOc := (On.refl HX.out.tab)
  refine (w_own lb 14 vb _ hO.tab (HRb.out.on hO) HSb.out (by omega)).mono ?_
  rintro e w2 ⟨a2, c2, rfl, hR, hO1⟩
  rw [← HQ2.out] at hR ⊢
  have R1 := Lib.hid (R1.out.on (hOc.trans hO1))
  have HX := Lib.hid (hO.trans hO1)
  have R2 := Lib.hid hR
  clear hO1 hO hOc hR
  go_wp2_with (first | (go_at_call 23; refine (HRD.out _ HX.out.tab).mono ?_; rintro e w' ⟨rfl, rfl⟩) | fail)
  have hO := HX.out
  have hOc := (On.refl HX.out.tab)
  refine (w_mult X P Q _ _ _ (mulL X P Q) _ rfl rfl hO.tab HVV.out (R1.out.on hOc) (R2.out.on hOc) (by have := HPl.out; omega) (by have := HQl.out; omega) (by have h1 := normF_len X P; have h2 := normF_len X Q; have := HPl.out; have := HQl.out; have := Nat.pow_le_pow_right (show 0 < 2 by omega) h5g; omega)).mono ?_
  rintro e w3 ⟨a3, rfl, hR, hO1⟩
  have R1 := Lib.hid (R1.out.on (hOc.trans hO1))
  have R2 := Lib.hid (R2.out.on (hOc.trans hO1))
  have HX := Lib.hid (hO.trans hO1)
  have R3 := Lib.hid hR
  clear hO1 hO hOc hR
  go_wp2_with fail
  have hO := HX.out
  have hOc := (On.refl HX.out.tab)
  refine (w_pmul X P Q _ _ _ hO.tab HVV.out (R1.out.on hOc) (R2.out.on hOc) (by have := HPl.out; omega) (by have := HQl.out; omega)).mono ?_
  rintro e w4 ⟨a4, rfl, hR, hO1⟩
  have R1 := Lib.hid (R1.out.on (hOc.trans hO1))
  have R2 := Lib.hid (R2.out.on (hOc.trans hO1))
  have R3 := Lib.hid (R3.out.on (hOc.trans hO1))
  have HX := Lib.hid (hO.trans hO1)
  have R4 := Lib.hid hR
  clear hO1 hO hOc hR
  go_wp2_with fail
  have hO := HX.out
  have hOc := (On.refl HX.out.tab)
  refine (w_same (mulL X P Q) (mulL X P Q) _ _ _ true (by simp) hO.tab (R3.out.on hOc) (R4.out.on hOc)).mono ?_
  rintro e w5 ⟨rfl, hO1⟩
  have R1 := Lib.hid (R1.out.on (hOc.trans hO1))
  have R2 := Lib.hid (R2.out.on (hOc.trans hO1))
  have R3 := Lib.hid (R3.out.on (hOc.trans hO1))
  have R4 := Lib.hid (R4.out.on (hOc.trans hO1))
  have HX := Lib.hid (hO.trans hO1)
  clear hO1 hO hOc 
  go_wp2_with fail
  have hO := HX.out
  have hOc := (On.refl HX.out.tab)
  refine (w_values X 5 1 (P) _ _ 32 _ (by decide) rfl hO.tab hs2 HSB.out h5g (R1.out.on hOc) (by have := HPl.out; omega) (Nat.le_trans (shiftF_len X _ 1) (by have := HPl.out; omega))).mono ?_
  rintro e w6 ⟨av, rfl, hR, hO1⟩
  have R1 := Lib.hid (R1.out.on (hOc.trans hO1))
  have R2 := Lib.hid (R2.out.on (hOc.trans hO1))
  have R3 := Lib.hid (R3.out.on (hOc.trans hO1))
  have HX := Lib.hid (hO.trans hO1)
  have R5 := Lib.hid hR
  clear hO1 hO hOc hR
  go_wp2_with fail
  have hO := HX.out
  have hOc := (On.refl HX.out.tab)
  refine (w_values X 5 1 (Q) _ _ 32 _ (by decide) rfl hO.tab hs2 HSB.out h5g (R2.out.on hOc) (by have := HQl.out; omega) (Nat.le_trans (shiftF_len X _ 1) (by have := HQl.out; omega))).mono ?_
  rintro e w7 ⟨av, rfl, hR, hO1⟩
  have R1 := Lib.hid (R1.out.on (hOc.trans hO1))
  have R2 := Lib.hid (R2.out.on (hOc.trans hO1))
  have R3 := Lib.hid (R3.out.on (hOc.trans hO1))
  have R5 := Lib.hid (R5.out.on (hOc.trans hO1))
  have HX := Lib.hid (hO.trans hO1)
  have R6 := Lib.hid hR
  clear hO1 hO hOc hR
  go_wp2_with fail
  have hO := HX.out
  have hOc := (On.refl HX.out.tab)
  refine (w_values X 5 1 (mulL X P Q) _ _ 32 _ (by decide) rfl hO.tab hs2 HSB.out h5g (R3.out.on hOc) (by have := HMl.out; omega) (Nat.le_trans (shiftF_len X _ 1) (by have := HMl.out; omega))).mono ?_
  rintro e w8 ⟨av, rfl, hR, hO1⟩
  have R1 := Lib.hid (R1.out.on (hOc.trans hO1))
  have R2 := Lib.hid (R2.out.on (hOc.trans hO1))
  have R3 := Lib.hid (R3.out.on (hOc.trans hO1))
  have R5 := Lib.hid (R5.out.on (hOc.trans hO1))
  have R6 := Lib.hid (R6.out.on (hOc.trans hO1))
  have HX := Lib.hid (hO.trans hO1)
  have R7 := Lib.hid hR
  clear hO1 hO hOc hR
  go_wp2_with fail
  have hO := HX.out
  have hOc := (On.refl HX.out.tab)
  refine (w_scale X P m _ _ hO.tab (R1.out.on hOc) (by have := HPl.out; omega) hm).mono ?_
  rintro e w9 ⟨a8, rfl, hR, hO1⟩
  have R1 := Lib.hid (R1.out.on (hOc.trans hO1))
  have R2 := Lib.hid (R2.out.on (hOc.trans hO1))
  have R5 := Lib.hid (R5.out.on (hOc.trans hO1))
  have R6 := Lib.hid (R6.out.on (hOc.trans hO1))
  have R7 := Lib.hid (R7.out.on (hOc.trans hO1))
  have HX := Lib.hid (hO.trans hO1)
  have R8 := Lib.hid hR
  clear hO1 hO hOc hR
  go_wp2_with fail
  have hO := HX.out
  have hOc := (On.refl HX.out.tab)
  refine (w_add X (scaleF X P m) Q _ _ _ hO.tab (R8.out.on hOc) (R2.out.on hOc) (by have := HSl.out; omega) (by have := HQl.out; omega)).mono ?_
  rintro e w10 ⟨a9, rfl, hR, hO1⟩
  have R1 := Lib.hid (R1.out.on (hOc.trans hO1))
  have R2 := Lib.hid (R2.out.on (hOc.trans hO1))
  have R5 := Lib.hid (R5.out.on (hOc.trans hO1))
  have R6 := Lib.hid (R6.out.on (hOc.trans hO1))
  have R7 := Lib.hid (R7.out.on (hOc.trans hO1))
  have R8 := Lib.hid (R8.out.on (hOc.trans hO1))
  have HX := Lib.hid (hO.trans hO1)
  have R9 := Lib.hid hR
  clear hO1 hO hOc hR
  go_wp2_with fail
  have hO := HX.out
  have hOc := (On.refl HX.out.tab)
  refine (w_values X 5 1 (addL X (scaleF X P m) Q) _ _ 32 _ (by decide) rfl hO.tab hs2 HSB.out h5g (R9.out.on hOc) (by have := HAl.out; omega) (Nat.le_trans (shiftF_len X _ 1) (by have := HAl.out; omega))).mono ?_
  rintro e w11 ⟨av, rfl, hR, hO1⟩
  have R1 := Lib.hid (R1.out.on (hOc.trans hO1))
  have R2 := Lib.hid (R2.out.on (hOc.trans hO1))
  have R5 := Lib.hid (R5.out.on (hOc.trans hO1))
  have R6 := Lib.hid (R6.out.on (hOc.trans hO1))
  have R7 := Lib.hid (R7.out.on (hOc.trans hO1))
  have R8 := Lib.hid (R8.out.on (hOc.trans hO1))
  have R9 := Lib.hid (R9.out.on (hOc.trans hO1))
  have HX := Lib.hid (hO.trans hO1)
  have R10 := Lib.hid hR
  clear hO1 hO hOc hR
  have HUL := Lib.hid (valL_len X 5 1 P); have HVL := Lib.hid (valL_len X 5 1 Q); have HWL := Lib.hid (valL_len X 5 1 (mulL X P Q)); have HTL := Lib.hid (valL_len X 5 1 (addL X (scaleF X P m) Q))
  have HUB := Lib.hid (HVB.out P); have HVB2 := Lib.hid (HVB.out Q)
  have KU := R5; have KV := R6; have KW := R7; have KS := R10
  clear R1 R2 R5 R6 R7 R8 R9 R10 HVB HP1 HRb HSb HRD
  generalize valL X 5 1 (addL X (scaleF X P m) Q) = SL at *
  generalize valL X 5 1 (mulL X P Q) = WL at *
  generalize valL X 5 1 P = UL at *
  generalize valL X 5 1 Q = VL at *
  go_wp2
  go_loopw [22] (fun vk wr => ∃ k : Nat, k ≤ 32 ∧ vk = .int .i64 (k : Int) ∧ Hid (On w11 wr)) (fun vk _ => 32 - (intOf vk).toNat)
  case atStart => exact ⟨0, by omega, rfl, On.refl HX.out.tab⟩
  case round =>
    obtain ⟨k, hk, rfl, HO⟩ := hrel
    by_cases hlt : k < 32
    · obtain ⟨-, cu⟩ := reads_opt (KU.out.on HO.out)
      obtain ⟨-, cv⟩ := reads_opt (KV.out.on HO.out)
      obtain ⟨-, cw⟩ := reads_opt (KW.out.on HO.out)
      obtain ⟨-, cs⟩ := reads_opt (KS.out.on HO.out)
      obtain ⟨b1, o1, rfl, eu⟩ := cu k (by rw [HUL.out]; exact hlt)
      obtain ⟨b2, o2, rfl, ev⟩ := cv k (by rw [HVL.out]; exact hlt)
      obtain ⟨b3, o3, rfl, ew⟩ := cw k (by rw [HWL.out]; exact hlt)
      obtain ⟨b4, o4, rfl, es⟩ := cs k (by rw [HTL.out]; exact hlt)
      have hub := HUB.out _ (getD_mem UL k (by rw [HUL.out]; exact hlt))
      have hvb := HVB2.out _ (getD_mem VL k (by rw [HVL.out]; exact hlt))
      clear cu cv cw cs
      rw [HW.out k hlt] at ew
      rw [HA2.out k hlt] at es
      have hmb := mulF_le X (UL.getD k 0) m
      have HM1 : Hid (∀ n, _) := fun n => mul_any X (UL.getD k 0) (VL.getD k 0) (wr.drewN n) (HO.out.tab.drewN n) (by omega) (by omega)
      have HM2 : Hid (∀ n, _) := fun n => mul_any X (UL.getD k 0) m (wr.drewN n) (HO.out.tab.drewN n) (by omega) hm
      have HAD : Hid (∀ n, _) := fun n => add_any X (mulF X (UL.getD k 0) m) (VL.getD k 0) (wr.drewN n) (HO.out.tab.drewN n) (by omega) (by omega)
      have HON : Hid (∀ n, On w11 (wr.drewN n)) := fun n => HO.out.drewN n
      generalize UL.getD k 0 = x at *
      generalize VL.getD k 0 = y at *
      have hb1 : (((mulF X x y : Nat) : Int) != ((mulF X x y : Nat) : Int)) = false := by simp
      have hb2 : (((addF X (mulF X x m) y : Nat) : Int) != ((addF X (mulF X x m) y : Nat) : Int)) = false := by simp
      generalize addF X (mulF X x m) y = z at *
      generalize mulF X x m = xm at *
      generalize mulF X x y = xy at *
      go_wp2
      go_quiet ((first | (go_at_call 33; exact quiet_of_eq (HAD.out _)) | (go_at_call 26; first | (with_reducible exact quiet_of_eq (HM1.out _)) | (with_reducible exact quiet_of_eq (HM2.out _)))))
      go_wp2
      go_roundw
      case rel => exact ⟨k + 1, by omega, by go_num, HON.out _⟩
      case measure => simp [intOf]; omega
    · have HX := Lib.hid (HX.out.trans HO.out)
      have HWK := Lib.hid (works_any wr HX.out.tab (HDD.out.on HX.out))
      go_wp2_with (go_at_call 15; refine HWK.out.mono ?_; rintro e w99 ⟨rfl, hO9⟩)
      go_ret
      exact ⟨rfl, HX.out.trans hO9⟩
set_option maxHeartbeats 4000000 in
set_option maxRecDepth 100000 in
theorem prod_pos (X : Int) (A m s : Nat) (la lb : List Nat) (va vb : Value) (w : World) (hT : Tab w) (hD : TabD w) (hv : validB X = true) (hA : (A : Int) % 4 = X) (hA1 : A ≤ 255) (hm : m ≤ 18446744073709551615) (hs : s ≤ 18446744073709551615) (hz : redF X s ≠ 0) (hRa : Reads w va la) (hSa : Shape va la) (hRb : Reads w vb lb) (hSb : Shape vb lb) :
    Calls Tryd.prog 8 #[.int .u8 (A : Int), va, vb, .int .u64 (m : Int), .int .u64 (s : Int)] w fun e w' => e = .returned (.bool true) ∧ On w w' := by
  have hX : 0 ≤ X ∧ X ≤ 3 := by unfold validB at hv; simpa using hv
  obtain ⟨hX0, hX3⟩ := hX
  have h5g : 5 ≤ grF X := by rcases field_cases X hv with rfl | rfl | rfl | rfl <;> decide
  have HSB : Hid (shB X s = true) := by
    have h := shF_ok X s hv
    unfold shF at h
    rw [if_neg hz] at h
    exact h
  have hs2 : s ≤ 18446744073709551615 := by omega
  have HVV := Lib.hid hv; have HDD := Lib.hid hD
  have hp := (valid_iff X).1 hv
  have HX := Lib.hid (On.refl hT)
  obtain ⟨P, hP⟩ : ∃ P, P = la.take 14 := ⟨_, rfl⟩
  obtain ⟨Q, hQ⟩ : ∃ Q, Q = lb.take 14 := ⟨_, rfl⟩
  have HPl : Hid (P.length ≤ 14) := by unfold Hid; rw [hP, List.length_take]; omega
  have HQl : Hid (Q.length ≤ 14) := by unfold Hid; rw [hQ, List.length_take]; omega
  have HMl : Hid ((mulL X P Q).length ≤ 27) := by
    have h1 := mulL_lenle (f := X) (a := P) (b := Q); have h2 := normF_len X P; have h3 := normF_len X Q
    have := HPl.out; have := HQl.out; unfold Hid; omega
  have HSl : Hid ((scaleF X P m).length ≤ 14) := Nat.le_trans (scaleF_len X P m) HPl.out
  have HAl : Hid ((addL X (scaleF X P m) Q).length ≤ 14) := Nat.le_trans (addL_len X _ _) (by have := HSl.out; have := HQl.out; omega)
  have HW : Hid (∀ k, k < 32 → (valL X 5 s (mulL X P Q)).getD k 0 = mulF X ((valL X 5 s P).getD k 0) ((valL X 5 s Q).getD k 0)) := fun k hk => by
    rw [valL_getD hv _ _ _ hk, valL_getD hv _ _ _ hk, valL_getD hv _ _ _ hk, val_mul hv]
  have HA2 : Hid (∀ k, k < 32 → (valL X 5 s (addL X (scaleF X P m) Q)).getD k 0 = addF X (mulF X ((valL X 5 s P).getD k 0) m) ((valL X 5 s Q).getD k 0)) := fun k hk => by
    rw [valL_getD hv _ _ _ hk, valL_getD hv _ _ _ hk, valL_getD hv _ _ _ hk, val_add hv, val_scale hv]
  have HP1 := Lib.hid (hP ▸ w_own la 14 va w hT hRa hSa (by omega))
  have HSb := Lib.hid hSb; have HRb := Lib.hid hRb
  have HP2 := Lib.hid hP; have HQ2 := Lib.hid hQ
  have HVB : Hid (∀ p x, x ∈ valL X 5 s p → x ≤ 998244353) := fun p x hx => by have := fftL_lt X 5 (shiftF X p s) hp x hx; have := pOf_le X; omega
  clear hP hQ hRa hSa hRb hSb hD hT hv hp
  have HRD := Lib.hid (fun w' (h : Tab w') => reduce_any X s w' h hs)
  have hnz : (((redF X s : Nat) : Int) == 0) = false := by simp; exact hz
  clear hz
  go_enter Tryd.func8, Tryd.ntmps8
  go_wp2_with fail
  have hO := HX.out
  have hOc := (On.refl HX.out.tab)
  refine (HP1.out).mono ?_
  rintro e w1 ⟨a1, c1, rfl, hR, hO1⟩
  have HX := Lib.hid (hO.trans hO1)
  have R1 := Lib.hid hR
  clear hO1 hO hOc hR
  go_wp2_with fail
  have hO := HX.out
  have hOc := (On.refl HX.out.tab)
  refine (w_own lb 14 vb _ hO.tab (HRb.out.on hO) HSb.out (by omega)).mono ?_
  rintro e w2 ⟨a2, c2, rfl, hR, hO1⟩
  rw [← HQ2.out] at hR ⊢
  have R1 := Lib.hid (R1.out.on (hOc.trans hO1))
  have HX := Lib.hid (hO.trans hO1)
  have R2 := Lib.hid hR
  clear hO1 hO hOc hR
  go_wp2_with (first | (go_at_call 23; refine (HRD.out _ HX.out.tab).mono ?_; rintro e w' ⟨rfl, rfl⟩) | fail)
  have hO := HX.out
  have hOc := (On.refl HX.out.tab)
  refine (w_mult X P Q _ _ _ (mulL X P Q) _ rfl rfl hO.tab HVV.out (R1.out.on hOc) (R2.out.on hOc) (by have := HPl.out; omega) (by have := HQl.out; omega) (by have h1 := normF_len X P; have h2 := normF_len X Q; have := HPl.out; have := HQl.out; have := Nat.pow_le_pow_right (show 0 < 2 by omega) h5g; omega)).mono ?_
  rintro e w3 ⟨a3, rfl, hR, hO1⟩
  have R1 := Lib.hid (R1.out.on (hOc.trans hO1))
  have R2 := Lib.hid (R2.out.on (hOc.trans hO1))
  have HX := Lib.hid (hO.trans hO1)
  have R3 := Lib.hid hR
  clear hO1 hO hOc hR
  go_wp2_with fail
  have hO := HX.out
  have hOc := (On.refl HX.out.tab)
  refine (w_pmul X P Q _ _ _ hO.tab HVV.out (R1.out.on hOc) (R2.out.on hOc) (by have := HPl.out; omega) (by have := HQl.out; omega)).mono ?_
  rintro e w4 ⟨a4, rfl, hR, hO1⟩
  have R1 := Lib.hid (R1.out.on (hOc.trans hO1))
  have R2 := Lib.hid (R2.out.on (hOc.trans hO1))
  have R3 := Lib.hid (R3.out.on (hOc.trans hO1))
  have HX := Lib.hid (hO.trans hO1)
  have R4 := Lib.hid hR
  clear hO1 hO hOc hR
  go_wp2_with fail
  have hO := HX.out
  have hOc := (On.refl HX.out.tab)
  refine (w_same (mulL X P Q) (mulL X P Q) _ _ _ true (by simp) hO.tab (R3.out.on hOc) (R4.out.on hOc)).mono ?_
  rintro e w5 ⟨rfl, hO1⟩
  have R1 := Lib.hid (R1.out.on (hOc.trans hO1))
  have R2 := Lib.hid (R2.out.on (hOc.trans hO1))
  have R3 := Lib.hid (R3.out.on (hOc.trans hO1))
  have R4 := Lib.hid (R4.out.on (hOc.trans hO1))
  have HX := Lib.hid (hO.trans hO1)
  clear hO1 hO hOc 
  go_wp2_with fail
  have hO := HX.out
  have hOc := (On.refl HX.out.tab)
  refine (w_values X 5 s (P) _ _ 32 _ (by decide) rfl hO.tab hs2 HSB.out h5g (R1.out.on hOc) (by have := HPl.out; omega) (Nat.le_trans (shiftF_len X _ s) (by have := HPl.out; omega))).mono ?_
  rintro e w6 ⟨av, rfl, hR, hO1⟩
  have R1 := Lib.hid (R1.out.on (hOc.trans hO1))
  have R2 := Lib.hid (R2.out.on (hOc.trans hO1))
  have R3 := Lib.hid (R3.out.on (hOc.trans hO1))
  have HX := Lib.hid (hO.trans hO1)
  have R5 := Lib.hid hR
  clear hO1 hO hOc hR
  go_wp2_with fail
  have hO := HX.out
  have hOc := (On.refl HX.out.tab)
  refine (w_values X 5 s (Q) _ _ 32 _ (by decide) rfl hO.tab hs2 HSB.out h5g (R2.out.on hOc) (by have := HQl.out; omega) (Nat.le_trans (shiftF_len X _ s) (by have := HQl.out; omega))).mono ?_
  rintro e w7 ⟨av, rfl, hR, hO1⟩
  have R1 := Lib.hid (R1.out.on (hOc.trans hO1))
  have R2 := Lib.hid (R2.out.on (hOc.trans hO1))
  have R3 := Lib.hid (R3.out.on (hOc.trans hO1))
  have R5 := Lib.hid (R5.out.on (hOc.trans hO1))
  have HX := Lib.hid (hO.trans hO1)
  have R6 := Lib.hid hR
  clear hO1 hO hOc hR
  go_wp2_with fail
  have hO := HX.out
  have hOc := (On.refl HX.out.tab)
  refine (w_values X 5 s (mulL X P Q) _ _ 32 _ (by decide) rfl hO.tab hs2 HSB.out h5g (R3.out.on hOc) (by have := HMl.out; omega) (Nat.le_trans (shiftF_len X _ s) (by have := HMl.out; omega))).mono ?_
  rintro e w8 ⟨av, rfl, hR, hO1⟩
  have R1 := Lib.hid (R1.out.on (hOc.trans hO1))
  have R2 := Lib.hid (R2.out.on (hOc.trans hO1))
  have R3 := Lib.hid (R3.out.on (hOc.trans hO1))
  have R5 := Lib.hid (R5.out.on (hOc.trans hO1))
  have R6 := Lib.hid (R6.out.on (hOc.trans hO1))
  have HX := Lib.hid (hO.trans hO1)
  have R7 := Lib.hid hR
  clear hO1 hO hOc hR
  go_wp2_with fail
  have hO := HX.out
  have hOc := (On.refl HX.out.tab)
  refine (w_scale X P m _ _ hO.tab (R1.out.on hOc) (by have := HPl.out; omega) hm).mono ?_
  rintro e w9 ⟨a8, rfl, hR, hO1⟩
  have R1 := Lib.hid (R1.out.on (hOc.trans hO1))
  have R2 := Lib.hid (R2.out.on (hOc.trans hO1))
  have R5 := Lib.hid (R5.out.on (hOc.trans hO1))
  have R6 := Lib.hid (R6.out.on (hOc.trans hO1))
  have R7 := Lib.hid (R7.out.on (hOc.trans hO1))
  have HX := Lib.hid (hO.trans hO1)
  have R8 := Lib.hid hR
  clear hO1 hO hOc hR
  go_wp2_with fail
  have hO := HX.out
  have hOc := (On.refl HX.out.tab)
  refine (w_add X (scaleF X P m) Q _ _ _ hO.tab (R8.out.on hOc) (R2.out.on hOc) (by have := HSl.out; omega) (by have := HQl.out; omega)).mono ?_
  rintro e w10 ⟨a9, rfl, hR, hO1⟩
  have R1 := Lib.hid (R1.out.on (hOc.trans hO1))
  have R2 := Lib.hid (R2.out.on (hOc.trans hO1))
  have R5 := Lib.hid (R5.out.on (hOc.trans hO1))
  have R6 := Lib.hid (R6.out.on (hOc.trans hO1))
  have R7 := Lib.hid (R7.out.on (hOc.trans hO1))
  have R8 := Lib.hid (R8.out.on (hOc.trans hO1))
  have HX := Lib.hid (hO.trans hO1)
  have R9 := Lib.hid hR
  clear hO1 hO hOc hR
  go_wp2_with fail
  have hO := HX.out
  have hOc := (On.refl HX.out.tab)
  refine (w_values X 5 s (addL X (scaleF X P m) Q) _ _ 32 _ (by decide) rfl hO.tab hs2 HSB.out h5g (R9.out.on hOc) (by have := HAl.out; omega) (Nat.le_trans (shiftF_len X _ s) (by have := HAl.out; omega))).mono ?_
  rintro e w11 ⟨av, rfl, hR, hO1⟩
  have R1 := Lib.hid (R1.out.on (hOc.trans hO1))
  have R2 := Lib.hid (R2.out.on (hOc.trans hO1))
  have R5 := Lib.hid (R5.out.on (hOc.trans hO1))
  have R6 := Lib.hid (R6.out.on (hOc.trans hO1))
  have R7 := Lib.hid (R7.out.on (hOc.trans hO1))
  have R8 := Lib.hid (R8.out.on (hOc.trans hO1))
  have R9 := Lib.hid (R9.out.on (hOc.trans hO1))
  have HX := Lib.hid (hO.trans hO1)
  have R10 := Lib.hid hR
  clear hO1 hO hOc hR
  have HUL := Lib.hid (valL_len X 5 s P); have HVL := Lib.hid (valL_len X 5 s Q); have HWL := Lib.hid (valL_len X 5 s (mulL X P Q)); have HTL := Lib.hid (valL_len X 5 s (addL X (scaleF X P m) Q))
  have HUB := Lib.hid (HVB.out P); have HVB2 := Lib.hid (HVB.out Q)
  have KU := R5; have KV := R6; have KW := R7; have KS := R10
  clear R1 R2 R5 R6 R7 R8 R9 R10 HVB HP1 HRb HSb HRD
  generalize valL X 5 s (addL X (scaleF X P m) Q) = SL at *
  generalize valL X 5 s (mulL X P Q) = WL at *
  generalize valL X 5 s P = UL at *
  generalize valL X 5 s Q = VL at *
  go_wp2
  go_loopw [22] (fun vk wr => ∃ k : Nat, k ≤ 32 ∧ vk = .int .i64 (k : Int) ∧ Hid (On w11 wr)) (fun vk _ => 32 - (intOf vk).toNat)
  case atStart => exact ⟨0, by omega, rfl, On.refl HX.out.tab⟩
  case round =>
    obtain ⟨k, hk, rfl, HO⟩ := hrel
    by_cases hlt : k < 32
    · obtain ⟨-, cu⟩ := reads_opt (KU.out.on HO.out)
      obtain ⟨-, cv⟩ := reads_opt (KV.out.on HO.out)
      obtain ⟨-, cw⟩ := reads_opt (KW.out.on HO.out)
      obtain ⟨-, cs⟩ := reads_opt (KS.out.on HO.out)
      obtain ⟨b1, o1, rfl, eu⟩ := cu k (by rw [HUL.out]; exact hlt)
      obtain ⟨b2, o2, rfl, ev⟩ := cv k (by rw [HVL.out]; exact hlt)
      obtain ⟨b3, o3, rfl, ew⟩ := cw k (by rw [HWL.out]; exact hlt)
      obtain ⟨b4, o4, rfl, es⟩ := cs k (by rw [HTL.out]; exact hlt)
      have hub := HUB.out _ (getD_mem UL k (by rw [HUL.out]; exact hlt))
      have hvb := HVB2.out _ (getD_mem VL k (by rw [HVL.out]; exact hlt))
      clear cu cv cw cs
      rw [HW.out k hlt] at ew
      rw [HA2.out k hlt] at es
      have hmb := mulF_le X (UL.getD k 0) m
      have HM1 : Hid (∀ n, _) := fun n => mul_any X (UL.getD k 0) (VL.getD k 0) (wr.drewN n) (HO.out.tab.drewN n) (by omega) (by omega)
      have HM2 : Hid (∀ n, _) := fun n => mul_any X (UL.getD k 0) m (wr.drewN n) (HO.out.tab.drewN n) (by omega) hm
      have HAD : Hid (∀ n, _) := fun n => add_any X (mulF X (UL.getD k 0) m) (VL.getD k 0) (wr.drewN n) (HO.out.tab.drewN n) (by omega) (by omega)
      have HON : Hid (∀ n, On w11 (wr.drewN n)) := fun n => HO.out.drewN n
      generalize UL.getD k 0 = x at *
      generalize VL.getD k 0 = y at *
      have hb1 : (((mulF X x y : Nat) : Int) != ((mulF X x y : Nat) : Int)) = false := by simp
      have hb2 : (((addF X (mulF X x m) y : Nat) : Int) != ((addF X (mulF X x m) y : Nat) : Int)) = false := by simp
      generalize addF X (mulF X x m) y = z at *
      generalize mulF X x m = xm at *
      generalize mulF X x y = xy at *
      go_wp2
      go_quiet ((first | (go_at_call 33; exact quiet_of_eq (HAD.out _)) | (go_at_call 26; first | (with_reducible exact quiet_of_eq (HM1.out _)) | (with_reducible exact quiet_of_eq (HM2.out _)))))
      go_wp2
      go_roundw
      case rel => exact ⟨k + 1, by omega, by go_num, HON.out _⟩
      case measure => simp [intOf]; omega
    · have HX := Lib.hid (HX.out.trans HO.out)
      have HWK := Lib.hid (works_any wr HX.out.tab (HDD.out.on HX.out))
      go_wp2_with (go_at_call 15; refine HWK.out.mono ?_; rintro e w99 ⟨rfl, hO9⟩)
      go_ret
      exact ⟨rfl, HX.out.trans hO9⟩
end Go.Proofs.YtgkegpnpooeghaaDoor
