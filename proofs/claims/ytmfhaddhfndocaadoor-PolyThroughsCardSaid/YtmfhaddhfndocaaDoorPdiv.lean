/- The walk of the law PolyDivides: it returns true. -/
import Derived.Test.YtmfhaddhfndocaaDoorPworks
namespace Go.Proofs.YtmfhaddhfndocaaDoor
open Go.RowKit
set_option linter.unusedVariables false

/-- The quotient times the divisor, and the remainder: the dividend. -/
theorem div_back {f : Int} {a b Q R : List Nat} (hv : validB f = true) (h : DivR f (normF f a) (normF f b) Q R) : addL f (mulL f Q b) R = normF f a ∧ normF f R = R := by
  have hp := (valid_iff f).1 hv
  obtain ⟨h1, h2, h3, h4, h5, h6, _, h8⟩ := h
  refine ⟨norm_ext (addL_norm _ _ _) (normF_norm _ _) fun k => ?_, normF_id hp h4 h2⟩
  rw [addL_getD, mulL_getD, normF_id hp h3 h1, addF_modL, addF_pos _ _ _ hp, h8 k]
theorem mulL_len80 (f : Int) (l m : List Nat) : (mulL f l m).length ≤ l.length + m.length := by
  have := normF_len f l; have := normF_len f m
  unfold mulL; split
  · simp
  · simp; omega
theorem valid_range {X : Int} (h : validB X = true) : 0 ≤ X ∧ X ≤ 3 := by unfold validB at h; simpa using h

set_option maxHeartbeats 2000000 in
set_option maxRecDepth 100000 in
theorem divides_any (X : Int) (A : Nat) (la lb : List Nat) (va vb : Value) (w : World) (hT : Tab w) (hv : validB X = true) (hA : (A : Int) % 4 = X) (hA1 : A ≤ 255) (hRa : Reads w va la) (hSa : Shape va la) (hRb : Reads w vb lb) (hSb : Shape vb lb) :
    Calls Tryd.prog 6 #[.int .u8 (A : Int), va, vb] w fun e w' => e = .returned (.bool true) ∧ On w w' := by
  obtain ⟨hX0, hX3⟩ := valid_range hv
  have hp := (valid_iff X).1 hv
  have HV := Lib.hid hv; clear hv
  have H0 := Lib.hid (On.refl hT)
  have ha80 : (la.take 80).length ≤ 80 := by rw [List.length_take]; omega
  have hb80 : (lb.take 80).length ≤ 80 := by rw [List.length_take]; omega
  have HC1 := Lib.hid (own_any la 80 va w hT hRa hSa (by omega))
  have HRb := Lib.hid hRb; have HSb := Lib.hid hSb
  clear hRa hSa hRb hSb
  generalize la.take 80 = a at *
  go_enter Tryd.func6, Tryd.ntmps6
  go_wp2_with fail
  refine HC1.out.mono ?_
  rintro e w1 ⟨⟨v1, rfl, hR1⟩, hO1⟩
  have H1 := Lib.hid hO1; have R1 := Lib.hid hR1
  clear hO1 hR1 HC1
  go_wp2_with fail
  refine (own_any lb 80 vb w1 H1.out.tab (HRb.out.on H1.out) HSb.out (by omega)).mono ?_
  rintro e w2 ⟨⟨v2, rfl, hR2⟩, hO1⟩
  have R1 := Lib.hid (R1.out.on hO1)
  have H2 := Lib.hid (H1.out.trans hO1); have R2 := Lib.hid hR2
  clear hO1 hR2 HRb HSb
  generalize lb.take 80 = b at *
  go_wp2_with fail
  refine (degree_any X b _ _ H2.out.tab R2.out).mono ?_
  rintro e w' ⟨rfl, rfl⟩
  by_cases hd : (normF X b).length = 0
  · have hd1 : (((normF X b).length : Nat) : Int) - 1 < 0 := by omega
    have HD0 := Lib.hid hd; clear hd
    obtain ⟨M, hM⟩ : ∃ M : List Nat, M = [1] := ⟨_, rfl⟩
    have hMl : M.length ≤ 80 := by rw [hM]; decide
    have hMpos : 0 < (normF X M).length := by
      rw [hM, normF_id hp (.inr (by decide)) (by have := big X HV.out; simp; omega)]; decide
    have HX : Hid (On w (w2.alloc (.cells #[.int .u64 1] 23))) := H2.out.alloc _
    have RA : Hid (Reads (w2.alloc (.cells #[.int .u64 1] 23)) v1 a) := R1.out.on ((On.refl H2.out.tab).alloc _)
    have RM : Hid (Reads (w2.alloc (.cells #[.int .u64 1] 23)) (.slice (some ⟨w2.heap.size, 0, none⟩) 1 1) M) := by rw [hM]; exact reads_new w2 [1] 1 _ _ rfl rfl (by decide) (by decide)
    have HMM := Lib.hid hM; clear hM
    go_wp2_with fail
    refine (w_div X a M _ _ _ HX.out.tab HV.out RA.out RM.out (by omega) (by omega) hMpos).mono ?_
    rintro e w4 ⟨Q, R, aq, ar, rfl, hRQ, hRR, hD, hO1⟩
    obtain ⟨hback, hnR⟩ := div_back HV.out hD
    have hRlen : (R.length : Int) - 1 < ((normF X M).length : Int) - 1 := by have := hD.2.2.2.2.1; omega
    have hQl : Q.length ≤ 80 := by have := hD.2.2.2.2.2.1; have := normF_len X a; omega
    have hRl : R.length ≤ 80 := by have := normF_len X M; omega
    have HBACK := Lib.hid hback; have HNR := Lib.hid hnR; have HD := Lib.hid hD
    have RA := Lib.hid (RA.out.on hO1); have RM := Lib.hid (RM.out.on hO1)
    have HX := Lib.hid (HX.out.trans hO1); have RQ := Lib.hid hRQ; have RR := Lib.hid hRR
    clear hO1 hRQ hRR hback hnR hD
    go_wp2_with fail
    refine (w_mul X Q M _ _ _ HX.out.tab HV.out RQ.out RM.out (by omega) (by omega)).mono ?_
    rintro e w5 ⟨ap, rfl, hRP, hO1⟩
    have RA := Lib.hid (RA.out.on hO1); have RM := Lib.hid (RM.out.on hO1)
    have HX := Lib.hid (HX.out.trans hO1); have RR := Lib.hid (RR.out.on hO1); have RP := Lib.hid hRP
    clear hO1 hRP RQ
    go_wp2_with fail
    refine (degree_any X R _ _ HX.out.tab RR.out).mono ?_
    rintro e w' ⟨rfl, rfl⟩
    rw [HNR.out]
    go_wp2_with fail
    refine (degree_any X M _ _ HX.out.tab RM.out).mono ?_
    rintro e w' ⟨rfl, rfl⟩
    go_wp2_with fail
    refine (padd_any X (mulL X Q M) R _ _ _ HX.out.tab RP.out RR.out (by have := mulL_len80 X Q M; omega) (by omega)).mono ?_
    rintro e w6 ⟨⟨u, rfl, hF⟩, hO1⟩
    have hub : (addL X (mulL X Q M) R).length ≤ 1000 := by rw [HBACK.out]; have := normF_len X a; omega
    have RU := Lib.hid (hF.reads (by unfold addL; exact normF_bd) (by omega))
    have RA := Lib.hid (RA.out.on hO1)
    have HX := Lib.hid (HX.out.trans hO1)
    clear hO1 hF
    go_wp2_with fail
    refine (normal_any X a _ _ HX.out.tab RA.out (by omega)).mono ?_
    rintro e w7 ⟨⟨u2, rfl, hF⟩, hO1⟩
    have RU := Lib.hid (RU.out.on hO1)
    have RN := Lib.hid (hF.reads normF_bd (by have := normF_len X a; omega))
    have HX := Lib.hid (HX.out.trans hO1)
    clear hO1 hF
    go_wp2_with fail
    refine (w_same _ _ _ _ _ true (by rw [HBACK.out]; simp) HX.out.tab RU.out RN.out).mono ?_
    rintro e w8 ⟨rfl, hO1⟩
    have HX := Lib.hid (HX.out.trans hO1)
    clear hO1
    go_wp2_with fail
    refine (works_any _ HX.out.tab).mono ?_
    rintro e w9 ⟨rfl, hO1⟩
    have HX := Lib.hid (HX.out.trans hO1)
    clear hO1
    go_wp2
    go_ret
    exact ⟨rfl, HX.out⟩
  · have hd1 : 0 ≤ (((normF X b).length : Nat) : Int) - 1 := by omega
    obtain ⟨M, hM⟩ : ∃ M : List Nat, M = b := ⟨_, rfl⟩
    rw [← hM] at hd hd1 hb80 R2 ⊢
    have hMpos : 0 < (normF X M).length := by omega
    have HX := H2
    have RA := R1
    have RM := R2
    clear hd hM
    go_wp2_with fail
    refine (w_div X a M _ _ _ HX.out.tab HV.out RA.out RM.out (by omega) (by omega) hMpos).mono ?_
    rintro e w4 ⟨Q, R, aq, ar, rfl, hRQ, hRR, hD, hO1⟩
    obtain ⟨hback, hnR⟩ := div_back HV.out hD
    have hRlen : (R.length : Int) - 1 < ((normF X M).length : Int) - 1 := by have := hD.2.2.2.2.1; omega
    have hQl : Q.length ≤ 80 := by have := hD.2.2.2.2.2.1; have := normF_len X a; omega
    have hRl : R.length ≤ 80 := by have := normF_len X M; omega
    have HBACK := Lib.hid hback; have HNR := Lib.hid hnR; have HD := Lib.hid hD
    have RA := Lib.hid (RA.out.on hO1); have RM := Lib.hid (RM.out.on hO1)
    have HX := Lib.hid (HX.out.trans hO1); have RQ := Lib.hid hRQ; have RR := Lib.hid hRR
    clear hO1 hRQ hRR hback hnR hD
    go_wp2_with fail
    refine (w_mul X Q M _ _ _ HX.out.tab HV.out RQ.out RM.out (by omega) (by omega)).mono ?_
    rintro e w5 ⟨ap, rfl, hRP, hO1⟩
    have RA := Lib.hid (RA.out.on hO1); have RM := Lib.hid (RM.out.on hO1)
    have HX := Lib.hid (HX.out.trans hO1); have RR := Lib.hid (RR.out.on hO1); have RP := Lib.hid hRP
    clear hO1 hRP RQ
    go_wp2_with fail
    refine (degree_any X R _ _ HX.out.tab RR.out).mono ?_
    rintro e w' ⟨rfl, rfl⟩
    rw [HNR.out]
    go_wp2_with fail
    refine (degree_any X M _ _ HX.out.tab RM.out).mono ?_
    rintro e w' ⟨rfl, rfl⟩
    go_wp2_with fail
    refine (padd_any X (mulL X Q M) R _ _ _ HX.out.tab RP.out RR.out (by have := mulL_len80 X Q M; omega) (by omega)).mono ?_
    rintro e w6 ⟨⟨u, rfl, hF⟩, hO1⟩
    have hub : (addL X (mulL X Q M) R).length ≤ 1000 := by rw [HBACK.out]; have := normF_len X a; omega
    have RU := Lib.hid (hF.reads (by unfold addL; exact normF_bd) (by omega))
    have RA := Lib.hid (RA.out.on hO1)
    have HX := Lib.hid (HX.out.trans hO1)
    clear hO1 hF
    go_wp2_with fail
    refine (normal_any X a _ _ HX.out.tab RA.out (by omega)).mono ?_
    rintro e w7 ⟨⟨u2, rfl, hF⟩, hO1⟩
    have RU := Lib.hid (RU.out.on hO1)
    have RN := Lib.hid (hF.reads normF_bd (by have := normF_len X a; omega))
    have HX := Lib.hid (HX.out.trans hO1)
    clear hO1 hF
    go_wp2_with fail
    refine (w_same _ _ _ _ _ true (by rw [HBACK.out]; simp) HX.out.tab RU.out RN.out).mono ?_
    rintro e w8 ⟨rfl, hO1⟩
    have HX := Lib.hid (HX.out.trans hO1)
    clear hO1
    go_wp2_with fail
    refine (works_any _ HX.out.tab).mono ?_
    rintro e w9 ⟨rfl, hO1⟩
    have HX := Lib.hid (HX.out.trans hO1)
    clear hO1
    go_wp2
    go_ret
    exact ⟨rfl, HX.out⟩
end Go.Proofs.YtmfhaddhfndocaaDoor
