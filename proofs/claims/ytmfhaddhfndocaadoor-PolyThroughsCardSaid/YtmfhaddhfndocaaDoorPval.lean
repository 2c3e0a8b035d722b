/- The walk of the law PolyValues: it returns true. -/
import Derived.Test.YtmfhaddhfndocaaDoorPvalM
import Derived.Test.YtmfhaddhfndocaaDoorPdiv
import Derived.BigQuiet
namespace Go.Proofs.YtmfhaddhfndocaaDoor
open Go.RowKit
set_option linter.unusedVariables false

theorem addL_len (f : Int) (l m : List Nat) : (addL f l m).length ≤ max l.length m.length := by
  unfold addL
  have := normF_len f ((List.range (max l.length m.length)).map fun i => addF f (l.getD i 0) (m.getD i 0))
  rwa [List.length_map, List.length_range] at this
theorem subL_len (f : Int) (l m : List Nat) : (subL f l m).length ≤ max l.length m.length := by
  unfold subL
  have := normF_len f ((List.range (max l.length m.length)).map fun i => subF f (l.getD i 0) (m.getD i 0))
  rwa [List.length_map, List.length_range] at this
theorem scaleF_len (f : Int) (l : List Nat) (s : Nat) : (scaleF f l s).length ≤ l.length := by
  unfold scaleF
  have := normF_len f (l.map fun x => mulF f x s)
  rwa [List.length_map] at this
theorem shiftF_len (f : Int) (l : List Nat) (s : Nat) : (shiftF f l s).length ≤ l.length := by
  unfold shiftF
  have := normF_len f ((List.range l.length).map fun i => mulF f (l.getD i 0) (powF f s i))
  rwa [List.length_map, List.length_range] at this

set_option maxHeartbeats 4000000 in
set_option maxRecDepth 100000 in
theorem values_any (X : Int) (A M m0 m : Nat) (s x : Nat) (la lb : List Nat) (va vb : Value) (w : World) (hT : Tab w) (hv : validB X = true) (hA : (A : Int) % 4 = X) (hA1 : A ≤ 255) (hM : (M : Int) % 64 = (m0 : Int)) (hM1 : M ≤ 255) (hm0 : m0 ≤ 63) (hadd : 1 + (m0 : Int) = (m : Int)) (hs : s ≤ 18446744073709551615) (hx : x ≤ 18446744073709551615)
    (hRa : Reads w va la) (hSa : Shape va la) (hRb : Reads w vb lb) (hSb : Shape vb lb) :
    Calls Tryd.prog 7 #[.int .u8 (A : Int), .int .u8 (M : Int), va, vb, .int .u64 (s : Int), .int .u64 (x : Int)] w fun e w' => e = .returned (.bool true) ∧ On w w' := by
  obtain ⟨hX0, hX3⟩ := valid_range hv
  have hm1 : 1 ≤ m := by omega
  have hm64 : m ≤ 64 := by omega
  have HV := Lib.hid hv; clear hv
  have H0 := Lib.hid (On.refl hT)
  have ha40 : (la.take 40).length ≤ 40 := by rw [List.length_take]; omega
  have hb40 : (lb.take 40).length ≤ 40 := by rw [List.length_take]; omega
  have HC1 := Lib.hid (own_any la 40 va w hT hRa hSa (by omega))
  have HRb := Lib.hid hRb; have HSb := Lib.hid hSb
  clear hRa hSa hRb hSb
  generalize la.take 40 = a at *
  go_enter Tryd.func7, Tryd.ntmps7
  go_wp2_with fail
  try simp only [hA, hM, hadd]
  have HAE := Lib.hid hA; have HME := Lib.hid hM; have HAD := Lib.hid hadd
  clear hA hM hadd
  refine HC1.out.mono ?_
  rintro e w1 ⟨⟨v1, rfl, hR1⟩, hO1⟩
  have HX := Lib.hid hO1; have RA := Lib.hid hR1
  clear hO1 hR1 HC1
  go_wp2_with fail
  refine (own_any lb 40 vb w1 HX.out.tab (HRb.out.on HX.out) HSb.out (by omega)).mono ?_
  rintro e w2 ⟨⟨v2, rfl, hR2⟩, hO1⟩
  have RA := Lib.hid (RA.out.on hO1)
  have HX := Lib.hid (HX.out.trans hO1); have RB := Lib.hid hR2
  clear hO1 hR2 HRb HSb
  generalize lb.take 40 = b at *
  have VM := Lib.hid (val_mul HV.out a b x); have VA := Lib.hid (val_add HV.out a b x); have VS := Lib.hid (val_sub HV.out a b x); have VC := Lib.hid (val_scale HV.out a s x); have VH := Lib.hid (val_shift HV.out a s x)
  have VP := Lib.hid (sumP_val HV.out a m x (by omega))
  obtain ⟨U, hU⟩ : ∃ U, U = evF X a x := ⟨_, rfl⟩
  obtain ⟨Y, hY⟩ : ∃ Y, Y = evF X b x := ⟨_, rfl⟩
  rw [← hU] at VM VA VS VC VP
  rw [← hY] at VM VA VS
  have hUb : U ≤ 998244353 := by rw [hU]; exact evF_le _ _ _
  have hYb : Y ≤ 998244353 := by rw [hY]; exact evF_le _ _ _
  have HU := Lib.hid hU; have HY := Lib.hid hY
  clear hU hY

  go_wp2_with fail
  refine (w_mul X a b _ _ _ HX.out.tab HV.out RA.out RB.out (by omega) (by omega)).mono ?_
  rintro e w3 ⟨ap, rfl, hRP, hO1⟩
  have RA := Lib.hid (RA.out.on hO1)
  have RB := Lib.hid (RB.out.on hO1)
  have HX := Lib.hid (HX.out.trans hO1)
  have RP := Lib.hid hRP
  clear hO1 hRP
  go_wp2_with fail
  refine (eval_any X a x _ _ HX.out.tab RA.out (by first | exact hx | omega)).mono ?_
  rintro e w' ⟨rfl, q, rfl⟩
  rw [← HU.out]
  obtain ⟨wn1, hwn⟩ : ∃ wn, wn = World.drewN w3 q := ⟨_, rfl⟩
  rw [← hwn]
  have RA := Lib.hid (RA.out.drewN q); rw [← hwn] at RA
  have RB := Lib.hid (RB.out.drewN q); rw [← hwn] at RB
  have RP := Lib.hid (RP.out.drewN q); rw [← hwn] at RP
  have HX := Lib.hid (HX.out.drewN q); rw [← hwn] at HX
  clear hwn
  go_wp2_with fail
  refine (eval_any X b x _ _ HX.out.tab RB.out (by first | exact hx | omega)).mono ?_
  rintro e w' ⟨rfl, q, rfl⟩
  rw [← HY.out]
  obtain ⟨wn2, hwn⟩ : ∃ wn, wn = World.drewN wn1 q := ⟨_, rfl⟩
  rw [← hwn]
  have RA := Lib.hid (RA.out.drewN q); rw [← hwn] at RA
  have RB := Lib.hid (RB.out.drewN q); rw [← hwn] at RB
  have RP := Lib.hid (RP.out.drewN q); rw [← hwn] at RP
  have HX := Lib.hid (HX.out.drewN q); rw [← hwn] at HX
  clear hwn
  go_wp2_with fail
  refine (eval_any X (mulL X a b) x _ _ HX.out.tab RP.out (by first | exact hx | omega)).mono ?_
  rintro e w' ⟨rfl, q, rfl⟩
  rw [VM.out]
  obtain ⟨wn3, hwn⟩ : ∃ wn, wn = World.drewN wn2 q := ⟨_, rfl⟩
  rw [← hwn]
  have RA := Lib.hid (RA.out.drewN q); rw [← hwn] at RA
  have RB := Lib.hid (RB.out.drewN q); rw [← hwn] at RB
  have RP := Lib.hid (RP.out.drewN q); rw [← hwn] at RP
  have HX := Lib.hid (HX.out.drewN q); rw [← hwn] at HX
  clear hwn
  go_wp2_with fail
  refine (mul_any X U Y _ HX.out.tab (by omega) (by omega)).mono ?_
  rintro e w' ⟨rfl, rfl⟩
  go_wp2_with fail
  refine (padd_any X a b _ _ _ HX.out.tab RA.out RB.out (by omega) (by omega)).mono ?_
  rintro e wk4 ⟨⟨u6, rfl, hF⟩, hO1⟩
  have RA := Lib.hid (RA.out.on hO1)
  have RB := Lib.hid (RB.out.on hO1)
  have HX := Lib.hid (HX.out.trans hO1)
  have RU := Lib.hid (hF.reads (by unfold addL; exact normF_bd) (by have := addL_len X a b; omega))
  clear hO1 hF
  go_wp2_with fail
  refine (eval_any X (addL X a b) x _ _ HX.out.tab RU.out (by first | exact hx | omega)).mono ?_
  rintro e w' ⟨rfl, q, rfl⟩
  rw [VA.out]
  obtain ⟨wn5, hwn⟩ : ∃ wn, wn = World.drewN wk4 q := ⟨_, rfl⟩
  rw [← hwn]
  have RA := Lib.hid (RA.out.drewN q); rw [← hwn] at RA
  have RB := Lib.hid (RB.out.drewN q); rw [← hwn] at RB
  have HX := Lib.hid (HX.out.drewN q); rw [← hwn] at HX
  clear hwn
  go_wp2_with fail
  refine (add_any X U Y _ HX.out.tab (by omega) (by omega)).mono ?_
  rintro e w' ⟨rfl, rfl⟩
  go_wp2_with fail
  refine (psub_any X a b _ _ _ HX.out.tab RA.out RB.out (by omega) (by omega)).mono ?_
  rintro e wk6 ⟨⟨u6, rfl, hF⟩, hO1⟩
  have RA := Lib.hid (RA.out.on hO1)
  have RB := Lib.hid (RB.out.on hO1)
  have HX := Lib.hid (HX.out.trans hO1)
  have RU := Lib.hid (hF.reads (by unfold subL; exact normF_bd) (by have := subL_len X a b; omega))
  clear hO1 hF
  go_wp2_with fail
  refine (eval_any X (subL X a b) x _ _ HX.out.tab RU.out (by first | exact hx | omega)).mono ?_
  rintro e w' ⟨rfl, q, rfl⟩
  rw [VS.out]
  obtain ⟨wn7, hwn⟩ : ∃ wn, wn = World.drewN wk6 q := ⟨_, rfl⟩
  rw [← hwn]
  have RA := Lib.hid (RA.out.drewN q); rw [← hwn] at RA
  have RB := Lib.hid (RB.out.drewN q); rw [← hwn] at RB
  have HX := Lib.hid (HX.out.drewN q); rw [← hwn] at HX
  clear hwn
  go_wp2_with fail
  refine (sub_any X U Y _ HX.out.tab (by omega) (by omega)).mono ?_
  rintro e w' ⟨rfl, rfl⟩
  go_wp2_with fail
  refine (scale_any X a s _ _ HX.out.tab RA.out (by omega) hs).mono ?_
  rintro e wk8 ⟨⟨u6, rfl, hF⟩, hO1⟩
  have RA := Lib.hid (RA.out.on hO1)
  have RB := Lib.hid (RB.out.on hO1)
  have HX := Lib.hid (HX.out.trans hO1)
  have RU := Lib.hid (hF.reads (by unfold scaleF; exact normF_bd) (by have := scaleF_len X a s; omega))
  clear hO1 hF
  go_wp2_with fail
  refine (eval_any X (scaleF X a s) x _ _ HX.out.tab RU.out (by first | exact hx | omega)).mono ?_
  rintro e w' ⟨rfl, q, rfl⟩
  rw [VC.out]
  obtain ⟨wn9, hwn⟩ : ∃ wn, wn = World.drewN wk8 q := ⟨_, rfl⟩
  rw [← hwn]
  have RA := Lib.hid (RA.out.drewN q); rw [← hwn] at RA
  have RB := Lib.hid (RB.out.drewN q); rw [← hwn] at RB
  have HX := Lib.hid (HX.out.drewN q); rw [← hwn] at HX
  clear hwn
  go_wp2_with fail
  refine (mul_any X U s _ HX.out.tab (by omega) hs).mono ?_
  rintro e w' ⟨rfl, rfl⟩
  go_wp2_with fail
  refine (shift_any X a s _ _ HX.out.tab RA.out (by omega) hs).mono ?_
  rintro e wk10 ⟨⟨u6, rfl, hF⟩, hO1⟩
  have RA := Lib.hid (RA.out.on hO1)
  have RB := Lib.hid (RB.out.on hO1)
  have HX := Lib.hid (HX.out.trans hO1)
  have RU := Lib.hid (hF.reads (by unfold shiftF; exact normF_bd) (by have := shiftF_len X a s; omega))
  clear hO1 hF
  go_wp2_with fail
  refine (eval_any X (shiftF X a s) x _ _ HX.out.tab RU.out (by first | exact hx | omega)).mono ?_
  rintro e w' ⟨rfl, q, rfl⟩
  rw [VH.out]
  obtain ⟨wn11, hwn⟩ : ∃ wn, wn = World.drewN wk10 q := ⟨_, rfl⟩
  rw [← hwn]
  have RA := Lib.hid (RA.out.drewN q); rw [← hwn] at RA
  have RB := Lib.hid (RB.out.drewN q); rw [← hwn] at RB
  have HX := Lib.hid (HX.out.drewN q); rw [← hwn] at HX
  clear hwn
  go_wp2_with fail
  refine (mul_any X s x _ HX.out.tab hs hx).mono ?_
  rintro e w' ⟨rfl, rfl⟩
  have hsx := mulF_le X s x
  generalize mulF X s x = sx at *
  have hev := evF_le X a sx
  go_wp2_with fail
  refine (eval_any X a sx _ _ HX.out.tab RA.out (by omega)).mono ?_
  rintro e w' ⟨rfl, q, rfl⟩
  obtain ⟨wn, hwn⟩ : ∃ wn, wn = World.drewN wn11 q := ⟨_, rfl⟩
  rw [← hwn]
  have RA := Lib.hid (RA.out.drewN q); rw [← hwn] at RA
  have HX := Lib.hid (HX.out.drewN q); rw [← hwn] at HX
  clear hwn
  go_wp2_with fail
  refine (split_any X a m _ wn HX.out.tab HV.out RA.out (by omega) hm1 hm64).mono ?_
  rintro e w7 ⟨rfl, hO1, Vp, hLs⟩
  have RA := Lib.hid (RA.out.on hO1)
  have HX := Lib.hid (HX.out.trans hO1)
  have HLS := Lib.hid hLs
  clear hO1 hLs
  generalize wn.heap.size = G at *
  obtain ⟨N, hN⟩ : ∃ N, N = (normF X a).length := ⟨_, rfl⟩
  have hNl : N ≤ 40 := by rw [hN]; have := normF_len X a; omega
  rw [← hN] at HLS
  have HN := Lib.hid hN; clear hN
  have hpl : ∀ j, (strip (part X a m N j)).length ≤ 40 := fun j => by have := strip_len (part X a m N j); have := part_len X a m N j; omega
  have HPL := Lib.hid hpl; clear hpl
  go_wp2_with fail
  refine (join_any X G 0 m m Vp (fun j => strip (part X a m N j)) w7 HX.out.tab hm1 hm64 (fun j hj => by rw [Nat.zero_add]; exact HLS.out.2.1 j hj) (fun j hj => (HLS.out.2.2.2 j hj).1) (fun j hj => by have := HPL.out j; omega)).mono ?_
  rintro e w8 ⟨⟨vj, J, rfl, hJ1, hJ2, hJ3, hJ4, hF⟩, hO1⟩
  have hJe : J = normF X a := join_split HV.out a m (by omega) J hJ1 (fun t => by rw [hJ2 t, HN.out])
  subst hJe
  have RA := Lib.hid (RA.out.on hO1)
  have HX := Lib.hid (HX.out.trans hO1)
  have HLS := Lib.hid (HLS.out.on hO1)
  have RJ := Lib.hid (hF.reads hJ4 (by omega))
  clear hO1 hF hJ1 hJ2 hJ3 hJ4
  go_wp2_with fail
  refine (normal_any X a _ _ HX.out.tab RA.out (by omega)).mono ?_
  rintro e w9 ⟨⟨u2, rfl, hF⟩, hO1⟩
  have RJ := Lib.hid (RJ.out.on hO1)
  have RN := Lib.hid (hF.reads normF_bd (by have := normF_len X a; omega))
  have HX := Lib.hid (HX.out.trans hO1)
  have HLS := Lib.hid (HLS.out.on hO1)
  clear hO1 hF
  go_wp2_with fail
  refine (w_same _ _ _ _ _ true (by simp) HX.out.tab RJ.out RN.out).mono ?_
  rintro e w10 ⟨rfl, hO1⟩
  have HX := Lib.hid (HX.out.trans hO1)
  have HLS := Lib.hid (HLS.out.on hO1)
  clear hO1
  have hwm : IntKind.u64.wrap (m : Int) = (m : Int) := IntWalk.u64_in _ (by omega)
  go_wp2_with fail
  refine (pow_any X x m _ HX.out.tab hx (by omega)).mono ?_
  rintro e w' ⟨rfl, rfl⟩
  have hhb := powF_le X x m
  obtain ⟨hp, hhp⟩ : ∃ hp, hp = powF X x m := ⟨_, rfl⟩
  rw [← hhp] at hhb ⊢
  have HHP := Lib.hid hhp; clear hhp
  go_wp2_with fail
  go_loopw [20, 22] (fun vs vj wr => ∃ j q : Nat, j ≤ m ∧ vj = .int .i64 (j : Int) ∧ vs = .int .u64 ((sumP X a m x j : Nat) : Int) ∧ Hid (wr = w10.drewN q)) (fun _ vj _ => m - (intOf vj).toNat)
  case atStart => exact ⟨0, 0, Nat.zero_le _, rfl, rfl, rfl⟩
  case round =>
    rename World => wr
    obtain ⟨j, q, hj, rfl, rfl, HW⟩ := hrel
    have hTr : Tab wr := by rw [HW.out]; exact HX.out.tab.drewN q
    have HTr := Lib.hid hTr; clear hTr
    have HL2 : Hid (Lists G m wr Vp (fun j => strip (part X a m N j))) := by unfold Hid; rw [HW.out]; exact HLS.out.drewN q
    by_cases hjm : j < m
    · have hcell := HL2.out.2.1 j hjm
      have hrd := (HL2.out.2.2.2 j hjm).1
      obtain ⟨aj, cj, hVj⟩ := hrd.shape
      rw [hVj] at hcell hrd
      have hSb := sumP_le X a m x j
      have hPb := powF_le X x j
      have hEb := evF_le X (strip (part X a m N j)) hp
      have HEV := Lib.hid (fun q2 => eval_any X (strip (part X a m N j)) hp _ (wr.drewN q2) (HTr.out.drewN q2) (hrd.drewN q2) (by omega))
      have HPW := Lib.hid (fun q2 => pow_any X x j (wr.drewN q2) (HTr.out.drewN q2) hx (by omega))
      have hnext : sumP X a m x (j + 1) = addF X (sumP X a m x j) (mulF X (powF X x j) (evF X (strip (part X a m N j)) hp)) := by rw [HHP.out, HN.out]; rfl
      have HNX := Lib.hid hnext
      have hwj : IntKind.u64.wrap (j : Int) = (j : Int) := IntWalk.u64_in _ (by omega)
      clear hrd hVj hnext
      generalize (strip (part X a m N j)).length = pl at *
      generalize sumP X a m x j = Sj at *
      generalize powF X x j = Pj at *
      generalize evF X (strip (part X a m N j)) hp = Ej at *
      have HMU := Lib.hid (fun q2 => mul_any X Pj Ej (wr.drewN q2) (HTr.out.drewN q2) (by omega) (by omega))
      have hMb := mulF_le X Pj Ej
      have HAD := Lib.hid (fun q2 => add_any X Sj (mulF X Pj Ej) (wr.drewN q2) (HTr.out.drewN q2) (by omega) (by omega))
      go_wp2_with fail
      go_quiet ((first
        | (go_at_call 45; exact quiet_of_eq (HPW.out _))
        | (go_at_call 23; exact quiet_of_drewN (HEV.out _))
        | (go_at_call 42; exact quiet_of_eq (HMU.out _))
        | (go_at_call 43; exact quiet_of_eq (HAD.out _))))
      go_wp2_with fail
      go_roundw
      case rel => exact ⟨j + 1, q + nq, by omega, by go_num, by rw [HNX.out], by unfold Hid; rw [HW.out]; simp [World.drewN_drewN]⟩
      case measure => simp [intOf]; omega
    · obtain rfl : j = m := by omega
      rw [VP.out]
      have HOw : Hid (On w wr) := by unfold Hid; rw [HW.out]; exact HX.out.drewN q
      go_wp2_with fail
      refine (works_any wr HTr.out).mono ?_
      rintro e w11 ⟨rfl, hO1⟩
      have HO := Lib.hid (HOw.out.trans hO1)
      clear hO1
      go_wp2
      go_ret
      exact ⟨rfl, HO.out⟩
end Go.Proofs.YtmfhaddhfndocaaDoor
