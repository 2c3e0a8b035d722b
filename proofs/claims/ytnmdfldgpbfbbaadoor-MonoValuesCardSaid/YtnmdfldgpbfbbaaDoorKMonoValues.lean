/- MonoValues: the law's walk. -/
import Derived.Test.YtnmdfldgpbfbbaaDoorKm23
import Derived.Test.YtnmdfldgpbfbbaaDoorKm25
set_option linter.unusedSimpArgs false
set_option linter.unusedVariables false
/- MonoValues: the law's walk. -/
namespace Go.Proofs.YtnmdfldgpbfbbaaDoor
open Go.Shelf Go.RowKit Go.Lib Go.Sort
set_option linter.unusedVariables false

theorem mvalues_any (f : Int) (s : List Mo) (v : Value) (V : Ev) (E : En) (w : World) (hT : Tab w) (hP : Pw w) (hR : MRw w v s) (hE : EnR w V E) :
    Calls Tryd.prog 3 #[.int .i64 f, v, evA V] w fun e w' => e = .returned (.bool true) ∧ On w w' := by
  obtain ⟨w1, hw1⟩ : ∃ w1, w1 = w.alloc (.cells #[V.v1, V.v2, V.v3, V.v4, V.v5, V.v6, V.v7] 25) := ⟨_, rfl⟩
  obtain ⟨Q, hQ⟩ : ∃ Q, Q = w.heap.size := ⟨_, rfl⟩
  have hO1 : On w w1 := by rw [hw1]; exact (On.refl hT).alloc _
  have hVB : VB Q w1 (evL V) := by rw [hw1]; exact vb_at w _ _ Q hQ
  have HO1 := Lib.hid hO1
  have HRw := Lib.hid (hR.on hO1)
  have HE := Lib.hid (hE.on hO1)
  have HP := Lib.hid (hP.on hO1)
  have HS := Lib.hid (smallw_any s v w1 hO1.tab HRw.out)
  have HW1 := Lib.hid hw1
  have HQ := Lib.hid hQ
  have HVB := Lib.hid hVB
  have HL := Lib.hid (live_any w1 hO1.tab HP.out)
  clear hT hP hR hE hw1 hQ hO1 hVB
  go_enter Tryd.func3, Tryd.ntmps3
  go_upto_region 1 with fail
  rw [← HQ.out, ← HW1.out]
  cases hs : smallB s
  · rw [hs] at HS
    go_wp2_with (first | (go_at_call 8; refine HS.out.mono ?_; rintro e w' ⟨rfl, rfl⟩) | (go_at_call 9; refine HL.out.mono ?_; rintro e w' ⟨rfl, hO2⟩))
    go_ret
    exact ⟨rfl, HO1.out.trans hO2⟩
  · rw [hs] at HS
    have HR := Lib.hid (HRw.out.short hs)
    clear HL HRw
    go_wp2_with (first | (go_at_call 8; refine HS.out.mono ?_; rintro e w' ⟨rfl, rfl⟩; refine Hid.out ?_))
    refine Lib.hid ?_
    clear HS
    have HV := Lib.hid (value_any f s v V E w1 HO1.out.tab HR.out HE.out)
    have c0 := HVB.out.2.1 0 _ rfl; have c1 := HVB.out.2.1 1 _ rfl; have c2 := HVB.out.2.1 2 _ rfl; have c3 := HVB.out.2.1 3 _ rfl; have c4 := HVB.out.2.1 4 _ rfl; have c5 := HVB.out.2.1 5 _ rfl; have c6 := HVB.out.2.1 6 _ rfl
    go_wp2_with (go_at_call 10; refine HV.out.mono ?_; rintro e w2 ⟨rfl, hO2⟩; have HO2 := Lib.hid hO2; clear hO2; refine Hid.out ?_)
    refine Lib.hid ?_
    clear c0 c1 c2 c3 c4 c5 c6 HV
    have HV := Lib.hid (rvalue_any f s v V E w2 HO2.out.tab (HR.out.on HO2.out) (HE.out.on HO2.out))
    have hb := HVB.out.on HO2.out
    have c0 := hb.2.1 0 _ rfl; have c1 := hb.2.1 1 _ rfl; have c2 := hb.2.1 2 _ rfl; have c3 := hb.2.1 3 _ rfl; have c4 := hb.2.1 4 _ rfl; have c5 := hb.2.1 5 _ rfl; have c6 := hb.2.1 6 _ rfl
    clear hb
    go_wp2_with (go_at_call 11; refine HV.out.mono ?_; rintro e w3 ⟨rfl, hO3⟩; have HO3 := Lib.hid (HO2.out.trans hO3); clear hO3; refine Hid.out ?_)
    refine Lib.hid ?_
    clear c0 c1 c2 c3 c4 c5 c6 HV
    have HD := Lib.hid (degree_any s v w3 HO3.out.tab (HR.out.on HO3.out))
    go_wp2_with (go_at_call 12; refine HD.out.mono ?_; rintro e w4 ⟨rfl, hO4⟩; have HO4 := Lib.hid (HO3.out.trans hO4); clear hO4; refine Hid.out ?_)
    refine Lib.hid ?_
    clear HD
    have HD := Lib.hid (rdegree_any s v w4 HO4.out.tab (HR.out.on HO4.out))
    go_wp2_with (go_at_call 13; refine HD.out.mono ?_; rintro e w5 ⟨rfl, rfl⟩; have HL := Lib.hid (live_any w4 HO4.out.tab (HP.out.on HO4.out)); refine Hid.out ?_)
    refine Lib.hid ?_
    go_wp2_with (go_at_call 9; refine HL.out.mono ?_; rintro e w' ⟨rfl, hO5⟩)
    go_ret
    exact ⟨rfl, (HO1.out.trans HO4.out).trans hO5⟩
end Go.Proofs.YtnmdfldgpbfbbaaDoor

/- MonoValues returns true, for every input; no conditions but the tied tables. -/
namespace Go.Proofs.YtnmdfldgpbfbbaaDoor.monoValues
open Go.ChangeShapes Go.WideShapes Go.ChangeAt Go.RowKit
set_option linter.unusedVariables false

theorem trodAll_three {H : Type} {enc : TypeId × Value → H} {P : Program} {w : World} {base : Nat} {spare : Nat → Bool} {held : Bool} {t0 t1 t2 : TypeId} {args : Array Value} {ds : List (DataW H)} {ps : List MemPlace} (h : DataW.TrodAll enc P w base spare held [t0, t1, t2] args.toList ds ps) :
    ∃ v0 v1 v2 d0 d1 d2 p0 p1 p2, args = #[v0, v1, v2] ∧ ds = [d0, d1, d2] ∧ ps = p0 ++ p1 ++ p2 ∧ DataW.Trod enc P w base spare held t0 v0 d0 p0 ∧ DataW.Trod enc P w base spare held t1 v1 d1 p1 ∧ DataW.Trod enc P w base spare held t2 v2 d2 p2 := by
  obtain ⟨v0, vs, d0, ds', p0, q, hargs, rfl, rfl, h0, h⟩ := trodAll_cons h
  obtain ⟨v1, vs, d1, ds', p1, q, rfl, rfl, rfl, h1, h⟩ := trodAll_cons h
  obtain ⟨v2, vs, d2, ds', p2, q, rfl, rfl, rfl, h2, h⟩ := trodAll_cons h
  obtain ⟨rfl, rfl, rfl⟩ := trodAll_nil h
  exact ⟨v0, v1, v2, d0, d1, d2, p0, p1, p2, by cases args; simp_all, rfl, by simp, h0, h1, h2⟩

set_option maxRecDepth 100000 in
theorem lifted (os : Os) (started : os.Started) (H : Type) (enc : TypeId × Value → H) :
    ReturnsInHanded {} Tryd.checked os 3 .any (fun w args => (Rows.monoValuesSpec.pre enc Tryd.prog Tryd.f3 Rows.monoValuesRow.domain false w args ∧ laidMetH Tryd.prog laidL w) ∧ sizedMet enc Tryd.prog Tryd.f3 (OpenSpec.ofChange Rows.monoValuesSpec) false w args)
      (Rows.monoValuesSpec.post enc Tryd.prog Tryd.f3 false true false false) := by
  refine returnsInHanded_of_change_and (C := Tryd.checked) (X := fun w _ => laidMetH Tryd.prog laidL w) (fun _ _ _ hh h => h.of_heap hh) own started (by kernel_rfl) Tryd.func3
    (ChangeSpec.witness_shaped (enc := enc) (C := Tryd.checked) (os := os) (X := fun w _ => laidMetH Tryd.prog laidL w) false (World.laidAll Tryd.prog os laidL) #[.int .i64 0, .slice none 0 0, .agg #[.slice none 0 0, .slice none 0 0, .slice none 0 0, .slice none 0 0, .slice none 0 0, .slice none 0 0, .slice none 0 0]] 8 (World.laidAll_os _ _ _)
      (World.shaped_of_ZipB (by kernel_rfl) (by kernel_rfl)) (by kernel_rfl) (by kernel_rfl) (by kernel_rfl)
      (by rw [MakeChecks.laidMetH_plain _ _ _ (by kernel_rfl)]; exact laidMet_laidAll _ (by kernel_rfl) (by kernel_rfl))) ?_
  intro W base args ds gs before hval0 hW hc _ hL _
  have hval : ∀ (j : Nat) t v, Tryd.f3.params[j]? = some t → args[j]? = some v → Value.okWide Tryd.prog W .any base t v := hval0
  have hW' := hW
  obtain ⟨p, q, hA0, hV, rfl, _, _⟩ := hW
  have hA : DataW.TrodAll enc Tryd.prog W 0 (fun _ => true) true Tryd.f3.params.toList args.toList ds p := hA0
  rw [Tryd.params3] at hA hval
  obtain ⟨v0, v1, v2, d0, d1, d2, p0, p1, p2, rfl, rfl, rfl, h0, h1, h2⟩ := trodAll_three hA
  obtain ⟨rfl, rfl⟩ := trodVars_none hV
  obtain ⟨x0, rfl, rfl, rfl, wx0⟩ := open_int Tryd.underlying3 (hval 0 3 v0 rfl rfl) h0
  have b0 := bounds_i64 wx0
  obtain ⟨s1, hM1⟩ := arg_sum (hval 1 22 v1 rfl rfl) h1
  obtain ⟨V2, E2, rfl, hE2⟩ := arg_env (hval 2 25 v2 rfl rfl) h2
  clear hA0 hval0
  simp only [List.append_nil] at hW'
  have hT := tab_of_laid hL
  have hP := pw_of_laid hL
  have fin : Calls Tryd.prog 3 #[.int .i64 x0, v1, evA V2] W fun e w' => e = .returned (.bool true) ∧ On W w' := by
    exact mvalues_any x0 s1 _ V2 E2 W hT hP hM1 hE2
  refine fin.mono fun e W' ⟨he, hg⟩ => ?_
  subst he
  exact ⟨_, rfl, law_ends hW' rfl rfl rfl (by kernel_rfl) hg.2⟩

theorem row_holds : Rows.MonoValuesSaid :=
  OpenClaim.holds_of_wide 3 Tryd.f3 rfl rfl rfl rfl rfl rfl rfl ⟨rfl, rfl, rfl, rfl, rfl⟩ rfl rfl rfl rfl rfl (by kernel_rfl) Tryd.func3 (by kernel_rfl)
    (of_decide_eq_true (by kernel_rfl)) (by unfold Func.isWrapper; first | (rw [if_pos (by decide +kernel)]; kernel_rfl) | (rw [if_neg (by decide +kernel)]; exact ⟨rfl, rfl⟩))
    (fun os started H enc _ => lifted os started H enc)
theorem card_holds : Rows.MonoValuesCardSaid :=
  Claim7.holds_tied_plain_at .later [] [.data, .data, .data, .data] true Rows.monoValuesCard.stood.harness false row_holds (fun _ h => by cases h) (by kernel_rfl) (fun _ h => by cases h) monoValues_row_tie rfl ⟨rfl, rfl⟩ (by kernel_rfl) rfl
    (fun f fn hf hfn => by
      obtain rfl : f = 3 := Option.some.inj ((show Tryd.prog.funcNamed "attestor/attestorlaw12.MonoValues" = some 3 by kernel_rfl).symm.trans hf) |>.symm
      obtain rfl : fn = Tryd.f3 := (Option.some.inj (Tryd.func3.symm.trans hfn)).symm
      exact ⟨by kernel_rfl, fun j t ht => by
        rw [Tryd.params3] at ht
        have hm : t ∈ [3, 22, 25] := by simpa using Array.mem_of_getElem? ht
        have hall : ([3, 22, 25].all fun u => !Tryd.prog.wantsStandIn u) = true := by kernel_rfl
        exact (show Tryd.prog.wantsStandIn t = false by simpa using List.all_eq_true.1 hall t hm)⟩)
    (by kernel_rfl)
#print axioms card_holds
end Go.Proofs.YtnmdfldgpbfbbaaDoor.monoValues
