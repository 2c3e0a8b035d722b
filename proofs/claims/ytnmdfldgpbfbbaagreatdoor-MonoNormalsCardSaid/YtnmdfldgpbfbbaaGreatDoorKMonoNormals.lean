/- MonoNormals: the law's walk. -/
import Derived.Test.YtnmdfldgpbfbbaaGreatDoorKzm24
import Derived.Test.YtnmdfldgpbfbbaaGreatDoorKzm28
import Derived.Test.YtnmdfldgpbfbbaaGreatDoorKzm23
import Derived.Test.YtnmdfldgpbfbbaaGreatDoorKzm30
set_option linter.unusedSimpArgs false
set_option linter.unusedVariables false
/- MonoNormals: the law's walk. -/
namespace Go.Proofs.YtnmdfldgpbfbbaaGreatDoor
open Go.Shelf Go.RowKit Go.Lib Go.Sort
set_option linter.unusedVariables false

set_option maxRecDepth 100000 in
set_option maxHeartbeats 2000000 in
theorem mnormals_any (f : Int) (a b : List Mo) (va vb : Value) (w : World) (hT : Tab w) (hP : Pw w) (hA : MRw w va a) (hB : MRw w vb b) :
    Calls Tryz.prog 3 #[.int .i64 f, va, vb] w fun e w' => e = .returned (.bool true) ∧ On w w' := by
  have HRA := Lib.hid hA
  have HRB := Lib.hid hB
  have HP := Lib.hid hP
  have HSA := Lib.hid (smallw_any a _ w hT HRA.out)
  have HSB := Lib.hid (smallw_any b vb w hT HRB.out)
  have HL := Lib.hid (live_any w hT HP.out)
  have HT1 := Lib.hid hT
  clear hT hP hA hB
  go_enter Tryz.func3, Tryz.ntmps3
  go_upto_region 1 with fail
  cases hsa : smallB a
  · rw [hsa] at HSA
    clear HSB
    go_wp2_with (first | (go_at_call 4; refine HSA.out.mono ?_; rintro e w' ⟨rfl, rfl⟩) | (go_at_call 5; refine HL.out.mono ?_; rintro e w' ⟨rfl, hO2⟩))
    go_ret
    exact ⟨rfl, hO2⟩
  rw [hsa] at HSA
  go_wp2_with (go_at_call 4; refine HSA.out.mono ?_; rintro e w' ⟨rfl, rfl⟩; refine Hid.out ?_)
  refine Lib.hid ?_
  cases hsb : smallB b
  · rw [hsb] at HSB
    go_wp2_with (first | (go_at_call 4; refine HSB.out.mono ?_; rintro e w' ⟨rfl, rfl⟩) | (go_at_call 5; refine HL.out.mono ?_; rintro e w' ⟨rfl, hO2⟩))
    go_ret
    exact ⟨rfl, hO2⟩
  rw [hsb] at HSB
  have HA := Lib.hid (HRA.out.short hsa)
  have HB := Lib.hid (HRB.out.short hsb)
  have HLA := Lib.hid (small_long hsa)
  clear HL HRA HRB hsa hsb
  go_wp2_with (go_at_call 4; refine HSB.out.mono ?_; rintro e w' ⟨rfl, rfl⟩; refine Hid.out ?_)
  refine Lib.hid ?_
  clear HSA HSB
  have HN := Lib.hid (normF_any f a va w HT1.out HP.out HA.out (by have := HLA.out.1; omega) (fun m hm => by have := HLA.out.2 m hm; omega))
  go_wp2_with (go_at_call 6; refine HN.out.mono ?_; rintro e w1 ⟨⟨u1, rfl, hM⟩, hO1⟩; have HO1 := Lib.hid hO1; have HM1 := Lib.hid hM; clear hM hO1; refine Hid.out ?_)
  refine Lib.hid ?_
  clear HN
  have HN := Lib.hid (rnormalF_any f a va w1 HO1.out.tab (HA.out.on HO1.out) (by have := HLA.out.1; omega) (fun m hm => by have := HLA.out.2 m hm; omega))
  go_wp2_with (go_at_call 7; refine HN.out.mono ?_; rintro e w2 ⟨⟨u2, rfl, hM⟩, hO2⟩; have HM1' := Lib.hid (HM1.out.on hO2); have HO2 := Lib.hid (HO1.out.trans hO2); have HM2 := Lib.hid hM; clear hM hO2 HM1 HO1; refine Hid.out ?_)
  refine Lib.hid ?_
  clear HN
  have HS1 := Lib.hid (rsame_any _ _ u1 u2 w2 HM1'.out HM2.out)
  rw [decide_eq_true rfl] at HS1
  obtain ⟨fe, hfe⟩ : ∃ fe, fe = nfE f := ⟨_, rfl⟩
  rw [← hfe]
  clear hfe
  go_wp2_with (go_at_call 8; refine HS1.out.mono ?_; rintro e w3 ⟨rfl, hd⟩; have HO3 := Lib.hid (HO2.out.drawn hd); clear hd HM1' HM2 HO2; refine Hid.out ?_)
  refine Lib.hid ?_
  clear HS1
  have HS1 := Lib.hid (msame_any a b va vb w3 HO3.out.tab (HA.out.on HO3.out) (HB.out.on HO3.out))
  have HS2 := Lib.hid (fun (wx : World) (h : On w wx) => rsame_any a b va vb wx (HA.out.on h) (HB.out.on h))
  generalize decide (a = b) = d at HS1 HS2
  go_wp2_with (go_at_call 9; refine HS1.out.mono ?_; rintro e w4 ⟨rfl, hO4⟩; have HO4 := Lib.hid (HO3.out.trans hO4); clear hO4 HO3; refine Hid.out ?_)
  refine Lib.hid ?_
  clear HS1
  have hdd : (d == d) = true := by simp
  go_wp2_with (go_at_call 8; refine (HS2.out _ HO4.out).mono ?_; rintro e w5 ⟨rfl, hd⟩; have HO5 := Lib.hid (HO4.out.drawn hd); clear hd HO4; refine Hid.out ?_)
  refine Lib.hid ?_
  clear HS2
  have HS1 := Lib.hid (msame_any a a va va w5 HO5.out.tab (HA.out.on HO5.out) (HA.out.on HO5.out))
  rw [decide_eq_true rfl] at HS1
  go_wp2_with (go_at_call 9; refine HS1.out.mono ?_; rintro e w6 ⟨rfl, hO6⟩; have HO6 := Lib.hid (HO5.out.trans hO6); clear hO6 HO5; refine Hid.out ?_)
  refine Lib.hid ?_
  clear HS1
  have HX := Lib.hid (text_any a va w6 HO6.out.tab (HP.out.on HO6.out) (HA.out.on HO6.out) HLA.out.1 HLA.out.2)
  have HX2 := Lib.hid (fun (wx : World) (h : On w wx) => rtext_any a va wx h.tab (HA.out.on h) HLA.out.1 HLA.out.2)
  generalize (txtB a).toArray = tx at HX HX2
  go_wp2_with (go_at_call 10; refine HX.out.mono ?_; rintro e w7 ⟨rfl, hO7⟩; have HO7 := Lib.hid (HO6.out.trans hO7); clear hO7 HO6; refine Hid.out ?_)
  refine Lib.hid ?_
  clear HX
  go_wp2_with (go_at_call 11; refine (HX2.out _ HO7.out).mono ?_; rintro e w8 ⟨rfl, hO8⟩; have HO8 := Lib.hid (HO7.out.trans hO8); have HL := Lib.hid (live_any w8 HO8.out.tab (HP.out.on HO8.out)); clear hO8 HO7; refine Hid.out ?_)
  refine Lib.hid ?_
  clear HX2
  go_wp2_with (go_at_call 5; refine HL.out.mono ?_; rintro e w' ⟨rfl, hOl⟩)
  go_ret
  exact ⟨rfl, HO8.out.trans hOl⟩
end Go.Proofs.YtnmdfldgpbfbbaaGreatDoor

/- MonoNormals returns true, for every input; no conditions but the tied tables. -/
namespace Go.Proofs.YtnmdfldgpbfbbaaGreatDoor.monoNormals
open Go.ChangeShapes Go.WideShapes Go.ChangeAt Go.RowKit
set_option linter.unusedVariables false

theorem trodAll_three {H : Type} {enc : TypeId × Value → H} {P : Program} {w : World} {base : Nat} {spare : Nat → Bool} {held : Bool} {t0 t1 t2 : TypeId} {args : Array Value} {ds : List (DataW H)} {ps : List MemPlace} (h : DataW.TrodAll enc P w base spare held [t0, t1, t2] args.toList ds ps) :
    ∃ v0 v1 v2 d0 d1 d2 p0 p1 p2, args = #[v0, v1, v2] ∧ ds = [d0, d1, d2] ∧ ps = p0 ++ p1 ++ p2 ∧ DataW.Trod enc P w base spare held t0 v0 d0 p0 ∧ DataW.Trod enc P w base spare held t1 v1 d1 p1 ∧ DataW.Trod enc P w base spare held t2 v2 d2 p2 := by
  obtain ⟨v0, vs, d0, ds', p0, q, hargs, rfl, rfl, h0, h⟩ := trodAll_cons h
  obtain ⟨v1, vs, d1, ds', p1, q, rfl, rfl, rfl, h1, h⟩ := trodAll_cons h
  obtain ⟨v2, vs, d2, ds', p2, q, rfl, rfl, rfl, h2, h⟩ := trodAll_cons h
  obtain ⟨rfl, rfl, rfl⟩ := trodAll_nil h
  exact ⟨v0, v1, v2, d0, d1, d2, p0, p1, p2, by cases args; simp_all, rfl, by simp, h0, h1, h2⟩

set_option maxRecDepth 100000 in
theorem lifted (os : Os) (started : os.Started) (H : Type) (enc : TypeId × Value → H) :
    ReturnsInHanded {} Tryz.checked os 3 .any (fun w args => (Rows.monoNormalsSpec.pre enc Tryz.prog Tryz.f3 Rows.monoNormalsRow.domain false w args ∧ laidMetH Tryz.prog laidL w) ∧ sizedMet enc Tryz.prog Tryz.f3 (OpenSpec.ofChange Rows.monoNormalsSpec) false w args)
      (Rows.monoNormalsSpec.post enc Tryz.prog Tryz.f3 false true false false) := by
  refine returnsInHanded_of_change_and (C := Tryz.checked) (X := fun w _ => laidMetH Tryz.prog laidL w) (fun _ _ _ hh h => h.of_heap hh) own started (by kernel_rfl) Tryz.func3
    (ChangeSpec.witness_shaped (enc := enc) (C := Tryz.checked) (os := os) (X := fun w _ => laidMetH Tryz.prog laidL w) false (World.laidAll Tryz.prog os laidL) #[.int .i64 0, .slice none 0 0, .slice none 0 0] 8 (World.laidAll_os _ _ _)
      (World.shaped_of_ZipB (by kernel_rfl) (by kernel_rfl)) (by kernel_rfl) (by kernel_rfl) (by kernel_rfl)
      (by rw [MakeChecks.laidMetH_plain _ _ _ (by kernel_rfl)]; exact laidMet_laidAll _ (by kernel_rfl) (by kernel_rfl))) ?_
  intro W base args ds gs before hval0 hW hc _ hL _
  have hval : ∀ (j : Nat) t v, Tryz.f3.params[j]? = some t → args[j]? = some v → Value.okWide Tryz.prog W .any base t v := hval0
  have hW' := hW
  obtain ⟨p, q, hA0, hV, rfl, _, _⟩ := hW
  have hA : DataW.TrodAll enc Tryz.prog W 0 (fun _ => true) true Tryz.f3.params.toList args.toList ds p := hA0
  rw [Tryz.params3] at hA hval
  obtain ⟨v0, v1, v2, d0, d1, d2, p0, p1, p2, rfl, rfl, rfl, h0, h1, h2⟩ := trodAll_three hA
  obtain ⟨rfl, rfl⟩ := trodVars_none hV
  obtain ⟨x0, rfl, rfl, rfl, wx0⟩ := open_int Tryz.underlying3 (hval 0 3 v0 rfl rfl) h0
  have b0 := bounds_i64 wx0
  obtain ⟨s1, hM1⟩ := arg_sum (hval 1 22 v1 rfl rfl) h1
  obtain ⟨s2, hM2⟩ := arg_sum (hval 2 22 v2 rfl rfl) h2
  clear hA0 hval0
  simp only [List.append_nil] at hW'
  have hT := tab_of_laid hL
  have hP := pw_of_laid hL
  have fin : Calls Tryz.prog 3 #[.int .i64 x0, v1, v2] W fun e w' => e = .returned (.bool true) ∧ On W w' := by
    exact mnormals_any x0 s1 s2 _ _ W hT hP hM1 hM2
  refine fin.mono fun e W' ⟨he, hg⟩ => ?_
  subst he
  exact ⟨_, rfl, law_ends hW' rfl rfl rfl (by kernel_rfl) hg.2⟩

theorem row_holds : Rows.MonoNormalsSaid :=
  OpenClaim.holds_of_wide 3 Tryz.f3 rfl rfl rfl rfl rfl rfl rfl ⟨rfl, rfl, rfl, rfl, rfl⟩ rfl rfl rfl rfl rfl (by kernel_rfl) Tryz.func3 (by kernel_rfl)
    (of_decide_eq_true (by kernel_rfl)) (by unfold Func.isWrapper; first | (rw [if_pos (by decide +kernel)]; kernel_rfl) | (rw [if_neg (by decide +kernel)]; exact ⟨rfl, rfl⟩))
    (fun os started H enc _ => lifted os started H enc)
theorem card_holds : Rows.MonoNormalsCardSaid :=
  Claim7.holds_tied_plain_at .later [] [.data, .data, .data, .data] true Rows.monoNormalsCard.stood.harness false row_holds (fun _ h => by cases h) (by kernel_rfl) (fun _ h => by cases h) monoNormals_row_tie rfl ⟨rfl, rfl⟩ (by kernel_rfl) rfl
    (fun f fn hf hfn => by
      obtain rfl : f = 3 := Option.some.inj ((show Tryz.prog.funcNamed "attestor/attestorlaw12.MonoNormals" = some 3 by kernel_rfl).symm.trans hf) |>.symm
      obtain rfl : fn = Tryz.f3 := (Option.some.inj (Tryz.func3.symm.trans hfn)).symm
      exact ⟨by kernel_rfl, fun j t ht => by
        rw [Tryz.params3] at ht
        have hm : t ∈ [3, 22, 22] := by simpa using Array.mem_of_getElem? ht
        have hall : ([3, 22, 22].all fun u => !Tryz.prog.wantsStandIn u) = true := by kernel_rfl
        exact (show Tryz.prog.wantsStandIn t = false by simpa using List.all_eq_true.1 hall t hm)⟩)
    (by kernel_rfl)
#print axioms card_holds
end Go.Proofs.YtnmdfldgpbfbbaaGreatDoor.monoNormals
