/- RatioFractions returns true, for every input; no conditions. -/
import Derived.Test.YtdgmlmcllkgemaaKz23
import Derived.Test.YtdgmlmcllkgemaaKz24
import Derived.Test.YtdgmlmcllkgemaaKz22
set_option linter.unusedSimpArgs false
set_option linter.unusedVariables false
/- RatioFractions returns true, for every input; no conditions. -/
namespace Go.Proofs.Ytdgmlmcllkgemaa.ratioFractions
open Go.ChangeShapes Go.WideShapes Go.ChangeAt Go.RowKit
set_option linter.unusedVariables false

set_option maxRecDepth 100000 in
theorem lifted (os : Os) (started : os.Started) (H : Type) (enc : TypeId × Value → H) :
    ReturnsInHanded {} Try.checked os 5 .any (Rows.ratioFractionsSpec.pre6 enc Try.prog Try.f5 Rows.ratioFractionsRow.domain false) (Rows.ratioFractionsSpec.post enc Try.prog Try.f5 false true false false) := by
  refine returnsInHanded_of_change (C := Try.checked) own started (by kernel_rfl) Try.func5
    (ChangeSpec.witness6 (enc := enc) (C := Try.checked) false ⟨#[], #[Value.agg #[.slice none 0 0, .slice none 0 0], Value.agg #[.slice none 0 0, .slice none 0 0], Value.int .i64 0], []⟩ 8 (by kernel_rfl) (by kernel_rfl) (by kernel_rfl) (by kernel_rfl)) ?_
  intro W base args ds gs before hval0 hW hcnd _
  have hval : ∀ (j : Nat) t v, Try.f5.params[j]? = some t → args[j]? = some v → Value.okWide Try.prog W .any base t v := hval0
  have hW' := hW
  obtain ⟨p, q, hA0, hV, rfl, hfz, hnd⟩ := hW
  have hA : DataW.TrodAll enc Try.prog W 0 (fun _ => true) true Try.f5.params.toList args.toList ds p := hA0
  rw [Try.params5] at hA hval
  obtain ⟨v0, v1, v2, d0, d1, d2, p0, p1, p2, rfl, rfl, rfl, h0, h1, h2⟩ := trodAll_three hA
  obtain ⟨rfl, rfl⟩ := trodVars_none hV
  obtain ⟨va0, vb0, ma0, xa0, mb0, xb0, rfl, hva0, hvb0⟩ := arg_ratio (hval 0 41 v0 rfl rfl) h0
  obtain ⟨va1, vb1, ma1, xa1, mb1, xb1, rfl, hva1, hvb1⟩ := arg_ratio (hval 1 41 v1 rfl rfl) h1
  obtain ⟨x2, rfl, rfl, rfl, wx2⟩ := open_int Try.underlying3 (hval 2 3 v2 rfl rfl) h2
  have b2 := bounds_i64 wx2
  clear hA0 hval0
  simp only [List.append_nil] at hW'
  have fin : Calls Try.prog 5 #[.agg #[va0, vb0], .agg #[va1, vb1], .int .i64 x2] W fun e w' => e = .returned (.bool true) ∧ On W w' := by
    exact fractions_any va0 vb0 va1 vb1 ma0 xa0 mb0 xb0 ma1 xa1 mb1 xb1 x2 W hva0 hvb0 hva1 hvb1
  refine fin.mono fun e W' ⟨he, hg⟩ => ?_
  subst he
  exact ⟨_, rfl, law_ends hW' rfl rfl rfl (by kernel_rfl) hg⟩

theorem holds : Rows.RatioFractionsSaid :=
  OpenClaim.holds_of_wide 5 Try.f5 rfl rfl rfl rfl rfl rfl rfl ⟨rfl, rfl, rfl, rfl, rfl⟩ rfl rfl rfl rfl rfl (by kernel_rfl) Try.func5 (by kernel_rfl)
    (of_decide_eq_true (by kernel_rfl)) (by unfold Func.isWrapper; first | (rw [if_pos (by decide +kernel)]; kernel_rfl) | (rw [if_neg (by decide +kernel)]; exact ⟨rfl, rfl⟩))
    (fun os started H enc _ => lifted os started H enc)
#print axioms holds
end Go.Proofs.Ytdgmlmcllkgemaa.ratioFractions
