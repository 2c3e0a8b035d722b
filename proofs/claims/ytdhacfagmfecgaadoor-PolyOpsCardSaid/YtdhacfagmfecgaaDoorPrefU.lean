/- The document's own answers for polynomials: Sub, Shift, Degree: what each call returns. -/
import Derived.Test.YtdhacfagmfecgaaDoorPsam
namespace Go.Proofs.YtdhacfagmfecgaaDoor
open Go.RowKit
set_option linter.unusedVariables false

theorem scaleF_len2 (f : Int) (l : List Nat) (s : Nat) : (scaleF f l s).length ≤ l.length := by
  unfold scaleF; have := normF_len f (l.map fun x => mulF f x s); simpa using this
theorem sub_neg (f : Int) (l m : List Nat) : addL f l (scaleF f m (subF f 0 1)) = subL f l m := by
  rcases Nat.eq_zero_or_pos (pOf f) with hp | hp
  · unfold addL subL; rw [normF_none _ _ hp, normF_none _ _ hp]
  · refine norm_ext (by unfold addL; exact normF_norm _ _) (by unfold subL; exact normF_norm _ _) fun i => ?_
    rw [addL_getD, subL_getD]
    unfold scaleF
    rw [normF_getD]
    have e : (m.map fun x => mulF f x (subF f 0 1)).getD i 0 = mulF f (m.getD i 0) (subF f 0 1) := getD_map0 m (fun x => mulF f x (subF f 0 1)) (by show mulF f 0 _ = 0; rw [mulF_pos _ _ _ hp, Nat.zero_mul, Nat.zero_mod]) i
    rw [e, redF_pos _ _ hp, addF_modR, mulF_pos _ _ _ hp, addF_modR, addF_pos _ _ _ hp, Nat.add_comm, root_coef hp]
    rw [mulF_pos _ _ _ hp, Nat.one_mul, subF_modR]
theorem rsubp_any (f : Int) (l m : List Nat) (v v' : Value) (w : World) (hT : Tab w) (hR : Reads w v l) (hR' : Reads w v' m) (hl : l.length ≤ 1000) (hm : m.length ≤ 1000) :
    Calls Tryd.prog 14 #[.int .i64 f, v, v'] w fun e w' => (∃ u, e = .returned u ∧ Ow w.heap.size w' u (subL f l m)) ∧ On w w' := by
  have hsb := subF_le f 0 1
  have HR := Lib.hid hR; have HR' := Lib.hid hR'
  have HSN := Lib.hid (sub_neg f l m)
  have HSL := Lib.hid (scaleF_len2 f m (subF f 0 1))
  have HT := Lib.hid hT
  clear hR hR' hT
  go_enter Tryd.func14, Tryd.ntmps14
  go_wp2_with fail
  refine (rneg_any f 1 w (by omega)).mono ?_
  rintro e w' ⟨rfl, q, rfl⟩
  go_wp2_with fail
  refine (rscale_any f m (subF f 0 1) v' (w.drewN q) (HT.out.drewN q) (HR'.out.drewN q) hm (by omega)).mono ?_
  rintro e w2 ⟨⟨u, rfl, hu⟩, hO1⟩
  have HO := Lib.hid (((On.refl HT.out).drewN q).trans hO1); have HU := Lib.hid hu
  clear hu hO1
  go_wp2_with fail
  refine (raddp_any f l (scaleF f m (subF f 0 1)) v u w2 HO.out.tab (HR.out.on HO.out) (HU.out.reads (by unfold scaleF; exact normF_bd)) hl (by have := HSL.out; omega)).mono ?_
  rintro e w3 ⟨⟨u2, rfl, hu⟩, hO1⟩
  rw [HSN.out] at hu
  have HU2 := Lib.hid (hu.mono HO.out.size); have HO2 := Lib.hid (HO.out.trans hO1)
  clear hu hO1
  go_wp2
  go_ret
  exact ⟨⟨_, rfl, HU2.out⟩, HO2.out⟩
end Go.Proofs.YtdhacfagmfecgaaDoor
