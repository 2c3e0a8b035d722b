/- An argument that is an array of two numbers. -/
import Derived.Test.YthepmahjpejmdaaDoorKu30
set_option linter.unusedSimpArgs false
set_option linter.unusedVariables false
/- An argument that is an array of two numbers. -/
namespace Go.Proofs.YthepmahjpejmdaaDoor
open Go.RowKit
set_option linter.unusedVariables false
theorem cellsU2 : Tryd.prog.cellsOf 35 = 2 := by kernel_rfl
set_option maxRecDepth 100000 in
theorem arg_u2 {H : Type} {enc : TypeId × Value → H} {W : World} {base : Nat} {v : Value} {d : DataW H} {p : List MemPlace} (hv : Value.okWide Tryd.prog W .any base 35 v)
    (h : DataW.Trod enc Tryd.prog W 0 (fun _ => true) true 35 v d p) :
    ∃ a b : Nat, v = .agg #[.int .u64 (a : Int), .int .u64 (b : Int)] ∧ a ≤ 18446744073709551615 ∧ b ≤ 18446744073709551615 := by
  obtain ⟨cs, rfl, hsz⟩ := okWide_arr Tryd.underlying35 hv
  obtain ⟨c0, c1, rfl⟩ := array2 (hsz.trans cellsU2)
  obtain ⟨fuel, hf⟩ := h
  obtain ⟨xs, m, _, _, _, hl, hel⟩ := DataW.trod_array Tryd.underlying35 hf
  rw [cellsU64] at hel
  have some_at : ∀ i, i < 2 → (xs[i]?).isSome = true := fun i hi => by rw [List.getElem?_eq_getElem (by omega)]; rfl
  obtain ⟨a, rfl, ha⟩ := open_num (some_at 0 (by omega)) (show DataW.trod enc Tryd.prog W 0 (fun _ => true) true m 34 [c0] = xs[0]? from hel 0 (by omega))
  obtain ⟨b, rfl, hb⟩ := open_num (some_at 1 (by omega)) (show DataW.trod enc Tryd.prog W 0 (fun _ => true) true m 34 [c1] = xs[1]? from hel 1 (by omega))
  exact ⟨a, b, rfl, ha, hb⟩
end Go.Proofs.YthepmahjpejmdaaDoor
