/- An argument that is an array of four numbers: what comes in. -/
import Derived.Test.YthgidehapcfciaaDoorKx28
import Derived.Lib.SmallJoins
set_option linter.unusedSimpArgs false
set_option linter.unusedVariables false
/- An argument that is an array of four numbers: what comes in. -/
namespace Go.Proofs.YthgidehapcfciaaDoor
open Go.ChangeShapes Go.WideShapes Go.ChangeAt Go.RowKit Go.Joins
set_option linter.unusedVariables false
set_option maxRecDepth 100000

theorem okWide_arr4 {n : Nat} {e : TypeId} {W : World} {base : Nat} {t : TypeId} {v : Value} (ht : Tryd.prog.underlying t = some (.array n e)) (h : Value.okWide Tryd.prog W .any base t v) : ∃ cs, v = .agg cs ∧ cs.size = Tryd.prog.cellsOf t := by
  simp only [Value.okWide, ht] at h
  obtain ⟨cs, h1, h2, _⟩ := h
  exact ⟨cs, h1, h2⟩
theorem array4 {α : Type} {cs : Array α} (h : cs.size = 4) : ∃ c0 c1 c2 c3, cs = #[c0, c1, c2, c3] := by
  obtain ⟨l⟩ := cs
  match l, h with
  | [c0, c1, c2, c3], _ => exact ⟨c0, c1, c2, c3, rfl⟩
theorem cells4I : Tryd.prog.cellsOf 22 = 4 := by kernel_rfl
theorem cellsInt1 : Tryd.prog.cellsOf 3 = 1 := by kernel_rfl
theorem open_int4 {H : Type} {enc : TypeId × Value → H} {W : World} {n : Nat} {c : Value} {y : Option (DataW H × List MemPlace)} (hy : y.isSome = true) (h : DataW.trod enc Tryd.prog W 0 (fun _ => true) true n 3 [c] = y) : ∃ m : Int, c = .int .i64 m := by
  obtain ⟨x, rfl⟩ := Option.isSome_iff_exists.1 hy
  obtain ⟨n0, e0, -, w0⟩ := DataW.trod_int Tryd.underlying3 h
  simp only [List.cons.injEq, and_true] at e0
  subst e0
  exact ⟨n0, rfl⟩
theorem arg_arr4 {H : Type} {enc : TypeId × Value → H} {W : World} {base : Nat} {v : Value} {d : DataW H} {p : List MemPlace} (hv : Value.okWide Tryd.prog W .any base 22 v)
    (h : DataW.Trod enc Tryd.prog W 0 (fun _ => true) true 22 v d p) :
    ∃ x0 x1 x2 x3 : Int, v = .agg #[.int .i64 x0, .int .i64 x1, .int .i64 x2, .int .i64 x3] := by
  obtain ⟨cs, rfl, hsz⟩ := okWide_arr4 Tryd.underlying22 hv
  obtain ⟨c0, c1, c2, c3, rfl⟩ := array4 (hsz.trans cells4I)
  obtain ⟨fuel, hf⟩ := h
  obtain ⟨xs, m, _, _, _, hl, hel⟩ := DataW.trod_array Tryd.underlying22 hf
  rw [cellsInt1] at hel
  have some_at : ∀ i, i < 4 → (xs[i]?).isSome = true := fun i hi => by rw [List.getElem?_eq_getElem (by omega)]; rfl
  obtain ⟨n0, rfl⟩ := open_int4 (some_at 0 (by omega)) (show DataW.trod enc Tryd.prog W 0 (fun _ => true) true m 3 [c0] = xs[0]? from hel 0 (by omega))
  obtain ⟨n1, rfl⟩ := open_int4 (some_at 1 (by omega)) (show DataW.trod enc Tryd.prog W 0 (fun _ => true) true m 3 [c1] = xs[1]? from hel 1 (by omega))
  obtain ⟨n2, rfl⟩ := open_int4 (some_at 2 (by omega)) (show DataW.trod enc Tryd.prog W 0 (fun _ => true) true m 3 [c2] = xs[2]? from hel 2 (by omega))
  obtain ⟨n3, rfl⟩ := open_int4 (some_at 3 (by omega)) (show DataW.trod enc Tryd.prog W 0 (fun _ => true) true m 3 [c3] = xs[3]? from hel 3 (by omega))
  exact ⟨n0, n1, n2, n3, rfl⟩
end Go.Proofs.YthgidehapcfciaaDoor
