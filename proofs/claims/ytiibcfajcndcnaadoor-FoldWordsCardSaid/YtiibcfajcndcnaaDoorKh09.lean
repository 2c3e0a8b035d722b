/- A domain that comes in: its fields. -/
import Derived.Test.YtiibcfajcndcnaaDoorKf18
import Derived.Lib.SmallJoins
/- A domain that comes in: its fields. -/
namespace Go.Proofs.YtiibcfajcndcnaaDoor
open Go.ChangeShapes Go.WideShapes Go.ChangeAt Go.RowKit Go.Joins
set_option linter.unusedVariables false

theorem array3 {α : Type} {cs : Array α} (h : cs.size = 3) : ∃ c0 c1 c2, cs = #[c0, c1, c2] := by
  obtain ⟨l⟩ := cs
  match l, h with
  | [c0, c1, c2], _ => exact ⟨c0, c1, c2, rfl⟩
theorem cellsDomain : Tryd.prog.cellsOf 24 = 3 := by kernel_rfl
set_option maxRecDepth 100000 in
theorem arg_dom {H : Type} {enc : TypeId × Value → H} {W : World} {base : Nat} {v : Value} {d : DataW H} {p : List MemPlace} (hv : Value.okWide Tryd.prog W .any base 24 v)
    (h : DataW.Trod enc Tryd.prog W 0 (fun _ => true) true 24 v d p) :
    ∃ (f k : Int) (s : Nat), v = .agg #[.int .i64 f, .int .i64 k, .int .u64 (s : Int)] ∧ (-9223372036854775808 ≤ k ∧ k ≤ 9223372036854775807) ∧ s ≤ 18446744073709551615 := by
  obtain ⟨cs, rfl, hsz⟩ := okWide_struct Tryd.underlying24 hv
  obtain ⟨c0, c1, c2, rfl⟩ := array3 (hsz.trans cellsDomain)
  obtain ⟨fuel, hf⟩ := h
  obtain ⟨xs, n, _, _, hl, hn, hf⟩ := DataW.trod_struct Tryd.underlying24 hf
  have f0 := hf 0 _ rfl
  have f1 := hf 1 _ rfl
  have f2 := hf 2 _ rfl
  match xs, hn, f0, f1, f2 with
  | [x0, x1, x2], _, f0, f1, f2 =>
    simp only [Value.cells, cellsInt, cellsU64] at f0 f1 f2
    obtain ⟨n0, e0, -, w0⟩ := DataW.trod_int Tryd.underlying3 (show DataW.trod enc Tryd.prog W 0 (fun _ => true) true n 3 [c0] = some x0 from f0)
    obtain ⟨n1, e1, -, w1⟩ := DataW.trod_int Tryd.underlying3 (show DataW.trod enc Tryd.prog W 0 (fun _ => true) true n 3 [c1] = some x1 from f1)
    obtain ⟨n2, e2, -, w2⟩ := DataW.trod_int Tryd.underlying22 (show DataW.trod enc Tryd.prog W 0 (fun _ => true) true n 22 [c2] = some x2 from f2)
    simp only [List.cons.injEq, and_true] at e0 e1 e2
    subst e0 e1 e2
    have b1 := bounds_i64 w1
    have b2 := bounds_u64 w2
    obtain ⟨s, rfl⟩ : ∃ s : Nat, n2 = s := ⟨n2.toNat, by omega⟩
    exact ⟨n0, n1, s, rfl, by omega, by omega⟩
end Go.Proofs.YtiibcfajcndcnaaDoor
