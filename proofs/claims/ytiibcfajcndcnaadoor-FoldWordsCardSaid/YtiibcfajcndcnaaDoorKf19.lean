/- Arguments that are arrays of eight numbers: what comes in. -/
import Derived.Test.YtiibcfajcndcnaaDoorKf18
import Derived.Test.YtiibcfajcndcnaaDoorKf09
import Derived.Lib.SmallJoins
/- Arguments that are arrays of eight numbers: what comes in. -/
namespace Go.Proofs.YtiibcfajcndcnaaDoor
open Go.ChangeShapes Go.WideShapes Go.ChangeAt Go.RowKit Go.Joins
set_option linter.unusedVariables false

theorem okWide_arr8 {n : Nat} {e : TypeId} {W : World} {base : Nat} {t : TypeId} {v : Value} (ht : Tryd.prog.underlying t = some (.array n e)) (h : Value.okWide Tryd.prog W .any base t v) : ∃ cs, v = .agg cs ∧ cs.size = Tryd.prog.cellsOf t := by
  simp only [Value.okWide, ht] at h
  obtain ⟨cs, h1, h2, _⟩ := h
  exact ⟨cs, h1, h2⟩
theorem array8 {α : Type} {cs : Array α} (h : cs.size = 8) : ∃ c0 c1 c2 c3 c4 c5 c6 c7, cs = #[c0, c1, c2, c3, c4, c5, c6, c7] := by
  obtain ⟨l⟩ := cs
  match l, h with
  | [c0, c1, c2, c3, c4, c5, c6, c7], _ => exact ⟨c0, c1, c2, c3, c4, c5, c6, c7, rfl⟩
theorem cells8U : Tryd.prog.cellsOf 25 = 8 := by kernel_rfl
theorem open_num8 {H : Type} {enc : TypeId × Value → H} {W : World} {n : Nat} {c : Value} {y : Option (DataW H × List MemPlace)} (hy : y.isSome = true) (h : DataW.trod enc Tryd.prog W 0 (fun _ => true) true n 22 [c] = y) : ∃ m : Nat, c = .int .u64 (m : Int) ∧ m ≤ 18446744073709551615 := by
  obtain ⟨x, rfl⟩ := Option.isSome_iff_exists.1 hy
  obtain ⟨n0, e0, -, w0⟩ := DataW.trod_int Tryd.underlying22 h
  simp only [List.cons.injEq, and_true] at e0
  subst e0
  have b := bounds_u64 w0
  obtain ⟨s, rfl⟩ : ∃ s : Nat, n0 = s := ⟨n0.toNat, by omega⟩
  exact ⟨s, rfl, by omega⟩
set_option maxRecDepth 100000 in
theorem arg_arr8 {H : Type} {enc : TypeId × Value → H} {W : World} {base : Nat} {v : Value} {d : DataW H} {p : List MemPlace} (hv : Value.okWide Tryd.prog W .any base 25 v)
    (h : DataW.Trod enc Tryd.prog W 0 (fun _ => true) true 25 v d p) :
    ∃ l : List Nat, v = arrV l ∧ l.length = 8 ∧ ∀ x ∈ l, x ≤ 18446744073709551615 := by
  obtain ⟨cs, rfl, hsz⟩ := okWide_arr8 Tryd.underlying25 hv
  obtain ⟨c0, c1, c2, c3, c4, c5, c6, c7, rfl⟩ := array8 (hsz.trans cells8U)
  obtain ⟨fuel, hf⟩ := h
  obtain ⟨xs, m, _, _, _, hl, hel⟩ := DataW.trod_array Tryd.underlying25 hf
  rw [cellsU64] at hel
  have some_at : ∀ i, i < 8 → (xs[i]?).isSome = true := fun i hi => by rw [List.getElem?_eq_getElem (by omega)]; rfl
  obtain ⟨n0, rfl, hn0⟩ := open_num8 (some_at 0 (by omega)) (show DataW.trod enc Tryd.prog W 0 (fun _ => true) true m 22 [c0] = xs[0]? from hel 0 (by omega))
  obtain ⟨n1, rfl, hn1⟩ := open_num8 (some_at 1 (by omega)) (show DataW.trod enc Tryd.prog W 0 (fun _ => true) true m 22 [c1] = xs[1]? from hel 1 (by omega))
  obtain ⟨n2, rfl, hn2⟩ := open_num8 (some_at 2 (by omega)) (show DataW.trod enc Tryd.prog W 0 (fun _ => true) true m 22 [c2] = xs[2]? from hel 2 (by omega))
  obtain ⟨n3, rfl, hn3⟩ := open_num8 (some_at 3 (by omega)) (show DataW.trod enc Tryd.prog W 0 (fun _ => true) true m 22 [c3] = xs[3]? from hel 3 (by omega))
  obtain ⟨n4, rfl, hn4⟩ := open_num8 (some_at 4 (by omega)) (show DataW.trod enc Tryd.prog W 0 (fun _ => true) true m 22 [c4] = xs[4]? from hel 4 (by omega))
  obtain ⟨n5, rfl, hn5⟩ := open_num8 (some_at 5 (by omega)) (show DataW.trod enc Tryd.prog W 0 (fun _ => true) true m 22 [c5] = xs[5]? from hel 5 (by omega))
  obtain ⟨n6, rfl, hn6⟩ := open_num8 (some_at 6 (by omega)) (show DataW.trod enc Tryd.prog W 0 (fun _ => true) true m 22 [c6] = xs[6]? from hel 6 (by omega))
  obtain ⟨n7, rfl, hn7⟩ := open_num8 (some_at 7 (by omega)) (show DataW.trod enc Tryd.prog W 0 (fun _ => true) true m 22 [c7] = xs[7]? from hel 7 (by omega))
  refine ⟨[n0, n1, n2, n3, n4, n5, n6, n7], rfl, rfl, ?_⟩
  intro x hx
  simp only [List.mem_cons, List.not_mem_nil, or_false] at hx
  rcases hx with rfl | rfl | rfl | rfl | rfl | rfl | rfl | rfl <;> assumption
end Go.Proofs.YtiibcfajcndcnaaDoor
