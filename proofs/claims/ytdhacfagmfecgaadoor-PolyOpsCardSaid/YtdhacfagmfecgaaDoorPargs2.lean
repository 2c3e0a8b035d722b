/- The struct of PolyOps that comes in: its fields, and how its lists read. -/
import Derived.Test.YtdhacfagmfecgaaDoorPargs
import Derived.Lib.SmallJoins
namespace Go.Proofs.YtdhacfagmfecgaaDoor
open Go.ChangeShapes Go.WideShapes Go.ChangeAt Go.RowKit Go.Joins
set_option linter.unusedVariables false

theorem arg_list3 {H : Type} {enc : TypeId × Value → H} {W : World} {v : Value} {d : DataW H} {p : List MemPlace} (hv : ∃ a l c, v = .slice a l c)
    (h : DataW.Trod enc Tryd.prog W 0 (fun _ => true) true 22 v d p) : ∃ l, Reads W v l ∧ Shape v l := by
  obtain ⟨a0, len, cap, rfl⟩ := hv
  obtain ⟨fuel, hf⟩ := h
  rcases open_ints Tryd.underlying22 Tryd.underlying23 cellsU64 hf with ⟨hcs, hx⟩ | ⟨a, len', cap', zs, hcs, _, hl, hm, hz, hx, hcell, hwz⟩
  · simp [Value.cells] at hcs
    obtain ⟨rfl, rfl, rfl⟩ := hcs
    exact ⟨[], ⟨by simp, by simp, .inl ⟨rfl, none, 0, rfl⟩⟩, none, 0, rfl, by simp, by omega, fun _ => rfl⟩
  · simp [Value.cells] at hcs
    obtain ⟨rfl, rfl, rfl⟩ := hcs
    simp only [if_true] at hz
    unfold maxLen at hm
    have hlen : ((zs.take len).map Int.toNat).length = len := by simp; omega
    have hget : ∀ i, i < len → (((((zs.take len).map Int.toNat).getD i 0 : Nat)) : Int) = zs.getD i 0 := by
      intro i hi
      have hmem : zs.getD i 0 ∈ zs := by
        rw [List.getD_eq_getElem?_getD, List.getElem?_eq_getElem (by omega)]; exact List.getElem_mem _
      have hw := (bounds_u64 (hwz _ hmem)).1
      rw [List.getD_eq_getElem?_getD, List.getElem?_map, List.getElem?_take, if_pos hi, List.getElem?_eq_getElem (show i < zs.length by omega)]
      rw [List.getD_eq_getElem?_getD, List.getElem?_eq_getElem (show i < zs.length by omega)] at hw ⊢
      simp only [Option.map_some, Option.getD_some] at hw ⊢
      exact Int.toNat_of_nonneg hw
    refine ⟨(zs.take len).map Int.toNat, ⟨fun x hx => ?_, by rw [hlen]; omega, ?_⟩, some a, cap, by rw [hlen], by rw [hlen]; exact hl, hm, fun h => by simp at h⟩
    · obtain ⟨z, hz1, rfl⟩ := List.mem_map.1 hx
      have := bounds_u64 (hwz z (List.mem_of_mem_take hz1))
      omega
    · by_cases h0 : len = 0
      · subst h0; exact .inl ⟨by simp, some a, cap, rfl⟩
      · obtain ⟨b, off, spot⟩ := a
        have hspot : spot = none := by simpa [Addr.add] using World.cell?_spot (hcell 0 (by omega))
        subst hspot
        refine .inr ⟨b, off, cap, by rw [hlen], fun i hi => ?_⟩
        rw [hlen] at hi
        have h1 := hcell i (by omega)
        rw [← hget i hi] at h1
        rw [add_plain] at h1; exact h1

theorem array5 {α : Type} {cs : Array α} (h : cs.size = 5) : ∃ c0 c1 c2 c3 c4, cs = #[c0, c1, c2, c3, c4] := by
  obtain ⟨l⟩ := cs
  match l, h with
  | [c0, c1, c2, c3, c4], _ => exact ⟨c0, c1, c2, c3, c4, rfl⟩
theorem cellsArgs : Tryd.prog.cellsOf 25 = 5 := by kernel_rfl
theorem cellsList : Tryd.prog.cellsOf 22 = 1 := by kernel_rfl
theorem list_of {H : Type} {enc : TypeId × Value → H} {W : World} {v : Value} {n : Nat} {y : DataW H × List MemPlace} (h : DataW.trod enc Tryd.prog W 0 (fun _ => true) true n 22 [v] = some y) : ∃ l, Reads W v l ∧ Shape v l := by
  obtain ⟨a, l, c, e⟩ := slice_form Tryd.underlying22 h
  simp only [List.cons.injEq, and_true] at e
  subst e
  exact arg_list3 ⟨_, _, _, rfl⟩ (d := y.1) (p := y.2) ⟨n, by simpa [Value.cells] using h⟩
theorem args_open {H : Type} {enc : TypeId × Value → H} {W : World} {base : Nat} {v : Value} {d : DataW H} {p : List MemPlace} (hv : Value.okWide Tryd.prog W .any base 25 v)
    (h : DataW.Trod enc Tryd.prog W 0 (fun _ => true) true 25 v d p) :
    ∃ (f : Int) (s x : Nat) (va vb : Value) (la lb : List Nat), v = .agg #[.int .i64 f, va, vb, .int .u64 (s : Int), .int .u64 (x : Int)] ∧ s ≤ 18446744073709551615 ∧ x ≤ 18446744073709551615 ∧ Reads W va la ∧ Shape va la ∧ Reads W vb lb ∧ Shape vb lb := by
  obtain ⟨cs, rfl, hsz⟩ := okWide_struct Tryd.underlying25 hv
  obtain ⟨c0, c1, c2, c3, c4, rfl⟩ := array5 (hsz.trans cellsArgs)
  obtain ⟨fuel, hf⟩ := h
  obtain ⟨xs, n, _, _, hl, hn, hf⟩ := DataW.trod_struct Tryd.underlying25 hf
  have f0 := hf 0 _ rfl
  have f1 := hf 1 _ rfl
  have f2 := hf 2 _ rfl
  have f3 := hf 3 _ rfl
  have f4 := hf 4 _ rfl
  match xs, hn, f0, f1, f2, f3, f4 with
  | [x0, x1, x2, x3, x4], _, f0, f1, f2, f3, f4 =>
    simp only [Value.cells, cellsInt, cellsU64, cellsList] at f0 f1 f2 f3 f4
    obtain ⟨n0, e0, -, w0⟩ := DataW.trod_int Tryd.underlying3 (show DataW.trod enc Tryd.prog W 0 (fun _ => true) true n 3 [c0] = some x0 from f0)
    obtain ⟨n3, e3, -, w3⟩ := DataW.trod_int Tryd.underlying23 (show DataW.trod enc Tryd.prog W 0 (fun _ => true) true n 23 [c3] = some x3 from f3)
    obtain ⟨n4, e4, -, w4⟩ := DataW.trod_int Tryd.underlying23 (show DataW.trod enc Tryd.prog W 0 (fun _ => true) true n 23 [c4] = some x4 from f4)
    obtain ⟨l1, r1, s1⟩ := list_of (show DataW.trod enc Tryd.prog W 0 (fun _ => true) true n 22 [c1] = some x1 from f1)
    obtain ⟨l2, r2, s2⟩ := list_of (show DataW.trod enc Tryd.prog W 0 (fun _ => true) true n 22 [c2] = some x2 from f2)
    simp only [List.cons.injEq, and_true] at e0 e3 e4
    subst e0 e3 e4
    have b3 := bounds_u64 w3
    have b4 := bounds_u64 w4
    obtain ⟨s, rfl⟩ : ∃ s : Nat, n3 = s := ⟨n3.toNat, by omega⟩
    obtain ⟨x, rfl⟩ : ∃ x : Nat, n4 = x := ⟨n4.toNat, by omega⟩
    exact ⟨n0, s, x, c1, c2, l1, l2, rfl, by omega, by omega, r1, s1, r2, s2⟩
end Go.Proofs.YtdhacfagmfecgaaDoor
