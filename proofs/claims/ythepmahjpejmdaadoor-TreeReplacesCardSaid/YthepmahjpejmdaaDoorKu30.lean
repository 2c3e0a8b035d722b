/- Arguments that are arrays of numbers, and lists: what comes in. -/
import Derived.Test.YthepmahjpejmdaaDoorKu29
import Derived.Lib.SmallJoins
set_option linter.unusedSimpArgs false
set_option linter.unusedVariables false
/- Arguments that are arrays of numbers, and lists: what comes in. -/
namespace Go.Proofs.YthepmahjpejmdaaDoor
open Go.ChangeShapes Go.WideShapes Go.ChangeAt Go.RowKit Go.Joins
set_option linter.unusedVariables false

set_option maxRecDepth 100000 in
theorem okWide_arr {n : Nat} {e : TypeId} {W : World} {base : Nat} {t : TypeId} {v : Value} (ht : Tryd.prog.underlying t = some (.array n e)) (h : Value.okWide Tryd.prog W .any base t v) : ∃ cs, v = .agg cs ∧ cs.size = Tryd.prog.cellsOf t := by
  simp only [Value.okWide, ht] at h
  obtain ⟨cs, h1, h2, _⟩ := h
  exact ⟨cs, h1, h2⟩
theorem array4 {α : Type} {cs : Array α} (h : cs.size = 4) : ∃ c0 c1 c2 c3, cs = #[c0, c1, c2, c3] := by
  obtain ⟨l⟩ := cs
  match l, h with
  | [c0, c1, c2, c3], _ => exact ⟨c0, c1, c2, c3, rfl⟩
theorem array2 {α : Type} {cs : Array α} (h : cs.size = 2) : ∃ c0 c1, cs = #[c0, c1] := by
  obtain ⟨l⟩ := cs
  match l, h with
  | [c0, c1], _ => exact ⟨c0, c1, rfl⟩
theorem cells4U : Tryd.prog.cellsOf 67 = 4 := by kernel_rfl
theorem cellsDig : Tryd.prog.cellsOf 36 = 2 := by kernel_rfl
theorem open_num {H : Type} {enc : TypeId × Value → H} {W : World} {n : Nat} {c : Value} {y : Option (DataW H × List MemPlace)} (hy : y.isSome = true) (h : DataW.trod enc Tryd.prog W 0 (fun _ => true) true n 34 [c] = y) : ∃ m : Nat, c = .int .u64 (m : Int) ∧ m ≤ 18446744073709551615 := by
  obtain ⟨x, rfl⟩ := Option.isSome_iff_exists.1 hy
  obtain ⟨n0, e0, -, w0⟩ := DataW.trod_int Tryd.underlying34 h
  simp only [List.cons.injEq, and_true] at e0
  subst e0
  have b := bounds_u64 w0
  obtain ⟨s, rfl⟩ : ∃ s : Nat, n0 = s := ⟨n0.toNat, by omega⟩
  exact ⟨s, rfl, by omega⟩
set_option maxRecDepth 100000 in
theorem arg_st {H : Type} {enc : TypeId × Value → H} {W : World} {base : Nat} {v : Value} {d : DataW H} {p : List MemPlace} (hv : Value.okWide Tryd.prog W .any base 67 v)
    (h : DataW.Trod enc Tryd.prog W 0 (fun _ => true) true 67 v d p) :
    ∃ s : St, v = .agg #[.int .u64 (s.a : Int), .int .u64 (s.b : Int), .int .u64 (s.c : Int), .int .u64 (s.d : Int)] ∧ Sm s := by
  obtain ⟨cs, rfl, hsz⟩ := okWide_arr Tryd.underlying67 hv
  obtain ⟨c0, c1, c2, c3, rfl⟩ := array4 (hsz.trans cells4U)
  obtain ⟨fuel, hf⟩ := h
  obtain ⟨xs, m, _, _, _, hl, hel⟩ := DataW.trod_array Tryd.underlying67 hf
  rw [cellsU64] at hel
  have some_at : ∀ i, i < 4 → (xs[i]?).isSome = true := fun i hi => by rw [List.getElem?_eq_getElem (by omega)]; rfl
  obtain ⟨a, rfl, ha⟩ := open_num (some_at 0 (by omega)) (show DataW.trod enc Tryd.prog W 0 (fun _ => true) true m 34 [c0] = xs[0]? from hel 0 (by omega))
  obtain ⟨b, rfl, hb⟩ := open_num (some_at 1 (by omega)) (show DataW.trod enc Tryd.prog W 0 (fun _ => true) true m 34 [c1] = xs[1]? from hel 1 (by omega))
  obtain ⟨c, rfl, hc⟩ := open_num (some_at 2 (by omega)) (show DataW.trod enc Tryd.prog W 0 (fun _ => true) true m 34 [c2] = xs[2]? from hel 2 (by omega))
  obtain ⟨d, rfl, hd⟩ := open_num (some_at 3 (by omega)) (show DataW.trod enc Tryd.prog W 0 (fun _ => true) true m 34 [c3] = xs[3]? from hel 3 (by omega))
  exact ⟨⟨a, b, c, d⟩, rfl, ha, hb, hc, hd⟩
set_option maxRecDepth 100000 in
theorem arg_dig {H : Type} {enc : TypeId × Value → H} {W : World} {base : Nat} {v : Value} {d : DataW H} {p : List MemPlace} (hv : Value.okWide Tryd.prog W .any base 36 v)
    (h : DataW.Trod enc Tryd.prog W 0 (fun _ => true) true 36 v d p) :
    ∃ a b : Nat, v = .agg #[.int .u64 (a : Int), .int .u64 (b : Int)] ∧ a ≤ 18446744073709551615 ∧ b ≤ 18446744073709551615 := by
  obtain ⟨cs, rfl, hsz⟩ := okWide_arr Tryd.underlying36 hv
  obtain ⟨c0, c1, rfl⟩ := array2 (hsz.trans cellsDig)
  obtain ⟨fuel, hf⟩ := h
  obtain ⟨xs, m, _, _, _, hl, hel⟩ := DataW.trod_array Tryd.underlying36 hf
  rw [cellsU64] at hel
  have some_at : ∀ i, i < 2 → (xs[i]?).isSome = true := fun i hi => by rw [List.getElem?_eq_getElem (by omega)]; rfl
  obtain ⟨a, rfl, ha⟩ := open_num (some_at 0 (by omega)) (show DataW.trod enc Tryd.prog W 0 (fun _ => true) true m 34 [c0] = xs[0]? from hel 0 (by omega))
  obtain ⟨b, rfl, hb⟩ := open_num (some_at 1 (by omega)) (show DataW.trod enc Tryd.prog W 0 (fun _ => true) true m 34 [c1] = xs[1]? from hel 1 (by omega))
  exact ⟨a, b, rfl, ha, hb⟩
/-- The shape of a slice that reads as l. -/
def Shape (v : Value) (l : List Nat) : Prop := ∃ a cap, v = .slice a l.length cap ∧ l.length ≤ cap ∧ cap ≤ 9223372036854775807 ∧ (a = none → cap = 0)
set_option maxRecDepth 100000 in
theorem arg_list {H : Type} {enc : TypeId × Value → H} {W : World} {base : Nat} {v : Value} {d : DataW H} {p : List MemPlace} (hv : Value.okWide Tryd.prog W .any base 44 v)
    (h : DataW.Trod enc Tryd.prog W 0 (fun _ => true) true 44 v d p) : ∃ l, Reads W v l ∧ Shape v l := by
  obtain ⟨a0, len, cap, rfl⟩ := okWide_slice Tryd.underlying44 hv
  obtain ⟨fuel, hf⟩ := h
  rcases open_ints Tryd.underlying44 Tryd.underlying34 cellsU64 hf with ⟨hcs, hx⟩ | ⟨a, len', cap', zs, hcs, _, hl, hm, hz, hx, hcell, hwz⟩
  · simp [Value.cells] at hcs
    obtain ⟨rfl, rfl, rfl⟩ := hcs
    exact ⟨[], ⟨by simp, by simp, .inl ⟨rfl, none, 0, rfl⟩⟩, none, 0, rfl, by simp, by omega, fun _ => rfl⟩
  · simp [Value.cells] at hcs
    obtain ⟨rfl, rfl, rfl⟩ := hcs
    simp only [if_true] at hz
    unfold maxLen at hm
    have hlen : ((zs.take len).map Int.toNat).length = len := by simp; omega
    have hget : ∀ i, i < len → (((((zs.take len).map Int.toNat).getD i 0 : Nat)) : Int) = zs.getD i 0 := by
      intro i hi
      have hmem : zs.getD i 0 ∈ zs := by
        rw [List.getD_eq_getElem?_getD, List.getElem?_eq_getElem (by omega)]; exact List.getElem_mem _
      have hw := (bounds_u64 (hwz _ hmem)).1
      rw [List.getD_eq_getElem?_getD, List.getElem?_map, List.getElem?_take, if_pos hi, List.getElem?_eq_getElem (show i < zs.length by omega)]
      rw [List.getD_eq_getElem?_getD, List.getElem?_eq_getElem (show i < zs.length by omega)] at hw ⊢
      simp only [Option.map_some, Option.getD_some] at hw ⊢
      exact Int.toNat_of_nonneg hw
    refine ⟨(zs.take len).map Int.toNat, ⟨fun x hx => ?_, by rw [hlen]; omega, ?_⟩, some a, cap, by rw [hlen], by rw [hlen]; exact hl, hm, fun h => by simp at h⟩
    · obtain ⟨z, hz1, rfl⟩ := List.mem_map.1 hx
      have := bounds_u64 (hwz z (List.mem_of_mem_take hz1))
      omega
    · by_cases h0 : len = 0
      · subst h0; exact .inl ⟨by simp, some a, cap, rfl⟩
      · obtain ⟨b, off, spot⟩ := a
        have hspot : spot = none := by simpa [Addr.add] using World.cell?_spot (hcell 0 (by omega))
        subst hspot
        refine .inr ⟨b, off, cap, by rw [hlen], fun i hi => ?_⟩
        rw [hlen] at hi
        have h1 := hcell i (by omega)
        rw [← hget i hi] at h1
        rw [add_plain] at h1; exact h1
end Go.Proofs.YthepmahjpejmdaaDoor
