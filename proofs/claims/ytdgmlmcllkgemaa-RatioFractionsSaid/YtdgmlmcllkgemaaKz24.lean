/- Numbers and fractions that come in: how they read. -/
import Derived.Test.YtdgmlmcllkgemaaKz23
import Derived.Lib.SmallJoins
import Derived.ChangeMaps5
import Derived.Test.YtdgmlmcllkgemaaKz12
set_option linter.unusedSimpArgs false
set_option linter.unusedVariables false
/- Numbers and fractions that come in: how they read. -/
namespace Go.Proofs.Ytdgmlmcllkgemaa
open Go.ChangeShapes Go.WideShapes Go.ChangeAt Go.RowKit Go.Joins Go.ChangeMaps
set_option linter.unusedVariables false

theorem arg_nat3 {H : Type} {enc : TypeId × Value → H} {W : World} {v : Value} {d : DataW H} {p : List MemPlace} (hv : ∃ a l c, v = .slice a l c)
    (h : DataW.Trod enc Try.prog W 0 (fun _ => true) true 23 v d p) : ∃ m x, Av W v m x := by
  obtain ⟨a0, len, cap, rfl⟩ := hv
  obtain ⟨fuel, hf⟩ := h
  rcases open_ints Try.underlying23 Try.underlying54 cellsU32 hf with ⟨hcs, hx⟩ | ⟨a, len', cap', zs, hcs, _, hl, hm, hz, hx, hcell, hwz⟩
  · simp [Value.cells] at hcs
    obtain ⟨rfl, rfl, rfl⟩ := hcs
    exact ⟨0, 0, none, 0, rfl, by omega, by omega, fun k hk => by omega, by decide, fun _ => rfl⟩
  · simp [Value.cells] at hcs
    obtain ⟨rfl, rfl, rfl⟩ := hcs
    simp only [if_true] at hz
    unfold maxLen at hm
    have hlen : ((zs.take len).map Int.toNat).length = len := by simp; omega
    have hlim : ∀ x ∈ (zs.take len).map Int.toNat, x < 4294967296 := by
      intro x hx
      obtain ⟨z, hz1, rfl⟩ := List.mem_map.1 hx
      have := bounds_u32 (hwz z (List.mem_of_mem_take hz1))
      omega
    have hget : ∀ i, i < len → (((((zs.take len).map Int.toNat).getD i 0 : Nat)) : Int) = zs.getD i 0 := by
      intro i hi
      have hmem : zs.getD i 0 ∈ zs := by
        rw [List.getD_eq_getElem?_getD, List.getElem?_eq_getElem (by omega)]; exact List.getElem_mem _
      have hw := (bounds_u32 (hwz _ hmem)).1
      rw [List.getD_eq_getElem?_getD, List.getElem?_map, List.getElem?_take, if_pos hi, List.getElem?_eq_getElem (show i < zs.length by omega)]
      rw [List.getD_eq_getElem?_getD, List.getElem?_eq_getElem (show i < zs.length by omega)] at hw ⊢
      simp only [Option.map_some, Option.getD_some] at hw ⊢
      exact Int.toNat_of_nonneg hw
    have hvl := val_lt _ hlim
    rw [hlen] at hvl
    refine ⟨len, val ((zs.take len).map Int.toNat), some a, cap, rfl, hl, by omega, fun i hi => ?_, hvl, fun h => by simp at h⟩
    obtain ⟨b, off, spot⟩ := a
    have hspot : spot = none := by simpa [Addr.add] using World.cell?_spot (hcell 0 (by omega))
    subst hspot
    refine ⟨b, off, rfl, ?_⟩
    have h1 := hcell i (by omega)
    rw [← hget i hi] at h1
    rw [add_plain] at h1
    rw [dg_val _ hlim i (by rw [hlen]; exact hi)]
    exact h1
theorem arg_nat {H : Type} {enc : TypeId × Value → H} {W : World} {base : Nat} {v : Value} {d : DataW H} {p : List MemPlace} (hv : Value.okWide Try.prog W .any base 23 v)
    (h : DataW.Trod enc Try.prog W 0 (fun _ => true) true 23 v d p) : ∃ m x, Av W v m x := arg_nat3 (okWide_slice Try.underlying23 hv) h
theorem cellsNat : Try.prog.cellsOf 23 = 1 := by kernel_rfl
theorem nat_in {H : Type} {enc : TypeId × Value → H} {W : World} {v : Value} {n : Nat} {y : DataW H × List MemPlace} (h : DataW.trod enc Try.prog W 0 (fun _ => true) true n 23 [v] = some y) : ∃ m x, Av W v m x := by
  obtain ⟨a, l, c, e⟩ := slice_form Try.underlying23 h
  simp only [List.cons.injEq, and_true] at e
  subst e
  exact arg_nat3 ⟨_, _, _, rfl⟩ (d := y.1) (p := y.2) ⟨n, by simpa [Value.cells] using h⟩
theorem arg_str {H : Type} {enc : TypeId × Value → H} {W : World} {base : Nat} {v : Value} {d : DataW H} {p : List MemPlace} (hv : Value.okWide Try.prog W .any base 9 v)
    (h : DataW.Trod enc Try.prog W 0 (fun _ => true) true 9 v d p) : ∃ l, v = str l ∧ l.length ≤ 9223372036854775807 := by
  obtain ⟨s, rfl, _, _, hs⟩ := open_string Try.underlying9 hv h
  refine ⟨s.data.toList, ?_, ?_⟩
  · unfold str; rfl
  · unfold maxLen at hs; exact hs
end Go.Proofs.Ytdgmlmcllkgemaa

/- A fraction that comes in: how it reads. -/
namespace Go.Proofs.Ytdgmlmcllkgemaa
open Go.ChangeShapes Go.WideShapes Go.ChangeAt Go.RowKit Go.Joins Go.ChangeMaps
set_option linter.unusedVariables false

theorem cellsRatio : Try.prog.cellsOf 41 = 2 := by kernel_rfl
theorem arg_ratio {H : Type} {enc : TypeId × Value → H} {W : World} {base : Nat} {v : Value} {d : DataW H} {p : List MemPlace} (hv : Value.okWide Try.prog W .any base 41 v)
    (h : DataW.Trod enc Try.prog W 0 (fun _ => true) true 41 v d p) : ∃ va vb ma xa mb xb, v = .agg #[va, vb] ∧ Av W va ma xa ∧ Av W vb mb xb := by
  obtain ⟨v0, v1, y0, y1, n, rfl, rfl, rfl, h0, h1⟩ := open_agg2 Try.underlying41 (by kernel_rfl) cellsRatio hv h
  obtain ⟨ma, xa, hA⟩ := nat_in h0
  obtain ⟨mb, xb, hB⟩ := nat_in h1
  exact ⟨v0, v1, ma, xa, mb, xb, rfl, hA, hB⟩
end Go.Proofs.Ytdgmlmcllkgemaa
