/- A list of lists that comes in: how it reads. -/
import Derived.Test.YthaabkmodpnbbaaDoorKb19
import Derived.Test.YthaabkmodpnbbaaDoorKeCparA
import Derived.Deep.Matrix
namespace Go.Proofs.YthaabkmodpnbbaaDoor
open Go.ChangeShapes Go.WideShapes Go.ChangeAt Go.RowKit Go.Deep
set_option linter.unusedVariables false

theorem row_reads {W : World} (oa : Option Addr) (len cap : Nat) (zs : List Int) (hl : len ≤ cap) (hm : cap ≤ maxLen) (hz : zs.length = cap) (hwz : ∀ n ∈ zs, (Lit.int .u64 n).wf = true) (h0 : oa = none → cap = 0)
    (hcell : ∀ a, oa = some a → ∀ c, c < cap → W.cell? (a.add c) = some (.int .u64 (zs.getD c 0))) : ∃ l, Reads W (.slice oa len cap) l ∧ Shape (.slice oa len cap) l := by
  unfold maxLen at hm
  have hlen : ((zs.take len).map Int.toNat).length = len := by simp; omega
  have hget : ∀ i, i < len → (((((zs.take len).map Int.toNat).getD i 0 : Nat)) : Int) = zs.getD i 0 := by
    intro i hi
    have hmem : zs.getD i 0 ∈ zs := by
      rw [List.getD_eq_getElem?_getD, List.getElem?_eq_getElem (by omega)]; exact List.getElem_mem _
    have hw := (bounds_u64 (hwz _ hmem)).1
    rw [List.getD_eq_getElem?_getD, List.getElem?_map, List.getElem?_take, if_pos hi, List.getElem?_eq_getElem (show i < zs.length by omega)]
    rw [List.getD_eq_getElem?_getD, List.getElem?_eq_getElem (show i < zs.length by omega)] at hw ⊢
    simp only [Option.map_some, Option.getD_some] at hw ⊢
    exact Int.toNat_of_nonneg hw
  refine ⟨(zs.take len).map Int.toNat, ⟨fun x hx => ?_, by rw [hlen]; omega, ?_⟩, oa, cap, by rw [hlen], by rw [hlen]; exact hl, hm, h0⟩
  · obtain ⟨z, hz1, rfl⟩ := List.mem_map.1 hx
    have := bounds_u64 (hwz z (List.mem_of_mem_take hz1))
    omega
  · by_cases h0' : len = 0
    · subst h0'; exact .inl ⟨by simp, oa, cap, rfl⟩
    · cases oa with
      | none => have := h0 rfl; omega
      | some a =>
        obtain ⟨b, off, spot⟩ := a
        have hspot : spot = none := by simpa [Addr.add] using World.cell?_spot (hcell _ rfl 0 (by omega))
        subst hspot
        refine .inr ⟨b, off, cap, by rw [hlen], fun i hi => ?_⟩
        rw [hlen] at hi
        have h1 := hcell _ rfl i (by omega)
        rw [← hget i hi] at h1
        rw [add_plain] at h1; exact h1
theorem cellsCols : Tryd.prog.cellsOf 33 = 1 := by kernel_rfl
set_option maxRecDepth 100000 in
theorem arg_cols {H : Type} {enc : TypeId × Value → H} {W : World} {base : Nat} {v : Value} {d : DataW H} {p : List MemPlace} (hv : Value.okWide Tryd.prog W .any base 37 v)
    (h : DataW.Trod enc Tryd.prog W 0 (fun _ => true) true 37 v d p) : ∃ n P, Mat W v n P ∧ n ≤ 9223372036854775807 := by
  obtain ⟨a0, len0, cap0, rfl⟩ := okWide_slice Tryd.underlying37 hv
  obtain ⟨fuel, hf⟩ := h
  rcases open_int_rows Tryd.underlying37 Tryd.underlying33 Tryd.underlying22 cellsCols cellsU64 hf with ⟨hcs, hx⟩ | ⟨a, len, cap, A, L, C, Z, hcs, _, hl, hm, hx, hr⟩
  · simp [Value.cells] at hcs
    obtain ⟨rfl, rfl, rfl⟩ := hcs
    exact ⟨0, fun _ => [], Mat.nil _ _ _ _, by omega⟩
  · simp [Value.cells] at hcs
    obtain ⟨rfl, rfl, rfl⟩ := hcs
    have hex : ∀ j, ∃ l, j < len0 → Reads W (.slice (A j) (L j) (C j)) l ∧ Shape (.slice (A j) (L j) (C j)) l := fun j => by
      by_cases hj : j < len0
      · obtain ⟨_, h2, h3, h4, h5, h6, h7⟩ := hr j (by omega)
        obtain ⟨l, h8⟩ := row_reads (W := W) (A j) (L j) (C j) (Z j) h2 h3 h4 h5 h6 (fun a' e c hc => (h7 a' e).2 c hc)
        exact ⟨l, fun _ => h8⟩
      · exact ⟨[], fun h => absurd h hj⟩
    obtain ⟨P, hP⟩ := Classical.axiomOfChoice hex
    refine ⟨len0, P, ⟨_, _, rfl, fun j hj => ?_⟩, by unfold maxLen at hm; omega⟩
    obtain ⟨h1, _⟩ := hr j (by omega)
    obtain ⟨b, off, spot⟩ := a
    have hspot : spot = none := by simpa [Addr.add] using World.cell?_spot (hr 0 (by omega)).1
    subst hspot
    rw [add_plain] at h1
    exact ⟨b, off, _, rfl, h1, (hP j hj).1, (hP j hj).2⟩
end Go.Proofs.YthaabkmodpnbbaaDoor
