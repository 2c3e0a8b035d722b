/- A list of Bools that comes in: how it reads, and the shape of its slice. -/
import Derived.Test.YtiipgbobgeejmaaDoorKwCargs2
namespace Go.Proofs.YtiipgbobgeejmaaDoor
open Go.ChangeShapes Go.WideShapes Go.ChangeAt Go.RowKit Go.Deep
set_option linter.unusedVariables false

set_option maxRecDepth 100000 in
theorem arg_bools2 {H : Type} {enc : TypeId × Value → H} {W : World} {base : Nat} {v : Value} {d : DataW H} {p : List MemPlace} (hv : Value.okWide Tryd.prog W .any base 26 v)
    (h : DataW.Trod enc Tryd.prog W 0 (fun _ => true) true 26 v d p) : ∃ (oa : Option Addr) (m c : Nat) (K : Nat → Bool), v = .slice oa m c ∧ ReadsK W (.slice oa m c) K m ∧ m ≤ c ∧ c ≤ 9223372036854775807 ∧ (oa = none → c = 0) := by
  obtain ⟨a0, len, cap, rfl⟩ := okWide_slice Tryd.underlying26 hv
  obtain ⟨fuel, hf⟩ := h
  rcases open_bools Tryd.underlying26 Tryd.underlying4 cellsBool hf with ⟨hcs, hx⟩ | ⟨a, len', cap', B, hcs, _, hl, hm, hx, hcell⟩
  · simp [Value.cells] at hcs
    obtain ⟨rfl, rfl, rfl⟩ := hcs
    exact ⟨none, 0, 0, fun _ => false, rfl, ⟨none, 0, rfl, fun j hj => by omega⟩, by omega, by omega, fun _ => rfl⟩
  · simp [Value.cells] at hcs
    obtain ⟨rfl, rfl, rfl⟩ := hcs
    unfold maxLen at hm
    refine ⟨some a, len, cap, B, rfl, ⟨some a, cap, rfl, fun j hj => ?_⟩, hl, by omega, fun h => by simp at h⟩
    obtain ⟨b, off, spot⟩ := a
    have hspot : spot = none := by simpa [Addr.add] using World.cell?_spot (hcell 0 (by omega))
    subst hspot
    have h1 := hcell j (by omega)
    rw [add_plain] at h1
    exact ⟨b, off, rfl, h1⟩
end Go.Proofs.YtiipgbobgeejmaaDoor
