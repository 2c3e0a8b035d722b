/- Arguments that are lists of digests: what comes in. -/
import Derived.Test.YtcbmeegmdgllkaaDoorHargs
import Derived.Test.YtcbmeegmdgllkaaDoorHord
namespace Go.Proofs.YtcbmeegmdgllkaaDoor
open Go.ChangeShapes Go.WideShapes Go.ChangeAt Go.RowKit Go.Joins
set_option linter.unusedVariables false

theorem open_twos {H : Type} {enc : TypeId × Value → H} {W : World} {α : Type} (R : Value → Value → α → Prop) {t e : TypeId} {fuel : Nat} {cs : List Value} {x : DataW H × List MemPlace} (ht : Tryd.prog.underlying t = some (.slice e)) (hc : Tryd.prog.cellsOf e = 2)
    (h : DataW.trod enc Tryd.prog W 0 (fun _ => true) true fuel t cs = some x) (hR : ∀ n c0 c1 y, DataW.trod enc Tryd.prog W 0 (fun _ => true) true n e [c0, c1] = some y → ∃ z, R c0 c1 z) :
    cs = [.slice none 0 0] ∨ ∃ (a : Addr) (len cap : Nat) (zs : List α), cs = [.slice (some a) len cap] ∧ len ≤ cap ∧ cap ≤ maxLen ∧ zs.length = len ∧
      ∀ i, i < len → ∃ c0 c1 z, zs[i]? = some z ∧ R c0 c1 z ∧ W.cell? (a.add (i * 2)) = some c0 ∧ W.cell? ((a.add (i * 2)).add 1) = some c1 := by
  rcases DataW.trod_slice ht h with h0 | ⟨a, len, cap, elems, rest, n, _, rfl, rfl, hb, hl, hm, hlen, hel, hsp, hns⟩
  · exact Or.inl h0.1
  right
  have each : ∀ i, i < len → ∃ c0 c1 z, R c0 c1 z ∧ W.cell? (a.add (i * 2)) = some c0 ∧ W.cell? ((a.add (i * 2)).add 1) = some c1 := fun i hi => by
    have h1 := hel i hi
    rw [hc, List.getElem?_eq_getElem (by omega), Option.bind_eq_some_iff] at h1
    obtain ⟨cs', hcs, hy⟩ := h1
    obtain ⟨_, hcl, hce⟩ := World.cells?_some hcs
    match cs', hcl, hce, hy with
    | [c0, c1], _, hce, hy =>
      obtain ⟨z, hz⟩ := hR _ _ _ _ hy
      refine ⟨c0, c1, z, hz, ?_, ?_⟩
      · have := hce 0 (by omega)
        simpa [Addr.add] using this
      · have := hce 1 (by omega)
        simpa using this
  have build : ∀ k, k ≤ len → ∃ zs : List α, zs.length = k ∧ ∀ i, i < k → ∃ c0 c1 z, zs[i]? = some z ∧ R c0 c1 z ∧ W.cell? (a.add (i * 2)) = some c0 ∧ W.cell? ((a.add (i * 2)).add 1) = some c1 := by
    intro k
    induction k with
    | zero => exact fun _ => ⟨[], rfl, fun i hi => absurd hi (by omega)⟩
    | succ k ih =>
      intro hk
      obtain ⟨zs, hz, hzs⟩ := ih (by omega)
      obtain ⟨c0, c1, z, h1, h2, h3⟩ := each k (by omega)
      refine ⟨zs ++ [z], by simp [hz], fun i hi => ?_⟩
      rcases Nat.lt_or_ge i k with h | h
      · obtain ⟨d0, d1, y, g1, g2⟩ := hzs i h
        exact ⟨d0, d1, y, by rw [List.getElem?_append_left (by omega)]; exact g1, g2⟩
      · obtain rfl : i = k := by omega
        exact ⟨c0, c1, z, by rw [List.getElem?_append_right (by omega), hz]; simp, h1, h2, h3⟩
  obtain ⟨zs, hz, hzs⟩ := build len (Nat.le_refl _)
  exact ⟨a, len, cap, zs, rfl, hl, hm, hz, hzs⟩
theorem dig_of {H : Type} {enc : TypeId × Value → H} {W : World} (n : Nat) (c0 c1 : Value) (y : DataW H × List MemPlace) (hf : DataW.trod enc Tryd.prog W 0 (fun _ => true) true n 48 [c0, c1] = some y) :
    ∃ z : Nat × Nat, c0 = .int .u64 ((z.1 : Nat) : Int) ∧ c1 = .int .u64 ((z.2 : Nat) : Int) ∧ z.1 ≤ 18446744073709551615 ∧ z.2 ≤ 18446744073709551615 := by
  obtain ⟨xs, m, _, _, _, hl, hel⟩ := DataW.trod_array Tryd.underlying48 hf
  rw [cellsU64] at hel
  have some_at : ∀ i, i < 2 → (xs[i]?).isSome = true := fun i hi => by rw [List.getElem?_eq_getElem (by omega)]; rfl
  obtain ⟨a, h0, ha⟩ := open_num (some_at 0 (by omega)) (show DataW.trod enc Tryd.prog W 0 (fun _ => true) true m 22 [c0] = xs[0]? from hel 0 (by omega))
  obtain ⟨b, h1, hb⟩ := open_num (some_at 1 (by omega)) (show DataW.trod enc Tryd.prog W 0 (fun _ => true) true m 22 [c1] = xs[1]? from hel 1 (by omega))
  exact ⟨(a, b), h0, h1, ha, hb⟩
set_option maxRecDepth 100000 in
theorem arg_dl {H : Type} {enc : TypeId × Value → H} {W : World} {base : Nat} {v : Value} {d : DataW H} {p : List MemPlace} (hv : Value.okWide Tryd.prog W .any base 45 v)
    (h : DataW.Trod enc Tryd.prog W 0 (fun _ => true) true 45 v d p) : ∃ l, RD W v l ∧ ShapeP v l := by
  obtain ⟨a0, len, cap, rfl⟩ := okWide_slice Tryd.underlying45 hv
  obtain ⟨fuel, hf⟩ := h
  rcases open_twos (fun c0 c1 (z : Nat × Nat) => c0 = .int .u64 ((z.1 : Nat) : Int) ∧ c1 = .int .u64 ((z.2 : Nat) : Int) ∧ z.1 ≤ 18446744073709551615 ∧ z.2 ≤ 18446744073709551615) Tryd.underlying45 cellsDig hf dig_of with hcs | ⟨a, len', cap', zs, hcs, hl, hm, hz, hel⟩
  · simp [Value.cells] at hcs
    obtain ⟨rfl, rfl, rfl⟩ := hcs
    exact ⟨[], ⟨by simp, by simp, .inl ⟨rfl, none, 0, rfl⟩⟩, none, 0, rfl, by simp, by omega, fun _ => rfl⟩
  · simp [Value.cells] at hcs
    obtain ⟨rfl, rfl, rfl⟩ := hcs
    unfold maxLen at hm
    have hcell : ∀ i, i < len → W.cell? (a.add (i * 2)) = some (.int .u64 (((zs.getD i (0, 0)).1 : Nat) : Int)) ∧ W.cell? ((a.add (i * 2)).add 1) = some (.int .u64 (((zs.getD i (0, 0)).2 : Nat) : Int)) ∧ (zs.getD i (0, 0)).1 ≤ 18446744073709551615 ∧ (zs.getD i (0, 0)).2 ≤ 18446744073709551615 := fun i hi => by
      obtain ⟨c0, c1, z, h1, ⟨rfl, rfl, hza, hzb⟩, h2, h3⟩ := hel i hi
      rw [List.getD_eq_getElem?_getD, h1]
      exact ⟨h2, h3, hza, hzb⟩
    refine ⟨zs, ⟨fun i hi => (hcell i (by omega)).2.2, by rw [hz]; omega, ?_⟩, some a, cap, by rw [hz], by omega, hm, fun h => by simp at h⟩
    by_cases h0 : len = 0
    · subst h0; exact .inl ⟨List.length_eq_zero_iff.1 hz, some a, cap, rfl⟩
    · obtain ⟨b, off, spot⟩ := a
      have hspot : spot = none := by simpa [Addr.add] using World.cell?_spot (hcell 0 (by omega)).1
      subst hspot
      refine .inr ⟨b, off, cap, by rw [hz], fun i hi => ?_⟩
      have h1 := hcell i (by omega)
      simp only [add_plain] at h1
      exact ⟨h1.1, h1.2.1⟩
end Go.Proofs.YtcbmeegmdgllkaaDoor
