/- An append of Bools onto nothing: what it gives. -/
import Derived.Test.YtiipgbobgeejmaaDoorKwCera0
import Derived.Test.YtiipgbobgeejmaaDoorKwCargs2
import Derived.Test.YtiipgbobgeejmaaDoorKb05
namespace Go.Proofs.YtiipgbobgeejmaaDoor
open Go.RowKit
set_option linter.unusedVariables false

theorem append_bools (w : World) (K : Nat → Bool) (m c : Nat) (oa : Option Addr) (hT : Tab w) (hR : ReadsK w (.slice oa m c) K m) (hk : m ≤ 1000000) :
    ∃ a c' w', (∀ ty, (Builtin.append_ #[26, 26] ty #[.slice none 0 0, .slice oa m c]).run Tryd.prog w = .ok (.slice a m c') w') ∧ ReadsK w' (.slice a m c') K m ∧ On w w' := by
  obtain ⟨i0, hi, hz0, hz1, hz2⟩ := info_parts info_bool
  rcases Nat.eq_zero_or_pos m with rfl | h0
  · exact ⟨_, _, _, fun ty => run_append_none3 w _ _ ty _ i0 Tryd.underlying26 Tryd.underlying26 hi oa c, ⟨_, _, rfl, fun j hj => absurd hj (Nat.not_lt_zero _)⟩, On.refl hT⟩
  · obtain ⟨a1, c1, he, hc⟩ := hR
    simp only [Value.slice.injEq, true_and] at he
    obtain ⟨rfl, rfl⟩ := he
    obtain ⟨b, off, rfl, _⟩ := hc 0 h0
    have hc' : ∀ j, j < m → w.cell? ⟨b, off + j, none⟩ = some (.bool (K j)) := fun j hj => by
      obtain ⟨b', off', h1, h2⟩ := hc j hj
      simp only [Option.some.injEq, Addr.mk.injEq] at h1
      obtain ⟨rfl, rfl, -⟩ := h1
      exact h2
    have hnl : ((List.range m).map fun j => Value.bool (K j)).length = m := by simp
    have hng : ∀ j, j < m → ((List.range m).map fun j => Value.bool (K j))[j]? = some (.bool (K j)) := fun j hj => by
      rw [List.getElem?_map, List.getElem?_range hj]; rfl
    have hrun := fun ty => run_append_nil3 (P := Tryd.prog) w 26 26 ty 4 i0 (.bool false) Tryd.underlying26 Tryd.underlying26 hi hz0 ⟨b, off, none⟩ m c ((List.range m).map fun j => Value.bool (K j)) (by rw [hnl, hz1, Nat.mul_one])
      (fun j v hj => by
        have hj' : j < m := by have := (List.getElem?_eq_some_iff.1 hj).1; rwa [hnl] at this
        rw [hng _ hj'] at hj
        rw [← hj, add_plain]
        exact hc' j hj') h0 (by omega) (by rw [hz2]; omega)
    refine ⟨_, _, _, hrun, ⟨_, _, rfl, fun j hj => ⟨_, 0, rfl, ?_⟩⟩, (On.refl hT).drew.alloc _⟩
    rw [Nat.zero_add]
    have hs : w.drew.heap.size = w.heap.size := rfl
    rw [← hs, World.cell?_alloc_new, Array.getElem?_append_left (by simp; exact hj)]
    have := hng j hj
    simpa using this
theorem ReadsK.take {w : World} {a : Option Addr} {m c : Nat} {K : Nat → Bool} (h : ReadsK w (.slice a m c) K m) (n c' : Nat) (hn : n ≤ m) : ReadsK w (.slice a n c') K n := by
  obtain ⟨a1, c1, he, hc⟩ := h
  simp only [Value.slice.injEq, true_and] at he
  obtain ⟨rfl, rfl⟩ := he
  exact ⟨_, _, rfl, fun j hj => hc j (by omega)⟩
end Go.Proofs.YtiipgbobgeejmaaDoor
