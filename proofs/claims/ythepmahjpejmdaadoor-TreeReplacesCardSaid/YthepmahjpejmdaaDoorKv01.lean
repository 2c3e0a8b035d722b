/- A list of levels whose blocks are named and apart: what Replace writes. -/
import Derived.Test.YthepmahjpejmdaaDoorKu17
set_option linter.unusedSimpArgs false
set_option linter.unusedVariables false
/- A list of levels whose blocks are named and apart: what Replace writes. -/
namespace Go.Proofs.YthepmahjpejmdaaDoor
open Go.RowKit
set_option linter.unusedVariables false

/-- Block g holds m levels, each whole and in a block of its own (b j), all from n0 on. -/
def TD (n0 : Nat) (w : World) (g m : Nat) (b : Nat → Nat) (F : Nat → List Dg) : Prop :=
  n0 ≤ g ∧ g < w.heap.size ∧ (∀ j, w.frozen? ⟨g, j, none⟩ = false) ∧
    ∀ j, j < m → (∃ c, w.cell? ⟨g, j, none⟩ = some (.slice (some ⟨b j, 0, none⟩) (F j).length c)) ∧ n0 ≤ b j ∧ b j ≠ g ∧ DB (b j) w (F j) ∧ ∀ k, k < m → k ≠ j → b k ≠ b j
theorem TD.tm {n0 : Nat} {w : World} {g m : Nat} {b : Nat → Nat} {F : Nat → List Dg} (h : TD n0 w g m b F) (cap : Nat) : TM n0 w (.slice (some ⟨g, 0, none⟩) m cap) m F := by
  obtain ⟨h1, h2, h3, h4⟩ := h
  refine ⟨g, cap, rfl, h1, h2, h3, fun j hj => ?_⟩
  obtain ⟨⟨c, e1⟩, e2, e3, e4, _⟩ := h4 j hj
  exact ⟨b j, c, e1, e2, e3, e4⟩
theorem TD.on {n0 : Nat} {w w' : World} {g m : Nat} {b : Nat → Nat} {F : Nat → List Dg} (h : TD n0 w g m b F) (k : On w w') : TD n0 w' g m b F := by
  obtain ⟨h1, h2, h3, h4⟩ := h
  refine ⟨h1, Nat.lt_of_lt_of_le h2 k.size, fun j => (k.frozen (p := ⟨g, j, none⟩) h2).trans (h3 j), fun j hj => ?_⟩
  obtain ⟨⟨c, e1⟩, e2, e3, e4, e5⟩ := h4 j hj
  exact ⟨⟨c, (k.cell (p := ⟨g, j, none⟩) h2).trans e1⟩, e2, e3, e4.on k, e5⟩
theorem TD.eq {n0 : Nat} {w : World} {g m : Nat} {b : Nat → Nat} {F G : Nat → List Dg} (h : TD n0 w g m b F) (e : ∀ j, j < m → G j = F j) : TD n0 w g m b G := by
  obtain ⟨h1, h2, h3, h4⟩ := h
  exact ⟨h1, h2, h3, fun j hj => by rw [e j hj]; exact h4 j hj⟩
theorem TD.nil {n0 : Nat} {w : World} {g : Nat} (h1 : n0 ≤ g) (h2 : g < w.heap.size) (h3 : ∀ j, w.frozen? ⟨g, j, none⟩ = false) (b : Nat → Nat) (F : Nat → List Dg) : TD n0 w g 0 b F := ⟨h1, h2, h3, fun j hj => absurd hj (by omega)⟩
/-- One more level is laid: its block B is new, its header goes into cell m. -/
theorem TD.step {n0 : Nat} {w : World} {g m : Nat} {b : Nat → Nat} {F : Nat → List Dg} (h : TD n0 w g m b F) (B c : Nat) (hc : (w.cell? ⟨g, m, none⟩).isSome = true) (hB : n0 ≤ B) (hg : B ≠ g) (hD : DB B w (F m)) (hne : ∀ j, j < m → b j ≠ B) :
    TD n0 (w.setCell ⟨g, m, none⟩ (.slice (some ⟨B, 0, none⟩) (F m).length c)) g (m + 1) (fun j => if j = m then B else b j) F := by
  obtain ⟨h1, h2, h3, h4⟩ := h
  have hap : Ap g w (w.setCell ⟨g, m, none⟩ (.slice (some ⟨B, 0, none⟩) (F m).length c)) := (Ap.refl g w).setCell m _
  refine ⟨h1, by simpa [World.setCell] using h2, fun j => by have := h3 j; simpa using this, fun j hj => ?_⟩
  by_cases e : j = m
  · subst e
    simp only [if_true]
    refine ⟨⟨c, World.cell?_setCell_same _ _ _ (Option.isSome_iff_exists.1 hc).choose_spec⟩, hB, hg, hD.ap hap hg, fun k hk hkj => ?_⟩
    rw [if_neg hkj]
    exact hne k (by omega)
  · obtain ⟨⟨c', e1⟩, e2, e3, e4, e5⟩ := h4 j (by omega)
    simp only [if_neg e]
    refine ⟨⟨c', ?_⟩, e2, e3, e4.ap hap e3, fun k hk hkj => ?_⟩
    · rw [World.cell?_setCell_other (h := fun e' => by have := congrArg Addr.off e'; simp at this; omega) ..]; exact e1
    · by_cases ek : k = m
      · rw [if_pos ek]; exact fun h0 => hne j (by omega) h0.symm
      · rw [if_neg ek]; exact e5 k (by omega) hkj
/-- Digest t of level j is stored. -/
theorem TD.set {n0 : Nat} {w : World} {g m : Nat} {b : Nat → Nat} {F : Nat → List Dg} (h : TD n0 w g m b F) (j t : Nat) (x : Dg) (hj : j < m) (ht : t < (F j).length) :
    TD n0 ((w.setCell ⟨b j, t * 2, none⟩ (.int .u64 ((x.1 : Nat) : Int))).setCell ⟨b j, t * 2 + 1, none⟩ (.int .u64 ((x.2 : Nat) : Int))) g m b (fun k => if k = j then (F j).set t x else F k) := by
  obtain ⟨h1, h2, h3, h4⟩ := h
  obtain ⟨_, f2, f3, f4, f5⟩ := h4 j hj
  have hap : Ap (b j) w ((w.setCell ⟨b j, t * 2, none⟩ (.int .u64 ((x.1 : Nat) : Int))).setCell ⟨b j, t * 2 + 1, none⟩ (.int .u64 ((x.2 : Nat) : Int))) := (Ap.refl (b j) w).set2 _ _ _ _
  refine ⟨h1, by simpa [World.setCell] using h2, fun k => by have := h3 k; simpa using this, fun k hk => ?_⟩
  obtain ⟨⟨c', e1⟩, e2, e3, e4, e5⟩ := h4 k hk
  have hl : (if k = j then (F j).set t x else F k).length = (F k).length := by
    by_cases e : k = j
    · subst e; rw [if_pos rfl, List.length_set]
    · rw [if_neg e]
  refine ⟨⟨c', by rw [hl, hap.cell (p := ⟨g, k, none⟩) h2 (fun e => f3 e.symm)]; exact e1⟩, e2, e3, ?_, e5⟩
  by_cases e : k = j
  · subst e; simp only [if_true]; exact f4.set t x ht
  · simp only [if_neg e]; exact e4.ap hap (e5 j hj (fun h => e h.symm)).symm
/-- make of a list of n levels. -/
theorem make_hdr (n : Nat) (hn : n ≤ 1000000) (w : World) :
    (Instr.makeSlice 24 (.int .i64 (n : Int)) (.int .i64 (n : Int))).run Tryd.prog w = .ok (.slice (some ⟨w.heap.size, 0, none⟩) n n) (w.alloc (.cells (madeCells #[.slice none 0 0] n) 22)) := by
  obtain ⟨i0, hi, hz0, hz1, hz2⟩ := info_parts info_hdr
  have h := run_make (P := Tryd.prog) w 24 22 i0 (.slice none 0 0) Tryd.underlying24 hi hz0 .i64 .i64 (n : Int) (n : Int) (by omega) (by omega) (by rw [hz2]; omega) (by omega)
  rw [hz1] at h
  simpa [Value.cells] using h
end Go.Proofs.YthepmahjpejmdaaDoor
