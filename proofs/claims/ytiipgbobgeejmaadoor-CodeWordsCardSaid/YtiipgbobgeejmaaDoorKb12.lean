/- Package poly: the parts of a polynomial: plain facts; the memory of a list of lists. -/
import Derived.Test.YtiipgbobgeejmaaDoorKb11
import Derived.Deep.RegionLaw
/- Package poly: the parts of a polynomial: plain facts; the memory of a list of lists. -/
namespace Go.Proofs.YtiipgbobgeejmaaDoor
open Go.RowKit
set_option linter.unusedVariables false

/-- The coefficients of the first k whose place is j modulo m. -/
def part (f : Int) (l : List Nat) (m k j : Nat) : List Nat := ((List.range k).filter fun i => i % m == j).map fun i => redF f (l.getD i 0)
theorem part_zero (f : Int) (l : List Nat) (m j : Nat) : part f l m 0 j = [] := rfl
theorem part_at (f : Int) (l : List Nat) (m k : Nat) : part f l m (k + 1) (k % m) = part f l m k (k % m) ++ [redF f (l.getD k 0)] := by
  unfold part; rw [List.range_succ, List.filter_append, List.map_append]; simp
theorem part_off (f : Int) (l : List Nat) (m k j : Nat) (h : k % m ≠ j) : part f l m (k + 1) j = part f l m k j := by
  unfold part; rw [List.range_succ, List.filter_append, List.map_append]; simp [h]
theorem part_le (f : Int) (l : List Nat) (m k j : Nat) : ∀ y ∈ part f l m k j, y ≤ 18446744073709551615 := fun y hy => by
  unfold part at hy
  obtain ⟨i, _, rfl⟩ := List.mem_map.1 hy
  have := redF_le f (l.getD i 0); omega
theorem part_len (f : Int) (l : List Nat) (m k j : Nat) : (part f l m k j).length ≤ k := by
  unfold part
  rw [List.length_map]
  have := List.length_filter_le (fun i => i % m == j) (List.range k)
  rwa [List.length_range] at this
/-- Block G holds the m slice values V, and may be written; each has grown since B, and no two share a block. -/
def Grid (G B m : Nat) (w : World) (V : Nat → Value) (L : Nat → List Nat) : Prop :=
  G < B ∧ B ≤ w.heap.size ∧ (∀ j, j < m → w.cell? ⟨G, j, none⟩ = some (V j)) ∧ (∀ j, w.frozen? ⟨G, j, none⟩ = false) ∧ (∀ j, j < m → Ow B w (V j) (L j)) ∧ ∀ i j, i < m → j < m → i ≠ j → Apart (V i) (V j)
theorem Grid.drewN {G B m : Nat} {w : World} {V : Nat → Value} {L : Nat → List Nat} (h : Grid G B m w V L) (n : Nat) : Grid G B m (w.drewN n) V L := h
theorem Ow.ne {B G : Nat} {w : World} {v : Value} {l : List Nat} (h : Ow B w v l) (hG : G < B) : some G ≠ v.ownBlock := fun e => by
  have := (World.ownsRow.lt h G e.symm).1; omega
/-- One of them grows: what it was is stored anew. -/
theorem Grid.step {G B m r : Nat} {w w1 : World} {V : Nat → Value} {L : Nat → List Nat} {v' : Value} {l' : List Nat} (h : Grid G B m w V L) (hr : r < m) (o : Ow B w1 v' l') (g : w.grownBy w1 (V r).ownBlock)
    (b : v'.ownBlock = (V r).ownBlock ∨ ∃ g, v'.ownBlock = some g ∧ w.heap.size ≤ g) :
    w1.cell? ⟨G, r, none⟩ = some (V r) ∧ w1.frozen? ⟨G, r, none⟩ = false ∧
      Grid G B m (w1.setCell ⟨G, r, none⟩ v') (fun j => if j = r then v' else V j) (fun j => if j = r then l' else L j) := by
  obtain ⟨h1, h2, h3, h4, h5, h6⟩ := h
  have hsz := g.size
  have hne := (h5 r hr).ne h1
  have hblk : w1.heap[G]? = w.heap[G]? := g.block G (by omega) hne
  have hG1 : (w1.setCell ⟨G, r, none⟩ v').heap.size = w1.heap.size := by simp [World.setCell]
  have own : ∀ v l, Ow B w1 v l → Ow B (w1.setCell ⟨G, r, none⟩ v') v l := fun v l ho => by
    rcases ho.cases with ⟨rfl, rfl⟩ | ⟨g', cap, rfl, hb, hR⟩
    · exact Ow.nil _ _
    · exact Ow.of_row (hR.kept (Below.heap_setCell _ _ _ _ (by simp; omega))) hb
  refine ⟨(World.cell?_of_block (a := ⟨G, r, none⟩) hblk).trans (h3 r hr), (World.frozen?_of_block (a := ⟨G, r, none⟩) hblk).trans (h4 r), h1, by rw [hG1]; omega, fun j hj => ?_, fun j => ?_, fun j hj => ?_, fun i j hi hj hij => ?_⟩
  · by_cases e : j = r
    · subst e
      simp only [if_pos]
      exact World.cell?_setCell_same _ _ _ (by rw [World.cell?_of_block (a := ⟨G, j, none⟩) hblk, h3 j hj])
    · simp only [if_neg e]
      rw [World.cell?_setCell_other _ _ _ _ (by simp [e]), World.cell?_of_block (a := ⟨G, j, none⟩) hblk]
      exact h3 j hj
  · have := (World.frozen?_of_block (a := ⟨G, j, none⟩) hblk).trans (h4 j)
    simpa using this
  · by_cases e : j = r
    · subst e; simp only [if_pos]; exact own _ _ o
    · simp only [if_neg e]
      exact own _ _ ((h5 j hj).kept' g (h6 j r hj hr e))
  · by_cases ei : i = r
    · subst ei
      have ej : ¬ j = i := fun e => hij e.symm
      simp only [if_pos, if_neg ej]
      exact ((h6 j i hj hi ej).grown (h5 j hj) b).symm
    · by_cases ej : j = r
      · subst ej
        simp only [if_pos, if_neg ei]
        exact (h6 i j hi hj ei).grown (h5 i hi) b
      · simp only [if_neg ei, if_neg ej]
        exact h6 i j hi hj hij
theorem Grid.on {G B m : Nat} {w w' : World} {V : Nat → Value} {L : Nat → List Nat} (h : Grid G B m w V L) (k : On w w') : Grid G B m w' V L := by
  obtain ⟨h1, h2, h3, h4, h5, h6⟩ := h
  have hs := k.size
  have hb : w'.heap[G]? = w.heap[G]? := k.2.block G (by omega)
  exact ⟨h1, by omega, fun j hj => (World.cell?_of_block (a := ⟨G, j, none⟩) hb).trans (h3 j hj), fun j => (World.frozen?_of_block (a := ⟨G, j, none⟩) hb).trans (h4 j), fun j hj => (h5 j hj).on k, h6⟩
theorem Grid.eq {G B m : Nat} {w : World} {V V' : Nat → Value} {L L' : Nat → List Nat} (h : Grid G B m w V L) (e : ∀ j, V' j = V j) (e2 : ∀ j, j < m → L' j = L j) : Grid G B m w V' L' := by
  obtain ⟨h1, h2, h3, h4, h5, h6⟩ := h
  exact ⟨h1, h2, fun j hj => by rw [e]; exact h3 j hj, h4, fun j hj => by rw [e, e2 j hj]; exact h5 j hj, fun i j hi hj hij => by rw [e, e]; exact h6 i j hi hj hij⟩
theorem step_append2 {P : Program} {w w' : World} {ops : Array Oper} {o : Oper} {a : Act} {K : Act → World → Prop} {Q : Exit → Act → World → Prop} {E : Prop} (hgd : o.guard = none) (s x : Operand) (t u : TypeId)
    (ho : o.op = .call { callee := .builtin .append, args := #[s, x], argTypes := #[t, u] }) (vs vx v' : Value) (hs : a.eval s = vs) (hx : a.eval x = vx) (hrun : ∀ ty, (Builtin.append_ #[t, u] ty #[vs, vx]).run P w = .ok v' w')
    (h : K (a.put o.dst v') w') : if Region.wanted o (yielded ops a.tmps) = true then Oper.wp P o a w K Q else E := by
  have hw : Region.wanted o (yielded ops a.tmps) = true := by unfold Region.wanted; rw [hgd]
  rw [if_pos hw]
  unfold Oper.wp execOp
  simp only [ho, resolve, invoke, builtin, Sem.run_bind, Sem.run_pure, Result.andThen_ok, List.map_toArray, List.map_cons, List.map_nil, hs, hx, hrun]
  exact h
end Go.Proofs.YtiipgbobgeejmaaDoor
