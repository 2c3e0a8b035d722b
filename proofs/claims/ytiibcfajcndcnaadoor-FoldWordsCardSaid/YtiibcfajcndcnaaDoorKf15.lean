/- Package poly: the parts of a polynomial: plain facts; the memory of a list of lists. -/
import Derived.Test.YtiibcfajcndcnaaDoorKf14
import Derived.Deep.RegionLaw
import Derived.Test.YtiibcfajcndcnaaDoorKf03
import Derived.Test.YtiibcfajcndcnaaDoorKf05
/- Package poly: the parts of a polynomial: plain facts; the memory of a list of lists. -/
namespace Go.Proofs.YtiibcfajcndcnaaDoor
open Go.RowKit
set_option linter.unusedVariables false

/-- The coefficients of the first k whose place is j modulo m. -/
def part (f : Int) (l : List Nat) (m k j : Nat) : List Nat := ((List.range k).filter fun i => i % m == j).map fun i => redF f (l.getD i 0)
theorem part_zero (f : Int) (l : List Nat) (m j : Nat) : part f l m 0 j = [] := rfl
theorem part_at (f : Int) (l : List Nat) (m k : Nat) : part f l m (k + 1) (k % m) = part f l m k (k % m) ++ [redF f (l.getD k 0)] := by
  unfold part; rw [List.range_succ, List.filter_append, List.map_append]; simp
theorem part_off (f : Int) (l : List Nat) (m k j : Nat) (h : k % m ≠ j) : part f l m (k + 1) j = part f l m k j := by
  unfold part; rw [List.range_succ, List.filter_append, List.map_append]; simp [h]
theorem part_le (f : Int) (l : List Nat) (m k j : Nat) : ∀ y ∈ part f l m k j, y ≤ 18446744073709551615 := fun y hy => by
  unfold part at hy
  obtain ⟨i, _, rfl⟩ := List.mem_map.1 hy
  have := redF_le f (l.getD i 0); omega
theorem part_len (f : Int) (l : List Nat) (m k j : Nat) : (part f l m k j).length ≤ k := by
  unfold part
  rw [List.length_map]
  have := List.length_filter_le (fun i => i % m == j) (List.range k)
  rwa [List.length_range] at this
/-- Block G holds the m slice values V, and may be written; each has grown since B, and no two share a block. -/
def Grid (G B m : Nat) (w : World) (V : Nat → Value) (L : Nat → List Nat) : Prop :=
  G < B ∧ B ≤ w.heap.size ∧ (∀ j, j < m → w.cell? ⟨G, j, none⟩ = some (V j)) ∧ (∀ j, w.frozen? ⟨G, j, none⟩ = false) ∧ (∀ j, j < m → Ow B w (V j) (L j)) ∧ ∀ i j, i < m → j < m → i ≠ j → Apart (V i) (V j)
theorem Grid.drewN {G B m : Nat} {w : World} {V : Nat → Value} {L : Nat → List Nat} (h : Grid G B m w V L) (n : Nat) : Grid G B m (w.drewN n) V L := h
theorem Ow.ne {B G : Nat} {w : World} {v : Value} {l : List Nat} (h : Ow B w v l) (hG : G < B) : some G ≠ v.ownBlock := fun e => by
  have := (World.ownsRow.lt h G e.symm).1; omega
/-- One of them grows: what it was is stored anew. -/
theorem Grid.step {G B m r : Nat} {w w1 : World} {V : Nat → Value} {L : Nat → List Nat} {v' : Value} {l' : List Nat} (h : Grid G B m w V L) (hr : r < m) (o : Ow B w1 v' l') (g : w.grownBy w1 (V r).ownBlock)
    (b : v'.ownBlock = (V r).ownBlock ∨ ∃ g, v'.ownBlock = some g ∧ w.heap.size ≤ g) :
    w1.cell? ⟨G, r, none⟩ = some (V r) ∧ w1.frozen? ⟨G, r, none⟩ = false ∧
      Grid G B m (w1.setCell ⟨G, r, none⟩ v') (fun j => if j = r then v' else V j) (fun j => if j = r then l' else L j) := by
  obtain ⟨h1, h2, h3, h4, h5, h6⟩ := h
  have hsz := g.size
  have hne := (h5 r hr).ne h1
  have hblk : w1.heap[G]? = w.heap[G]? := g.block G (by omega) hne
  have hG1 : (w1.setCell ⟨G, r, none⟩ v').heap.size = w1.heap.size := by simp [World.setCell]
  have own : ∀ v l, Ow B w1 v l → Ow B (w1.setCell ⟨G, r, none⟩ v') v l := fun v l ho => by
    rcases ho.cases with ⟨rfl, rfl⟩ | ⟨g', cap, rfl, hb, hR⟩
    · exact Ow.nil _ _
    · exact Ow.of_row (hR.kept (Below.heap_setCell _ _ _ _ (by simp; omega))) hb
  refine ⟨(World.cell?_of_block (a := ⟨G, r, none⟩) hblk).trans (h3 r hr), (World.frozen?_of_block (a := ⟨G, r, none⟩) hblk).trans (h4 r), h1, by rw [hG1]; omega, fun j hj => ?_, fun j => ?_, fun j hj => ?_, fun i j hi hj hij => ?_⟩
  · by_cases e : j = r
    · subst e
      simp only [if_pos]
      exact World.cell?_setCell_same _ _ _ (by rw [World.cell?_of_block (a := ⟨G, j, none⟩) hblk, h3 j hj])
    · simp only [if_neg e]
      rw [World.cell?_setCell_other _ _ _ _ (by simp [e]), World.cell?_of_block (a := ⟨G, j, none⟩) hblk]
      exact h3 j hj
  · have := (World.frozen?_of_block (a := ⟨G, j, none⟩) hblk).trans (h4 j)
    simpa using this
  · by_cases e : j = r
    · subst e; simp only [if_pos]; exact own _ _ o
    · simp only [if_neg e]
      exact own _ _ ((h5 j hj).kept' g (h6 j r hj hr e))
  · by_cases ei : i = r
    · subst ei
      have ej : ¬ j = i := fun e => hij e.symm
      simp only [if_pos, if_neg ej]
      exact ((h6 j i hj hi ej).grown (h5 j hj) b).symm
    · by_cases ej : j = r
      · subst ej
        simp only [if_pos, if_neg ei]
        exact (h6 i j hi hj ei).grown (h5 i hi) b
      · simp only [if_neg ei, if_neg ej]
        exact h6 i j hi hj hij
theorem Grid.on {G B m : Nat} {w w' : World} {V : Nat → Value} {L : Nat → List Nat} (h : Grid G B m w V L) (k : On w w') : Grid G B m w' V L := by
  obtain ⟨h1, h2, h3, h4, h5, h6⟩ := h
  have hs := k.size
  have hb : w'.heap[G]? = w.heap[G]? := k.2.block G (by omega)
  exact ⟨h1, by omega, fun j hj => (World.cell?_of_block (a := ⟨G, j, none⟩) hb).trans (h3 j hj), fun j => (World.frozen?_of_block (a := ⟨G, j, none⟩) hb).trans (h4 j), fun j hj => (h5 j hj).on k, h6⟩
theorem Grid.eq {G B m : Nat} {w : World} {V V' : Nat → Value} {L L' : Nat → List Nat} (h : Grid G B m w V L) (e : ∀ j, V' j = V j) (e2 : ∀ j, j < m → L' j = L j) : Grid G B m w V' L' := by
  obtain ⟨h1, h2, h3, h4, h5, h6⟩ := h
  exact ⟨h1, h2, fun j hj => by rw [e]; exact h3 j hj, h4, fun j hj => by rw [e, e2 j hj]; exact h5 j hj, fun i j hi hj hij => by rw [e, e]; exact h6 i j hi hj hij⟩
theorem step_append2 {P : Program} {w w' : World} {ops : Array Oper} {o : Oper} {a : Act} {K : Act → World → Prop} {Q : Exit → Act → World → Prop} {E : Prop} (hgd : o.guard = none) (s x : Operand) (t u : TypeId)
    (ho : o.op = .call { callee := .builtin .append, args := #[s, x], argTypes := #[t, u] }) (vs vx v' : Value) (hs : a.eval s = vs) (hx : a.eval x = vx) (hrun : ∀ ty, (Builtin.append_ #[t, u] ty #[vs, vx]).run P w = .ok v' w')
    (h : K (a.put o.dst v') w') : if Region.wanted o (yielded ops a.tmps) = true then Oper.wp P o a w K Q else E := by
  have hw : Region.wanted o (yielded ops a.tmps) = true := by unfold Region.wanted; rw [hgd]
  rw [if_pos hw]
  unfold Oper.wp execOp
  simp only [ho, resolve, invoke, builtin, Sem.run_bind, Sem.run_pure, Result.andThen_ok, List.map_toArray, List.map_cons, List.map_nil, hs, hx, hrun]
  exact h
end Go.Proofs.YtiibcfajcndcnaaDoor

/- A list of lists that is grown by append, whose lists lie in blocks of their own. -/
namespace Go.Proofs.YtiibcfajcndcnaaDoor
open Go.RowKit
set_option linter.unusedVariables false

theorem info_hdru : (Tryd.prog.info? 33).map (fun i => (i.zero, i.size, i.bytes)) = some (some (.slice none 0 0), 1, 24) := by kernel_rfl
theorem append_hdru {B : Nat} {w : World} {v : Value} {m : Nat} {Vs : List Value} (howna : w.ownsRow B 33 1 v m Vs) (hl : Vs.length = m) (hB : B ≤ w.heap.size) (hm : m ≤ 1000) (a : Option Addr) (n c : Nat) (C : Nat) (hC : C = w.heap.size) :
    ∃ v' w', (∀ ty, (Builtin.append_ #[38, 38] ty #[v, .slice (some ⟨C, 0, none⟩) 1 1]).run Tryd.prog (w.alloc (.cells #[.slice a n c] 33)) = .ok v' w') ∧ w'.ownsRow B 33 1 v' (m + 1) (Vs ++ [.slice a n c]) ∧ w.grownBy w' v.ownBlock ∧ (v'.ownBlock = v.ownBlock ∨ ∃ g, v'.ownBlock = some g ∧ w.heap.size ≤ g) := by
  subst hC
  obtain ⟨i0, hi, hz0, hz1, hz2⟩ := info_parts info_hdru
  obtain ⟨wa, hwa⟩ : ∃ wa, wa = w.alloc (.cells #[.slice a n c] 33) := ⟨_, rfl⟩
  have hga : w.grownBy wa none := by rw [hwa]; exact ⟨rfl, rfl, rfl, by simp, fun k hk _ => Below.heap_alloc w _ k hk⟩
  replace howna : wa.ownsRow B 33 1 v m Vs := by rw [hwa]; exact howna.alloc _
  have hsza : wa.heap.size = w.heap.size + 1 := by rw [hwa]; simp
  have hcell : ∀ j u, [Value.slice a n c][j]? = some u → wa.cell? ((⟨w.heap.size, 0, none⟩ : Addr).add j) = some u := fun j u hj => by
    rw [hwa]
    cases j with
    | zero => simp at hj; subst hj; exact World.cell?_alloc_at _ _ w.heap.size 0 rfl
    | succ j => simp at hj
  rw [← hwa]
  have key : ∃ v' w', (∀ ty, (Builtin.append_ #[38, 38] ty #[v, .slice (some ⟨w.heap.size, 0, none⟩) 1 1]).run Tryd.prog wa = .ok v' w') ∧ w'.ownsRow B 33 1 v' (m + 1) (Vs ++ [.slice a n c]) ∧ wa.grownBy w' v.ownBlock ∧ (v'.ownBlock = v.ownBlock ∨ ∃ g, v'.ownBlock = some g ∧ wa.heap.size ≤ g) := by
    have hgr : ∀ (o : Obj) (row : Option Nat), wa.grownBy (wa.drew.alloc o) row := fun o row => ⟨rfl, rfl, rfl, by simp, fun k hk _ => Below.heap_alloc wa.drew _ k hk⟩
    have hmk : ∀ (old : Nat), (wa.drew.alloc (.cells (Vs.toArray ++ [Value.slice a n c].toArray ++ Builtin.zeroCells (Value.slice none 0 0).cells (grownCap wa (m + 1) old 33 - (m + 1))) 33)).ownsRow B 33 1 (.slice (some ⟨wa.heap.size, 0, none⟩) (m + 1) (grownCap wa (m + 1) old 33)) (m + 1) (Vs ++ [.slice a n c]) := fun old => by
      have hge := grownCap_ge wa (m + 1) old 33
      have hcm := grownCap_le_maxLen wa (m + 1) old 33 (by unfold maxLen; omega)
      generalize grownCap wa (m + 1) old 33 = cc at *
      refine ⟨by simp [hl], .inr ⟨wa.heap.size, cc, _, rfl, by omega, World.alloc_heap_new _ _, hge, hcm, ?_, ?_⟩⟩
      · simp only [Array.size_append, List.size_toArray, size_zeroCells]
        simp [Value.cells]; omega
      · have e2 : (m + 1) * 1 = (Vs ++ [Value.slice a n c]).length := by simp [hl]
        rw [e2]
        simp only [Array.toList_append, List.append_assoc]
        rw [← List.append_assoc]
        exact List.take_left
    rcases howna.2 with ⟨rfl, rfl⟩ | ⟨g, cap, cur, rfl, hb, hg, h1, h2, h3, h4⟩
    · obtain rfl : Vs = [] := List.length_eq_zero_iff.1 hl
      have hrun := fun ty => run_append_nil3 (P := Tryd.prog) wa 38 38 ty 33 i0 (.slice none 0 0) Tryd.underlying38 Tryd.underlying38 hi hz0 ⟨w.heap.size, 0, none⟩ 1 1 [.slice a n c] (by rw [hz1]; rfl) hcell (by omega) (by omega) (by rw [hz2]; omega)
      have := hmk 0
      have e0 : ([] : List Value).toArray ++ [Value.slice a n c].toArray = [Value.slice a n c].toArray := by simp
      rw [e0] at this
      exact ⟨_, _, hrun, this, hgr _ _, .inr ⟨wa.heap.size, rfl, Nat.le_refl _⟩⟩
    · by_cases hroom : m < cap
      · have hrun := fun ty => run_append_room (P := Tryd.prog) wa 38 ty 33 i0 Tryd.underlying38 hi g m cap cur hg ⟨w.heap.size, 0, none⟩ 1 1 [.slice a n c] (by rw [hz1]; rfl) hcell (by simp [Value.oneCell']) (by omega) (by rw [hz1]; simp; omega)
        refine ⟨_, _, hrun, ⟨by simp [hl], .inr ⟨g, cap, _, rfl, hb, setRow_heap _ g cur _ _ _ hg, by omega, h2, ?_, ?_⟩⟩, ?_, .inl rfl⟩
        · rw [hz1]; simp; omega
        · rw [hz1, Nat.mul_one, Nat.mul_one]
          rw [Nat.mul_one] at h4
          have hl2 : (cur.toList.take m).length = m := by simp; omega
          rw [List.take_append_of_le_length (by simp; omega), List.take_of_length_le (by simp; omega), h4]
        · refine ⟨rfl, rfl, rfl, by simp, fun k hk hne => ?_⟩
          exact setRow_other _ g k _ (fun e => hne (by rw [e]; rfl))
      · have hrun := fun ty => run_append_grow (P := Tryd.prog) wa 38 ty 33 i0 (.slice none 0 0) Tryd.underlying38 hi hz0 ⟨g, 0, none⟩ m cap Vs (by rw [hl, hz1, Nat.mul_one])
          (fun j u hj => World.ownsRow.cells howna rfl j u hj)
          ⟨w.heap.size, 0, none⟩ 1 1 [.slice a n c] (by rw [hz1]; rfl) hcell (by omega) (by omega)
          (growslice_fits (by omega) (by rw [hz2]; omega))
        exact ⟨_, _, hrun, hmk cap, hgr _ _, .inr ⟨wa.heap.size, rfl, Nat.le_refl _⟩⟩
  obtain ⟨v', w', hrun, ho, hg, hbk⟩ := key
  exact ⟨v', w', hrun, ho, ⟨hg.os.trans hga.os, hg.tape.trans hga.tape, hg.output.trans hga.output, Nat.le_trans hga.size hg.size, fun k hk hne => (hg.block k (by omega) hne).trans (hga.block k hk (by simp))⟩, by
    rcases hbk with h | ⟨g, h, h'⟩
    · exact .inl h
    · exact .inr ⟨g, h, by omega⟩⟩

/-- v is a list of m lists, grown in memory from B on; its lists lie in blocks of their own. -/
def WB (B : Nat) (w : World) (v : Value) (m : Nat) (F : Nat → List Nat) : Prop :=
  ∃ Vs : List Value, Vs.length = m ∧ w.ownsRow B 33 1 v m Vs ∧ ∀ j, j < m → ∃ g, Vs[j]? = some (.slice (some ⟨g, 0, none⟩) (F j).length (F j).length) ∧ B ≤ g ∧ Blk g w (F j) ∧ ∀ h, v.ownBlock = some h → g ≠ h
theorem WB.shape {B : Nat} {w : World} {v : Value} {m : Nat} {F : Nat → List Nat} (h : WB B w v m F) : ∃ a cap, v = .slice a m cap := by
  obtain ⟨Vs, h1, h2, h3⟩ := h
  rcases h2.2 with ⟨rfl, rfl⟩ | ⟨g, cap, cur, rfl, _⟩
  · exact ⟨_, _, rfl⟩
  · exact ⟨_, _, rfl⟩
theorem WB.kept {B : Nat} {w w' : World} {v : Value} {m : Nat} {F : Nat → List Nat} (h : WB B w v m F) (hs : w.heap.size ≤ w'.heap.size) (hb : ∀ g, B ≤ g → g < w.heap.size → w'.heap[g]? = w.heap[g]?) : WB B w' v m F := by
  obtain ⟨Vs, h1, h2, h3⟩ := h
  refine ⟨Vs, h1, ⟨h2.1, ?_⟩, fun j hj => ?_⟩
  · rcases h2.2 with h | ⟨g, cap, cur, rfl, hB, hg, h4⟩
    · exact .inl h
    · exact .inr ⟨g, cap, cur, rfl, hB, (hb g hB (Array.getElem?_eq_some_iff.1 hg).1).trans hg, h4⟩
  · obtain ⟨g, e1, e2, e3, e4⟩ := h3 j hj
    exact ⟨g, e1, e2, e3.kept hs (hb g e2 e3.1), e4⟩
theorem WB.on {B : Nat} {w w' : World} {v : Value} {m : Nat} {F : Nat → List Nat} (h : WB B w v m F) (k : On w w') : WB B w' v m F := h.kept k.size fun g _ hg => k.2.block g hg
theorem WB.drewN {B : Nat} {w : World} {v : Value} {m : Nat} {F : Nat → List Nat} (h : WB B w v m F) (n : Nat) : WB B (w.drewN n) v m F := h.kept (Nat.le_refl _) fun _ _ _ => rfl
theorem WB.other {B : Nat} {w : World} {v : Value} {m : Nat} {F : Nat → List Nat} (h : WB B w v m F) (p : Addr) (hp : p.block < B) (u : Value) : WB B (w.setCell p u) v m F :=
  h.kept (by simp [World.setCell]) fun g hg _ => Below.heap_setCell _ _ _ _ (by omega)
theorem WB.lt {B : Nat} {w : World} {v : Value} {m : Nat} {F : Nat → List Nat} (h : WB B w v m F) : ∀ g, v.ownBlock = some g → B ≤ g ∧ g < w.heap.size := by
  obtain ⟨Vs, h1, h2, h3⟩ := h
  exact World.ownsRow.lt h2
/-- The cell of a list in the list of lists, and the list. -/
theorem WB.at {B : Nat} {w : World} {a : Option Addr} {m cap : Nat} {F : Nat → List Nat} (h : WB B w (.slice a m cap) m F) (j : Nat) (hj : j < m) : ∃ b g, a = some ⟨b, 0, none⟩ ∧ B ≤ b ∧ B ≤ g ∧ g ≠ b ∧ w.cell? ⟨b, j, none⟩ = some (.slice (some ⟨g, 0, none⟩) (F j).length (F j).length) ∧ Blk g w (F j) := by
  obtain ⟨Vs, h1, h2, h3⟩ := h
  obtain ⟨g, e1, e2, e3, e4⟩ := h3 j hj
  have hlt := World.ownsRow.lt h2
  rcases h2.2 with ⟨e, rfl⟩ | ⟨b, cap', cur, e, hB, hg, h5, h6, h7⟩
  · simp only [Value.slice.injEq] at e; omega
  · simp only [Value.slice.injEq] at e
    obtain ⟨rfl, -, rfl⟩ := e
    refine ⟨b, g, rfl, hB, e2, e4 b rfl, ?_, e3⟩
    have := World.ownsRow.cellAt h2 j (by omega)
    rw [this, e1]
theorem WB.new (B : Nat) (w : World) (g n : Nat) (F : Nat → List Nat) (hB : B ≤ w.heap.size) (hg : B ≤ g) (hn : (F 0).length = n) (hb : Blk g w (F 0)) (C : Nat) (hC : C = w.heap.size) : WB B (w.alloc (.cells #[.slice (some ⟨g, 0, none⟩) n n] 33)) (.slice (some ⟨C, 0, none⟩) 1 1) 1 F := by
  subst hC
  have hgl := hb.1
  refine ⟨[.slice (some ⟨g, 0, none⟩) n n], rfl, ⟨rfl, .inr ⟨w.heap.size, 1, _, rfl, hB, World.alloc_heap_new _ _, Nat.le_refl _, by unfold maxLen; omega, by simp, by simp⟩⟩, fun j hj => ?_⟩
  obtain rfl : j = 0 := by omega
  refine ⟨g, by rw [hn]; rfl, hg, hb.kept (by simp) (by rw [Below.heap_alloc w _ g hgl]), fun h e => ?_⟩
  simp [Value.ownBlock] at e
  omega
theorem WB.append {B : Nat} {w : World} {v : Value} {m : Nat} {F : Nat → List Nat} (h : WB B w v m F) (hB : B ≤ w.heap.size) (hm : m ≤ 1000) (g n : Nat) (hg : B ≤ g) (hn : (F m).length = n) (hb : Blk g w (F m)) (hne : ∀ h, v.ownBlock = some h → g ≠ h) (C : Nat) (hC : C = w.heap.size) :
    ∃ a' c' w', (∀ ty, (Builtin.append_ #[38, 38] ty #[v, .slice (some ⟨C, 0, none⟩) 1 1]).run Tryd.prog (w.alloc (.cells #[.slice (some ⟨g, 0, none⟩) n n] 33)) = .ok (.slice a' (m + 1) c') w') ∧
      WB B w' (.slice a' (m + 1) c') (m + 1) F ∧ w.grownBy w' v.ownBlock := by
  obtain ⟨Vs, h1, h2, h3⟩ := h
  obtain ⟨v', w', hrun, ho, hgw, hbk⟩ := append_hdru h2 h1 hB hm (some ⟨g, 0, none⟩) n n C hC
  obtain ⟨a', c', rfl⟩ : ∃ a' c', v' = .slice a' (m + 1) c' := by
    rcases ho.2 with ⟨rfl, h⟩ | ⟨g, cap, cur, rfl, _⟩
    · omega
    · exact ⟨_, _, rfl⟩
  have one : ∀ q l, Blk q w l → (∀ h, v.ownBlock = some h → q ≠ h) → Blk q w' l ∧ ∀ h, (Value.slice a' (m + 1) c').ownBlock = some h → q ≠ h := fun q l hq hnq => by
    refine ⟨hq.kept hgw.size (hgw.block q hq.1 fun e => hnq q e.symm rfl), fun h e => ?_⟩
    rcases hbk with hk | ⟨h', hk, hge⟩
    · exact hnq h (hk ▸ e)
    · rw [hk] at e
      simp at e; subst e
      have := hq.1
      omega
  refine ⟨a', c', w', hrun, ⟨Vs ++ [.slice (some ⟨g, 0, none⟩) n n], by simp [h1], ho, fun j hj => ?_⟩, hgw⟩
  by_cases hjm : j < m
  · obtain ⟨q, e1, e2, e3, e4⟩ := h3 j hjm
    obtain ⟨o1, o2⟩ := one q _ e3 e4
    exact ⟨q, by rw [List.getElem?_append_left (by omega)]; exact e1, e2, o1, o2⟩
  · obtain rfl : j = m := by omega
    obtain ⟨o1, o2⟩ := one g _ hb hne
    exact ⟨g, by rw [List.getElem?_append_right (by omega), h1, Nat.sub_self, hn]; rfl, hg, o1, o2⟩
theorem On.grownWB {B m : Nat} {F : Nat → List Nat} {W w w' : World} {v : Value} (h : On W w) (hB : W.heap.size ≤ B) (ho : WB B w v m F) (k : w.grownBy w' v.ownBlock) : On W w' :=
  ⟨h.1, h.2.grown k h.2.size fun j hj => by have := (ho.lt j hj).1; omega⟩
end Go.Proofs.YtiibcfajcndcnaaDoor

/- Plain numbers: the parts of a polynomial, and the sum of their values. -/
namespace Go.Proofs.YtiibcfajcndcnaaDoor
set_option linter.unusedVariables false

/-- Lengths and places of the parts. -/
theorem f_part_iff (f : Int) (l : List Nat) (m : Nat) (hm : 0 < m) : ∀ (k j : Nat), j < m → ∀ i, i < (part f l m k j).length ↔ i * m + j < k := by
  intro k
  induction k with
  | zero => intro j hj i; rw [part_zero]; simp
  | succ k ih =>
    intro j hj i
    have hk := Nat.div_add_mod k m
    rw [Nat.mul_comm] at hk
    have hr := Nat.mod_lt k hm
    by_cases e : k % m = j
    · rw [← e, part_at, List.length_append, List.length_singleton]
      have hlen : (part f l m k (k % m)).length = k / m := by
        refine Nat.le_antisymm (Nat.le_of_not_lt fun h => ?_) (Nat.le_of_not_lt fun h => ?_)
        · have := (ih (k % m) hr (k / m)).1 h; omega
        · have h2 := mt (ih (k % m) hr (part f l m k (k % m)).length).2 (Nat.lt_irrefl _)
          have h3 : (part f l m k (k % m)).length * m + m ≤ k / m * m := by rw [← Nat.succ_mul]; exact Nat.mul_le_mul_right _ h
          omega
      rw [hlen]
      constructor
      · intro h
        have : i * m ≤ k / m * m := Nat.mul_le_mul_right _ (by omega)
        omega
      · intro h
        refine Nat.lt_of_not_le fun h2 => ?_
        have : (k / m + 1) * m ≤ i * m := Nat.mul_le_mul_right _ h2
        rw [Nat.succ_mul] at this
        omega
    · rw [part_off f l m k j e, ih j hj i]
      constructor
      · omega
      · intro h
        refine Nat.lt_of_le_of_ne (by omega) fun h2 => e ?_
        rw [← h2, Nat.mul_comm, Nat.mul_add_mod, Nat.mod_eq_of_lt hj]
theorem f_part_lenr (f : Int) (l : List Nat) (m k : Nat) (hm : 0 < m) : (part f l m k (k % m)).length = k / m := by
  have hk := Nat.div_add_mod k m
  rw [Nat.mul_comm] at hk
  have hr := Nat.mod_lt k hm
  refine Nat.le_antisymm (Nat.le_of_not_lt fun h => ?_) (Nat.le_of_not_lt fun h => ?_)
  · have := (f_part_iff f l m hm k _ hr (k / m)).1 h; omega
  · have h2 := mt (f_part_iff f l m hm k _ hr (part f l m k (k % m)).length).2 (Nat.lt_irrefl _)
    have h3 : (part f l m k (k % m)).length * m + m ≤ k / m * m := by rw [← Nat.succ_mul]; exact Nat.mul_le_mul_right _ h
    omega
theorem f_getD_snoc (l : List Nat) (c i : Nat) : (l ++ [c]).getD i 0 = if i < l.length then l.getD i 0 else if i = l.length then c else 0 := by
  rw [List.getD_eq_getElem?_getD, List.getElem?_append]
  split
  · rw [List.getD_eq_getElem?_getD]
  · by_cases e : i = l.length
    · subst e; simp
    · rw [if_neg e, List.getElem?_eq_none (by simp; omega)]; rfl
theorem f_part_getD (f : Int) (l : List Nat) (m : Nat) (hm : 0 < m) : ∀ (k j : Nat), j < m → ∀ i, (part f l m k j).getD i 0 = if i * m + j < k then redF f (l.getD (i * m + j) 0) else 0 := by
  intro k
  induction k with
  | zero => intro j hj i; rw [part_zero, if_neg (by omega)]; rfl
  | succ k ih =>
    intro j hj i
    have hk := Nat.div_add_mod k m
    rw [Nat.mul_comm] at hk
    by_cases e : k % m = j
    · rw [← e, part_at, f_getD_snoc, f_part_lenr f l m k hm]
      by_cases h1 : i < k / m
      · have h2 : (i + 1) * m ≤ k / m * m := Nat.mul_le_mul_right _ h1
        rw [Nat.succ_mul] at h2
        have := Nat.mod_lt k hm
        rw [if_pos h1, ih _ (Nat.mod_lt k hm), if_pos (by omega), if_pos (by omega)]
      · rw [if_neg h1]
        by_cases h2 : i = k / m
        · rw [if_pos h2, h2, hk, if_pos (by omega)]
        · have h3 : (k / m + 1) * m ≤ i * m := Nat.mul_le_mul_right _ (by omega)
          rw [Nat.succ_mul] at h3
          have := Nat.mod_lt k hm
          rw [if_neg h2, if_neg (by omega)]
    · rw [part_off f l m k j e, ih j hj i]
      have hne : i * m + j ≠ k := fun h2 => e (by rw [← h2, Nat.mul_comm, Nat.mul_add_mod, Nat.mod_eq_of_lt hj])
      by_cases h : i * m + j < k
      · rw [if_pos h, if_pos (by omega)]
      · rw [if_neg h, if_neg (by omega)]
theorem f_E_snoc (c x : Nat) : ∀ l : List Nat, E (l ++ [c]) x = E l x + c * x ^ l.length := by
  intro l
  induction l with
  | nil => show c + x * 0 = 0 + c * x ^ 0; simp
  | cons d l ih =>
    show d + x * E (l ++ [c]) x = d + x * E l x + c * x ^ (l.length + 1)
    rw [ih, Nat.pow_succ, Nat.mul_add, Nat.add_assoc]; congr 2; ac_rfl
theorem f_sum_parts (f : Int) (l : List Nat) (m x : Nat) (hm : 0 < m) : ∀ k, S (fun j => x ^ j * E (part f l m k j) (x ^ m)) m = E ((List.range k).map fun i => redF f (l.getD i 0)) x := by
  intro k
  induction k with
  | zero => exact S_zero fun j _ => by rw [part_zero]; rfl
  | succ k ih =>
    have hr := Nat.mod_lt k hm
    have e : S (fun j => x ^ j * E (part f l m (k + 1) j) (x ^ m)) m = S (fun j => x ^ j * E (part f l m k j) (x ^ m) + (if j = k % m then redF f (l.getD k 0) * x ^ k else 0)) m := S_ext fun j hj => by
      by_cases e : k % m = j
      · rw [if_pos e.symm, ← e, part_at, f_E_snoc, f_part_lenr f l m k hm, Nat.mul_add, ← Nat.pow_mul]
        congr 1
        have hk := Nat.div_add_mod k m
        rw [Nat.mul_left_comm, ← Nat.pow_add, Nat.add_comm, hk]
      · rw [part_off f l m k j e, if_neg (fun h => e h.symm), Nat.add_zero]
    rw [e, S_add, ih, S_one hr (fun i _ hne => if_neg hne), if_pos rfl, List.range_succ, List.map_append, List.map_singleton, f_E_snoc]
    simp
/-- The sum over the first parts. -/
def sumFP (f : Int) (l : List Nat) (m x : Nat) : Nat → Nat
  | 0 => 0
  | j + 1 => addF f (sumFP f l m x j) (mulF f (powF f x j) (evF f (strip (part f l m (normF f l).length j)) (powF f x m)))
theorem f_sumP_le (f : Int) (l : List Nat) (m x j : Nat) : sumFP f l m x j ≤ 998244353 := by
  cases j with
  | zero => exact Nat.zero_le _
  | succ j => exact addF_le _ _ _
theorem f_sumP_val {f : Int} (hv : validB f = true) (l : List Nat) (m x : Nat) (hm : 0 < m) : sumFP f l m x m = evF f l x := by
  have hp := (valid_iff f).1 hv
  have h : ∀ j, sumFP f l m x j = S (fun i => x ^ i * E (part f l m (normF f l).length i) (x ^ m)) j % pOf f := by
    intro j
    induction j with
    | zero => unfold sumFP S; simp
    | succ j ih =>
      unfold sumFP
      rw [ih, evF_strip, evF_pos _ _ hp, E_mod (pOf f) (part f l m (normF f l).length j) (part f l m (normF f l).length j) (powF f x m) (x ^ m) (fun _ => rfl) (by rw [powF_pos _ _ _ hp, Nat.mod_mod]),
        addF_modL, mulF_modR, powF_pos _ _ _ hp, mulF_modL, addF_pos _ _ _ hp, mulF_pos _ _ _ hp, Nat.add_mod_mod]
      rfl
  rw [h m, f_sum_parts f l m x hm, ← evF_norm, evF_pos _ _ hp]
  refine E_mod _ _ _ _ _ (fun k => ?_) rfl
  rw [getD_range, normF_getD]
  split
  · rfl
  · rw [← normF_getD, getD_over (by omega)]
end Go.Proofs.YtiibcfajcndcnaaDoor
