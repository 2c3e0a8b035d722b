/- A list of lists of digests that is grown by append; a tree's memory. -/
import Derived.Test.YtnmfneeojnmebaaDoorYup
namespace Go.Proofs.YtnmfneeojnmebaaDoor
open Go.RowKit
set_option linter.unusedVariables false

theorem run_append_nil_z {P : Program} (w : World) (t u ty e : TypeId) (i : TypeInfo) (z : Value) (ht : P.underlying t = some (.slice e)) (hu : P.underlying u = some (.slice e)) (hi : P.info? e = some i) (hz : i.zero = some z)
    (a : Addr) (n c : Nat) (news : List Value) (hl : news.length = n * i.size) (hnews : ∀ j v, news[j]? = some v → w.cell? (a.add j) = some v)
    (h0 : 0 < n) (h63 : (n : Int) ≤ 9223372036854775807) (h48 : n * i.bytes ≤ 281474976710656) :
    (Builtin.append_ #[t, u] ty #[.slice none 0 0, .slice (some a) n c]).run P w =
      .ok (.slice (some ⟨w.heap.size, 0, none⟩) n (grownCap w n 0 e)) (w.drew.alloc (.cells (news.toArray ++ Builtin.zeroCells z.cells (grownCap w n 0 e - n)) e)) := by
  have hn : n ≠ 0 := by omega
  have h63' : ¬ (9223372036854775807 < (n : Int)) := by omega
  have h48' : ¬ (281474976710656 < Builtin.nextslicecap n 0 * i.bytes) := by rw [nextslicecap_zero h0]; omega
  have hf := run_firstCells_some (P := P) w.drew i.size n a n c news hl (by simpa using hnews)
  simp [Builtin.append_, run_underlying ht, run_underlying hu, sizeOf, typeInfo, zeroValue, hi, hz, Builtin.lenOf, hn, h63', h48', Question.forced, run_firstCells_none, hf, newRow, grownCap]
theorem run_append_none_z {P : Program} (w : World) (t u ty e : TypeId) (i : TypeInfo) (ht : P.underlying t = some (.slice e)) (hu : P.underlying u = some (.slice e)) (hi : P.info? e = some i) (oa : Option Addr) (c : Nat) :
    (Builtin.append_ #[t, u] ty #[.slice none 0 0, .slice oa 0 c]).run P w = .ok (.slice none 0 0) w := by
  cases oa <;> simp [Builtin.append_, run_underlying ht, run_underlying hu, sizeOf, typeInfo, hi, Builtin.lenOf, Builtin.firstCells, loadCells, loadCellsFrom]
theorem info_hdr : (Tryd.prog.info? 22).map (fun i => (i.zero, i.size, i.bytes)) = some (some (.slice none 0 0), 1, 24) := by kernel_rfl
theorem append_hdr {B : Nat} {w : World} {v : Value} {m : Nat} {Vs : List Value} (howna : w.ownsRow B 22 1 v m Vs) (hl : Vs.length = m) (hB : B ≤ w.heap.size) (hm : m ≤ 1000) (a : Option Addr) (n c : Nat) (C : Nat) (hC : C = w.heap.size) :
    ∃ v' w', (∀ ty, (Builtin.append_ #[24, 24] ty #[v, .slice (some ⟨C, 0, none⟩) 1 1]).run Tryd.prog (w.alloc (.cells #[.slice a n c] 22)) = .ok v' w') ∧ w'.ownsRow B 22 1 v' (m + 1) (Vs ++ [.slice a n c]) ∧ w.grownBy w' v.ownBlock := by
  subst hC
  obtain ⟨i0, hi, hz0, hz1, hz2⟩ := info_parts info_hdr
  obtain ⟨wa, hwa⟩ : ∃ wa, wa = w.alloc (.cells #[.slice a n c] 22) := ⟨_, rfl⟩
  have hga : w.grownBy wa none := by rw [hwa]; exact ⟨rfl, rfl, rfl, by simp, fun k hk _ => Below.heap_alloc w _ k hk⟩
  replace howna : wa.ownsRow B 22 1 v m Vs := by rw [hwa]; exact howna.alloc _
  have hsza : wa.heap.size = w.heap.size + 1 := by rw [hwa]; simp
  have hcell : ∀ j u, [Value.slice a n c][j]? = some u → wa.cell? ((⟨w.heap.size, 0, none⟩ : Addr).add j) = some u := fun j u hj => by
    rw [hwa]
    cases j with
    | zero => simp at hj; subst hj; exact World.cell?_alloc_at _ _ w.heap.size 0 rfl
    | succ j => simp at hj
  rw [← hwa]
  have key : ∃ v' w', (∀ ty, (Builtin.append_ #[24, 24] ty #[v, .slice (some ⟨w.heap.size, 0, none⟩) 1 1]).run Tryd.prog wa = .ok v' w') ∧ w'.ownsRow B 22 1 v' (m + 1) (Vs ++ [.slice a n c]) ∧ wa.grownBy w' v.ownBlock := by
    have hgr : ∀ (o : Obj) (row : Option Nat), wa.grownBy (wa.drew.alloc o) row := fun o row => ⟨rfl, rfl, rfl, by simp, fun k hk _ => Below.heap_alloc wa.drew _ k hk⟩
    have hmk : ∀ (old : Nat), (wa.drew.alloc (.cells (Vs.toArray ++ [Value.slice a n c].toArray ++ Builtin.zeroCells (Value.slice none 0 0).cells (grownCap wa (m + 1) old 22 - (m + 1))) 22)).ownsRow B 22 1 (.slice (some ⟨wa.heap.size, 0, none⟩) (m + 1) (grownCap wa (m + 1) old 22)) (m + 1) (Vs ++ [.slice a n c]) := fun old => by
      have hge := grownCap_ge wa (m + 1) old 22
      have hcm := grownCap_le_maxLen wa (m + 1) old 22 (by unfold maxLen; omega)
      generalize grownCap wa (m + 1) old 22 = cc at *
      refine ⟨by simp [hl], .inr ⟨wa.heap.size, cc, _, rfl, by omega, World.alloc_heap_new _ _, hge, hcm, ?_, ?_⟩⟩
      · simp only [Array.size_append, List.size_toArray, size_zeroCells]
        simp [Value.cells]; omega
      · have e2 : (m + 1) * 1 = (Vs ++ [Value.slice a n c]).length := by simp [hl]
        rw [e2]
        simp only [Array.toList_append, List.append_assoc]
        rw [← List.append_assoc]
        exact List.take_left
    rcases howna.2 with ⟨rfl, rfl⟩ | ⟨g, cap, cur, rfl, hb, hg, h1, h2, h3, h4⟩
    · obtain rfl : Vs = [] := List.length_eq_zero_iff.1 hl
      have hrun := fun ty => run_append_nil_z (P := Tryd.prog) wa 24 24 ty 22 i0 (.slice none 0 0) Tryd.underlying24 Tryd.underlying24 hi hz0 ⟨w.heap.size, 0, none⟩ 1 1 [.slice a n c] (by rw [hz1]; rfl) hcell (by omega) (by omega) (by rw [hz2]; omega)
      have := hmk 0
      have e0 : ([] : List Value).toArray ++ [Value.slice a n c].toArray = [Value.slice a n c].toArray := by simp
      rw [e0] at this
      exact ⟨_, _, hrun, this, hgr _ _⟩
    · by_cases hroom : m < cap
      · have hrun := fun ty => run_append_room (P := Tryd.prog) wa 24 ty 22 i0 Tryd.underlying24 hi g m cap cur hg ⟨w.heap.size, 0, none⟩ 1 1 [.slice a n c] (by rw [hz1]; rfl) hcell (by simp [Value.oneCell']) (by omega) (by rw [hz1]; simp; omega)
        refine ⟨_, _, hrun, ⟨by simp [hl], .inr ⟨g, cap, _, rfl, hb, setRow_heap _ g cur _ _ _ hg, by omega, h2, ?_, ?_⟩⟩, ?_⟩
        · rw [hz1]; simp; omega
        · rw [hz1, Nat.mul_one, Nat.mul_one]
          rw [Nat.mul_one] at h4
          have hl2 : (cur.toList.take m).length = m := by simp; omega
          rw [List.take_append_of_le_length (by simp; omega), List.take_of_length_le (by simp; omega), h4]
        · refine ⟨rfl, rfl, rfl, by simp, fun k hk hne => ?_⟩
          exact setRow_other _ g k _ (fun e => hne (by rw [e]; rfl))
      · have hrun := fun ty => run_append_grow (P := Tryd.prog) wa 24 ty 22 i0 (.slice none 0 0) Tryd.underlying24 hi hz0 ⟨g, 0, none⟩ m cap Vs (by rw [hl, hz1, Nat.mul_one])
          (fun j u hj => World.ownsRow.cells howna rfl j u hj)
          ⟨w.heap.size, 0, none⟩ 1 1 [.slice a n c] (by rw [hz1]; rfl) hcell (by omega) (by omega)
          (growslice_fits (by omega) (by rw [hz2]; omega))
        exact ⟨_, _, hrun, hmk cap, hgr _ _⟩
  obtain ⟨v', w', hrun, ho, hg⟩ := key
  exact ⟨v', w', hrun, ho, ⟨hg.os.trans hga.os, hg.tape.trans hga.tape, hg.output.trans hga.output, Nat.le_trans hga.size hg.size, fun k hk hne => (hg.block k (by omega) hne).trans (hga.block k hk (by simp))⟩⟩

/-- The slice v shows m levels, the j-th of which reads as F j. -/
def TR (w : World) (v : Value) (m : Nat) (F : Nat → List Dg) : Prop :=
  ∃ a cap, v = .slice a m cap ∧ m ≤ 4611686018427387903 ∧ ∀ j, j < m → ∃ b o u, a = some ⟨b, o, none⟩ ∧ w.cell? ⟨b, o + j, none⟩ = some u ∧ DR w u (F j)
theorem TR.on {w w' : World} {v : Value} {m : Nat} {F : Nat → List Dg} (h : TR w v m F) (k : On w w') : TR w' v m F := by
  obtain ⟨a, cap, h1, h0, h2⟩ := h
  refine ⟨a, cap, h1, h0, fun j hj => ?_⟩
  obtain ⟨b, o, u, h3, h4, h5⟩ := h2 j hj
  exact ⟨b, o, u, h3, by rw [k.cell (p := ⟨b, o + j, none⟩) (cell_size h4)]; exact h4, h5.on k⟩
theorem TR.shape {w : World} {v : Value} {m : Nat} {F : Nat → List Dg} (h : TR w v m F) : ∃ a cap, v = .slice a m cap := by
  obtain ⟨a, cap, h1, _⟩ := h
  exact ⟨a, cap, h1⟩
theorem TR.eq {w : World} {v : Value} {m : Nat} {F G : Nat → List Dg} (h : TR w v m F) (e : ∀ j, j < m → G j = F j) : TR w v m G := by
  obtain ⟨a, cap, h1, h0, h2⟩ := h
  refine ⟨a, cap, h1, h0, fun j hj => ?_⟩
  rw [e j hj]; exact h2 j hj
/-- The same, in memory from n0 on, which may be written. -/
def TM (n0 : Nat) (w : World) (v : Value) (m : Nat) (F : Nat → List Dg) : Prop :=
  ∃ g cap, v = .slice (some ⟨g, 0, none⟩) m cap ∧ n0 ≤ g ∧ g < w.heap.size ∧ (∀ j, w.frozen? ⟨g, j, none⟩ = false) ∧ ∀ j, j < m → ∃ B c, w.cell? ⟨g, j, none⟩ = some (.slice (some ⟨B, 0, none⟩) (F j).length c) ∧ n0 ≤ B ∧ B ≠ g ∧ DB B w (F j)
theorem TM.on {n0 : Nat} {w w' : World} {v : Value} {m : Nat} {F : Nat → List Dg} (h : TM n0 w v m F) (k : On w w') : TM n0 w' v m F := by
  obtain ⟨g, cap, h1, h2, h3, h4, h5⟩ := h
  refine ⟨g, cap, h1, h2, Nat.lt_of_lt_of_le h3 k.size, fun j => (k.frozen (p := ⟨g, j, none⟩) h3).trans (h4 j), fun j hj => ?_⟩
  obtain ⟨B, c, e1, e2, e3, e4⟩ := h5 j hj
  exact ⟨B, c, (k.cell (p := ⟨g, j, none⟩) h3).trans e1, e2, e3, e4.on k⟩
theorem TM.tr {n0 : Nat} {w : World} {v : Value} {m : Nat} {F : Nat → List Dg} (h : TM n0 w v m F) (hm : m ≤ 1000000) (hU : ∀ j, j < m → (∀ t, SmD ((F j).getD t zD)) ∧ (F j).length ≤ 1000000) : TR w v m F := by
  obtain ⟨g, cap, h1, h2, h3, h4, h5⟩ := h
  refine ⟨_, cap, h1, by omega, fun j hj => ?_⟩
  obtain ⟨B, c, e1, e2, e3, e4⟩ := h5 j hj
  exact ⟨g, 0, _, rfl, by rw [Nat.zero_add]; exact e1, e4.reads (fun t _ => (hU j hj).1 t) (by have := (hU j hj).2; omega) c⟩
end Go.Proofs.YtnmfneeojnmebaaDoor
