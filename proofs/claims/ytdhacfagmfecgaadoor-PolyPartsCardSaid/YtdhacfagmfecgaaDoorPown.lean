/- Package poly: lists that a law grows by append. -/
import Derived.Test.YtdhacfagmfecgaaDoorPworks
import Derived.Test.YtdhacfagmfecgaaDoorProtm
namespace Go.Proofs.YtdhacfagmfecgaaDoor
open Go.RowKit
set_option linter.unusedVariables false

/-- v is a list that was grown in memory from B on: nothing yet, or a whole block. -/
def Ow (B : Nat) (w : World) (v : Value) (l : List Nat) : Prop := w.ownsRow B 23 1 v l.length (nums l)
theorem Ow.nil (B : Nat) (w : World) : Ow B w (.slice none 0 0) [] := World.ownsRow_nil w B 23 1
theorem Ow.cases {B : Nat} {w : World} {v : Value} {l : List Nat} (h : Ow B w v l) : (l = [] ∧ v = .slice none 0 0) ∨ ∃ g cap, v = .slice (some ⟨g, 0, none⟩) l.length cap ∧ B ≤ g ∧ Row g cap w l := by
  rcases h.2 with ⟨rfl, h0⟩ | ⟨g, cap, cur, rfl, hb, hg, h1, h2, h3, h4⟩
  · exact .inl ⟨List.length_eq_zero_iff.1 h0, rfl⟩
  · exact .inr ⟨g, cap, rfl, hb, Row.mk hg h1 h2 (by simpa using h3) (by simpa using h4)⟩
theorem Ow.of_row {B g cap : Nat} {w : World} {l : List Nat} (h : Row g cap w l) (hb : B ≤ g) : Ow B w (.slice (some ⟨g, 0, none⟩) l.length cap) l := by
  obtain ⟨cur, hg, h1, h2, h3, h4⟩ := h.cur
  exact ⟨by rw [nums_len, Nat.mul_one], .inr ⟨g, cap, cur, rfl, hb, hg, h1, h2, by simpa using h3, by simpa using h4⟩⟩
theorem Ow.reads {B : Nat} {w : World} {v : Value} {l : List Nat} (h : Ow B w v l) (hU : ∀ x ∈ l, x ≤ 18446744073709551615) : Reads w v l := by
  rcases h.cases with ⟨rfl, rfl⟩ | ⟨g, cap, rfl, _, hR⟩
  · exact Reads.nil _ _ _
  · have := hR.lt
    exact hR.blk.reads hU (by omega) _
theorem Ow.shape {B : Nat} {w : World} {v : Value} {l : List Nat} (h : Ow B w v l) : ∃ a cap, v = .slice a l.length cap := by
  rcases h.cases with ⟨rfl, rfl⟩ | ⟨g, cap, rfl, _, hR⟩
  · exact ⟨_, _, rfl⟩
  · exact ⟨_, _, rfl⟩
theorem Ow.on {B : Nat} {w w' : World} {v : Value} {l : List Nat} (h : Ow B w v l) (k : On w w') : Ow B w' v l := by
  rcases h.cases with ⟨rfl, rfl⟩ | ⟨g, cap, rfl, hb, hR⟩
  · exact Ow.nil _ _
  · exact Ow.of_row (hR.on k) hb
theorem Ow.drewN {B : Nat} {w : World} {v : Value} {l : List Nat} (h : Ow B w v l) (n : Nat) : Ow B (w.drewN n) v l := h
theorem Ow.kept {B : Nat} {w w' : World} {v u : Value} {l : List Nat} (h : Ow B w v l) (hg : w.grownBy w' u.ownBlock) (hne : v.ownBlock = none ∨ v.ownBlock ≠ u.ownBlock) : Ow B w' v l := World.ownsRow.kept h hg hne
theorem On.grown {B : Nat} {W w w' : World} {v : Value} {l : List Nat} (h : On W w) (hB : W.heap.size ≤ B) (ho : Ow B w v l) (k : w.grownBy w' v.ownBlock) : On W w' :=
  ⟨h.1, h.2.grown k h.2.size fun j hj => by have := (ho.lt j hj).1; omega⟩
theorem Reads.grown {B : Nat} {W w w' : World} {v u : Value} {l m : List Nat} (h : Reads W u m) (hW : On W w) (hB : W.heap.size ≤ B) (ho : Ow B w v l) (k : w.grownBy w' v.ownBlock) : Reads w' u m := h.on (hW.grown hB ho k)
theorem grown_row (w : World) (l : List Nat) (x n old : Nat) (C : Nat) (hC : C = w.heap.size) (hn : n = l.length + 1) (hl : l.length ≤ 100000) :
    Row (C + 1) (grownCap (w.alloc (.cells #[.int .u64 (x : Int)] 23)) n old 23)
      ((w.alloc (.cells #[.int .u64 (x : Int)] 23)).drew.alloc (.cells ((nums l).toArray ++ [Value.int .u64 (x : Int)].toArray ++ Builtin.zeroCells (Value.int .u64 0).cells (grownCap (w.alloc (.cells #[.int .u64 (x : Int)] 23)) n old 23 - n)) 23)) (l ++ [x]) := by
  subst hC hn
  have hge := grownCap_ge (w.alloc (.cells #[.int .u64 (x : Int)] 23)) (l.length + 1) old 23
  have hcm := grownCap_le_maxLen (w.alloc (.cells #[.int .u64 (x : Int)] 23)) (l.length + 1) old 23 (by unfold maxLen; omega)
  generalize grownCap (w.alloc (.cells #[.int .u64 (x : Int)] 23)) (l.length + 1) old 23 = c at *
  have hs : (w.alloc (.cells #[.int .u64 (x : Int)] 23)).drew.heap.size = w.heap.size + 1 := by simp
  refine Row.mk (by rw [← hs]; exact heap_alloc_new _ _) (by simp; omega) hcm ?_ ?_
  · simp only [Array.size_append, List.size_toArray, size_zeroCells, nums_len]
    simp [Value.cells]; omega
  · have e : nums (l ++ [x]) = nums l ++ [Value.int .u64 (x : Int)] := by unfold nums; rw [List.map_append]; rfl
    have e2 : (l ++ [x]).length = (nums l ++ [Value.int .u64 (x : Int)]).length := by simp [nums_len]
    rw [e, e2]
    simp only [Array.toList_append, List.append_assoc]
    rw [← List.append_assoc]
    exact List.take_left
theorem append_own (B x : Nat) (X : Int) (hX : X = (x : Int)) (l : List Nat) (v : Value) (w : World) (C : Nat) (hC : C = w.heap.size) (h : Ow B w v l) (hB : B ≤ w.heap.size) (hl : l.length ≤ 100000) :
    ∃ v' w', (∀ ty, (Builtin.append_ #[22, 22] ty #[v, .slice (some ⟨C, 0, none⟩) 1 1]).run Tryd.prog (w.alloc (.cells #[.int .u64 X] 23)) = .ok v' w') ∧
      Ow B w' v' (l ++ [x]) ∧ w.grownBy w' v.ownBlock ∧ (v'.ownBlock = v.ownBlock ∨ ∃ g, v'.ownBlock = some g ∧ w.heap.size ≤ g) := by
  subst hX hC
  obtain ⟨i0, hi, hz0, hz1, hz2⟩ := info_parts info_u64
  have hcell : ∀ j u, [Value.int .u64 (x : Int)][j]? = some u → (w.alloc (.cells #[.int .u64 (x : Int)] 23)).cell? ((⟨w.heap.size, 0, none⟩ : Addr).add j) = some u := fun j u hj => by
    cases j with
    | zero => simp at hj; subst hj; exact World.cell?_alloc_at _ _ w.heap.size 0 rfl
    | succ j => simp at hj
  have hs : (w.alloc (.cells #[.int .u64 (x : Int)] 23)).heap.size = w.heap.size + 1 := by simp
  have hgr : ∀ (o : Obj) (row : Option Nat), w.grownBy ((w.alloc (.cells #[.int .u64 (x : Int)] 23)).drew.alloc o) row := fun o row =>
    ⟨rfl, rfl, rfl, by simp; omega, fun k hk _ => by
      rw [Below.heap_alloc _ _ k (by simp; omega)]
      exact Below.heap_alloc w _ k hk⟩
  rcases h.cases with ⟨rfl, rfl⟩ | ⟨g, cap, rfl, hb, hR⟩
  · have hrun := fun ty => run_append_nil3 (P := Tryd.prog) (w.alloc (.cells #[.int .u64 (x : Int)] 23)) 22 22 ty 23 i0 (.int .u64 0) Tryd.underlying22 Tryd.underlying22 hi hz0 ⟨w.heap.size, 0, none⟩ 1 1 [.int .u64 (x : Int)] (by rw [hz1]; rfl) hcell (by omega) (by omega) (by rw [hz2]; omega)
    have hrow := grown_row w [] x 1 0 w.heap.size rfl rfl (by simp)
    have e0 : (nums []).toArray ++ [Value.int .u64 (x : Int)].toArray = [Value.int .u64 (x : Int)].toArray := by simp [nums]
    rw [e0] at hrow
    rw [hs] at hrun
    exact ⟨_, _, hrun, Ow.of_row hrow (by omega), hgr _ _, .inr ⟨w.heap.size + 1, rfl, by omega⟩⟩
  · have hlc := hR.lt
    by_cases hroom : l.length < cap
    · obtain ⟨w1, hrun, hR1, hA⟩ := append_room g cap x w.heap.size l.length (l.length + 1) (x : Int) rfl l w hR hroom rfl rfl rfl
      have := Ow.of_row hR1 hb
      rw [List.length_append] at this
      exact ⟨_, _, hrun, this, hA, .inl rfl⟩
    · have hblk := hR.blk
      have hrun := fun ty => run_append_grow (P := Tryd.prog) (w.alloc (.cells #[.int .u64 (x : Int)] 23)) 22 ty 23 i0 (.int .u64 0) Tryd.underlying22 hi hz0 ⟨g, 0, none⟩ l.length cap (nums l) (by rw [nums_len, hz1, Nat.mul_one])
        (fun j u hj => by
          have hj' : j < l.length := by have := (List.getElem?_eq_some_iff.1 hj).1; rwa [nums_len] at this
          rw [nums_get _ _ hj'] at hj
          rw [← hj, add_plain, Nat.zero_add, World.cell?_of_block (a := ⟨g, j, none⟩) (Below.heap_alloc w _ g hblk.1)]
          exact hblk.cell j hj')
        ⟨w.heap.size, 0, none⟩ 1 1 [.int .u64 (x : Int)] (by rw [hz1]; rfl) hcell (by omega) (by omega)
        (growslice_fits (by omega) (by rw [hz2]; omega))
      have hrow := grown_row w l x (l.length + 1) cap w.heap.size rfl rfl hl
      rw [hs] at hrun
      have := Ow.of_row (B := B) hrow (by omega)
      rw [List.length_append] at this
      exact ⟨_, _, hrun, this, hgr _ _, .inr ⟨w.heap.size + 1, rfl, by omega⟩⟩
end Go.Proofs.YtdhacfagmfecgaaDoor
