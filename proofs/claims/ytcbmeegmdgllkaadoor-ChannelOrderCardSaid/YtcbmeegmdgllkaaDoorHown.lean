/- Rows and lists that grow by append (from the texts of packages poly and transform; own work). -/
import Derived.Test.YtcbmeegmdgllkaaDoorApp
namespace Go.Proofs.YtcbmeegmdgllkaaDoor
open Go.RowKit
set_option linter.unusedVariables false

/-- Block g is a row of cap numbers, the first of which are l. -/
def Row (g cap : Nat) (w : World) (l : List Nat) : Prop := w.ownsRow g 22 1 (.slice (some ⟨g, 0, none⟩) l.length cap) l.length (nums l)
theorem Row.cur {g cap : Nat} {w : World} {l : List Nat} (h : Row g cap w l) : ∃ cur, w.heap[g]? = some (.cells cur 22 (0, 0)) ∧ l.length ≤ cap ∧ cap ≤ maxLen ∧ cur.size = cap ∧ cur.toList.take l.length = nums l := by
  rcases h.2 with ⟨h', _⟩ | ⟨g', cap', cur, h', _, hg, h1, h2, h3, h4⟩
  · simp at h'
  · simp only [Value.slice.injEq, Option.some.injEq, Addr.mk.injEq, and_true, true_and] at h'
    obtain ⟨rfl, rfl⟩ := h'
    exact ⟨cur, hg, h1, h2, by simpa using h3, by simpa using h4⟩
theorem Row.mk {g cap : Nat} {w : World} {l : List Nat} {cur : Array Value} (hg : w.heap[g]? = some (.cells cur 22 (0, 0))) (h1 : l.length ≤ cap) (h2 : cap ≤ maxLen) (h3 : cur.size = cap) (h4 : cur.toList.take l.length = nums l) : Row g cap w l :=
  ⟨by rw [nums_len, Nat.mul_one], .inr ⟨g, cap, cur, rfl, Nat.le_refl _, hg, h1, h2, by simpa using h3, by simpa using h4⟩⟩
theorem Row.blk {g cap : Nat} {w : World} {l : List Nat} (h : Row g cap w l) : Blk g w l := by
  obtain ⟨cur, hg, h1, h2, h3, h4⟩ := h.cur
  refine ⟨(Array.getElem?_eq_some_iff.1 hg).1, fun i hi => ?_, fun i => World.ownsRow.frozenAt h i⟩
  have h5 : (cur.toList.take l.length)[i]? = (nums l)[i]? := by rw [h4]
  rw [List.getElem?_take, if_pos hi, nums_get l i hi] at h5
  unfold World.cell?
  rw [hg]
  simpa using h5
theorem Row.set {g cap : Nat} {w : World} {l : List Nat} (h : Row g cap w l) (j x : Nat) : Row g cap (w.setCell ⟨g, j, none⟩ (.int .u64 ((x : Nat) : Int))) (l.set j x) := by
  have := (World.ownsRow.stored h j (.int .u64 ((x : Nat) : Int))).1
  unfold Row nums
  rw [List.length_set, List.map_set]
  exact this
theorem Row.kept {g cap : Nat} {w w' : World} {l : List Nat} (h : Row g cap w l) (hb : w'.heap[g]? = w.heap[g]?) : Row g cap w' l := by
  obtain ⟨cur, hg, h1, h2, h3, h4⟩ := h.cur
  exact Row.mk (hb.trans hg) h1 h2 h3 h4
theorem Row.on {g cap : Nat} {w w' : World} {l : List Nat} (h : Row g cap w l) (k : On w w') : Row g cap w' l := h.kept (k.2.block g h.blk.1)
theorem Row.ap {g cap C : Nat} {w w' : World} {l : List Nat} (h : Row g cap w l) (k : Ap C w w') (hne : g ≠ C) : Row g cap w' l := h.kept (k.block g h.blk.1 (by simpa using hne))
theorem Row.drewN {g cap : Nat} {w : World} {l : List Nat} (h : Row g cap w l) (n : Nat) : Row g cap (w.drewN n) l := h.kept rfl
theorem Row.eq {g cap : Nat} {w : World} {l m : List Nat} (h : Row g cap w l) (e : l = m) : Row g cap w m := e ▸ h
theorem Row.lt {g cap : Nat} {w : World} {l : List Nat} (h : Row g cap w l) : l.length ≤ cap ∧ cap ≤ 9223372036854775807 := by
  obtain ⟨cur, hg, h1, h2, h3, h4⟩ := h.cur
  unfold maxLen at h2
  exact ⟨h1, h2⟩
theorem row_made (w : World) (n : Nat) (hn : n ≤ 35184372088832) : Row w.heap.size n (w.alloc (.cells (madeCells #[.int .u64 0] n) 22)) [] :=
  Row.mk (heap_alloc_new w _) (by simp) (by unfold maxLen; omega) (by simp [size_madeCells]) (by simp [nums])
theorem append_room (g cap x B n m : Nat) (X : Int) (hX : X = (x : Int)) (l : List Nat) (w : World) (h : Row g cap w l) (hr : l.length < cap) (hB : w.heap.size = B) (hn : l.length = n) (hm : n + 1 = m) :
    ∃ w1, (∀ ty, (Builtin.append_ #[46, 46] ty #[.slice (some ⟨g, 0, none⟩) n cap, .slice (some ⟨B, 0, none⟩) 1 1]).run Tryd.prog (w.alloc (.cells #[.int .u64 X] 22)) = .ok (.slice (some ⟨g, 0, none⟩) m cap) w1) ∧
      Row g cap w1 (l ++ [x]) ∧ Ap g w w1 := by
  subst hB hn hm hX
  obtain ⟨cur, hg, h1, h2, h3, h4⟩ := h.cur
  have hlt : g < w.heap.size := h.blk.1
  obtain ⟨i0, hi, hz0, hz1, hz2⟩ := info_parts info_u64
  have hg' : (w.alloc (.cells #[.int .u64 (x : Int)] 22)).heap[g]? = some (.cells cur 22 (0, 0)) := (Below.heap_alloc w _ g hlt).trans hg
  have hrun := fun ty => run_append_room (P := Tryd.prog) (w.alloc (.cells #[.int .u64 (x : Int)] 22)) 46 ty 22 i0 Tryd.underlying46 hi g l.length cap cur hg' ⟨w.heap.size, 0, none⟩ 1 1 [.int .u64 (x : Int)] (by rw [hz1]; rfl)
    (fun j u hj => by
      cases j with
      | zero => simp at hj; subst hj; exact World.cell?_alloc_at _ _ w.heap.size 0 rfl
      | succ j => simp at hj) (by simp [Value.oneCell']) (by omega) (by rw [hz1]; simp; omega)
  refine ⟨_, hrun, ?_, ?_⟩
  · refine Row.mk (setRow_heap _ g cur _ _ _ hg') (by simp; omega) h2 ?_ ?_
    · rw [hz1]; simp; omega
    · rw [hz1, Nat.mul_one, List.length_append]
      unfold nums at h4 ⊢
      rw [List.map_append]
      have hl : (cur.toList.take l.length).length = l.length := by simp; omega
      rw [List.take_append_of_le_length (by simp; omega), List.take_of_length_le (by simp; omega), h4]
      rfl
  · refine ⟨rfl, rfl, rfl, by simp, fun k hk hne => ?_⟩
    rw [setRow_other _ g k _ (fun e => hne (by rw [e]))]
    exact Below.heap_alloc w _ k hk

theorem append_room2 (g cap x y B n m : Nat) (T : TypeId) (l : List Nat) (w : World) (h : Row g cap w l) (hr : l.length + 2 ≤ cap) (hB : w.heap.size = B) (hn : l.length = n) (hm : n + 2 = m) :
    ∃ w1, (∀ ty, (Builtin.append_ #[46, 46] ty #[.slice (some ⟨g, 0, none⟩) n cap, .slice (some ⟨B, 0, none⟩) 2 2]).run Tryd.prog (w.alloc (.cells #[.int .u64 (x : Int), .int .u64 (y : Int)] T)) = .ok (.slice (some ⟨g, 0, none⟩) m cap) w1) ∧
      Row g cap w1 (l ++ [x, y]) ∧ Ap g w w1 := by
  subst hB hn hm
  obtain ⟨cur, hg, h1, h2, h3, h4⟩ := h.cur
  have hlt : g < w.heap.size := h.blk.1
  obtain ⟨i0, hi, hz0, hz1, hz2⟩ := info_parts info_u64
  have hg' : (w.alloc (.cells #[.int .u64 (x : Int), .int .u64 (y : Int)] T)).heap[g]? = some (.cells cur 22 (0, 0)) := (Below.heap_alloc w _ g hlt).trans hg
  have hrun := fun ty => run_append_room (P := Tryd.prog) (w.alloc (.cells #[.int .u64 (x : Int), .int .u64 (y : Int)] T)) 46 ty 22 i0 Tryd.underlying46 hi g l.length cap cur hg' ⟨w.heap.size, 0, none⟩ 2 2 [.int .u64 (x : Int), .int .u64 (y : Int)] (by rw [hz1]; rfl)
    (fun j u hj => by
      cases j with
      | zero => simp at hj; subst hj; exact World.cell?_alloc_at _ _ w.heap.size 0 rfl
      | succ j =>
        cases j with
        | zero => simp at hj; subst hj; exact World.cell?_alloc_at _ _ w.heap.size 1 rfl
        | succ j => simp at hj) (by simp [Value.oneCell']) (by omega) (by rw [hz1]; simp; omega)
  refine ⟨_, hrun, ?_, ?_⟩
  · refine Row.mk (setRow_heap _ g cur _ _ _ hg') (by simp; omega) h2 ?_ ?_
    · rw [hz1]; simp; omega
    · rw [hz1, Nat.mul_one, List.length_append]
      unfold nums at h4 ⊢
      rw [List.map_append]
      have hl : (cur.toList.take l.length).length = l.length := by simp; omega
      rw [List.take_append_of_le_length (by simp; omega), List.take_of_length_le (by simp; omega), h4]
      rfl
  · refine ⟨rfl, rfl, rfl, by simp, fun k hk hne => ?_⟩
    rw [setRow_other _ g k _ (fun e => hne (by rw [e]))]
    exact Below.heap_alloc w _ k hk

theorem run_append_nil3 {P : Program} (w : World) (t u ty e : TypeId) (i : TypeInfo) (z : Value) (ht : P.underlying t = some (.slice e)) (hu : P.underlying u = some (.slice e)) (hi : P.info? e = some i) (hz : i.zero = some z)
    (a : Addr) (n c : Nat) (news : List Value) (hl : news.length = n * i.size) (hnews : ∀ j v, news[j]? = some v → w.cell? (a.add j) = some v)
    (h0 : 0 < n) (h63 : (n : Int) ≤ 9223372036854775807) (h48 : n * i.bytes ≤ 281474976710656) :
    (Builtin.append_ #[t, u] ty #[.slice none 0 0, .slice (some a) n c]).run P w =
      .ok (.slice (some ⟨w.heap.size, 0, none⟩) n (grownCap w n 0 e)) (w.drew.alloc (.cells (news.toArray ++ Builtin.zeroCells z.cells (grownCap w n 0 e - n)) e)) := by
  have hn : n ≠ 0 := by omega
  have h63' : ¬ (9223372036854775807 < (n : Int)) := by omega
  have h48' : ¬ (281474976710656 < Builtin.nextslicecap n 0 * i.bytes) := by rw [nextslicecap_zero h0]; omega
  have hf := run_firstCells_some (P := P) w.drew i.size n a n c news hl (by simpa using hnews)
  simp [Builtin.append_, run_underlying ht, run_underlying hu, sizeOf, typeInfo, zeroValue, hi, hz, Builtin.lenOf, hn, h63', h48', Question.forced, run_firstCells_none, hf, newRow, grownCap]
/-- v is a list that was grown in memory from B on: nothing yet, or a whole block. -/
def Ow (B : Nat) (w : World) (v : Value) (l : List Nat) : Prop := w.ownsRow B 22 1 v l.length (nums l)
theorem Ow.nil (B : Nat) (w : World) : Ow B w (.slice none 0 0) [] := World.ownsRow_nil w B 22 1
theorem Ow.cases {B : Nat} {w : World} {v : Value} {l : List Nat} (h : Ow B w v l) : (l = [] ∧ v = .slice none 0 0) ∨ ∃ g cap, v = .slice (some ⟨g, 0, none⟩) l.length cap ∧ B ≤ g ∧ Row g cap w l := by
  rcases h.2 with ⟨rfl, h0⟩ | ⟨g, cap, cur, rfl, hb, hg, h1, h2, h3, h4⟩
  · exact .inl ⟨List.length_eq_zero_iff.1 h0, rfl⟩
  · exact .inr ⟨g, cap, rfl, hb, Row.mk hg h1 h2 (by simpa using h3) (by simpa using h4)⟩
theorem Ow.of_row {B g cap : Nat} {w : World} {l : List Nat} (h : Row g cap w l) (hb : B ≤ g) : Ow B w (.slice (some ⟨g, 0, none⟩) l.length cap) l := by
  obtain ⟨cur, hg, h1, h2, h3, h4⟩ := h.cur
  exact ⟨by rw [nums_len, Nat.mul_one], .inr ⟨g, cap, cur, rfl, hb, hg, h1, h2, by simpa using h3, by simpa using h4⟩⟩
theorem Ow.reads {B : Nat} {w : World} {v : Value} {l : List Nat} (h : Ow B w v l) (hU : ∀ x ∈ l, x ≤ 18446744073709551615) : Reads w v l := by
  rcases h.cases with ⟨rfl, rfl⟩ | ⟨g, cap, rfl, _, hR⟩
  · exact Reads.nil _ _ _
  · have := hR.lt
    exact hR.blk.reads hU (by omega) _
theorem Ow.shape {B : Nat} {w : World} {v : Value} {l : List Nat} (h : Ow B w v l) : ∃ a cap, v = .slice a l.length cap := by
  rcases h.cases with ⟨rfl, rfl⟩ | ⟨g, cap, rfl, _, hR⟩
  · exact ⟨_, _, rfl⟩
  · exact ⟨_, _, rfl⟩
theorem Ow.on {B : Nat} {w w' : World} {v : Value} {l : List Nat} (h : Ow B w v l) (k : On w w') : Ow B w' v l := by
  rcases h.cases with ⟨rfl, rfl⟩ | ⟨g, cap, rfl, hb, hR⟩
  · exact Ow.nil _ _
  · exact Ow.of_row (hR.on k) hb
theorem Ow.drewN {B : Nat} {w : World} {v : Value} {l : List Nat} (h : Ow B w v l) (n : Nat) : Ow B (w.drewN n) v l := h
theorem Ow.kept {B : Nat} {w w' : World} {v u : Value} {l : List Nat} (h : Ow B w v l) (hg : w.grownBy w' u.ownBlock) (hne : v.ownBlock = none ∨ v.ownBlock ≠ u.ownBlock) : Ow B w' v l := World.ownsRow.kept h hg hne
theorem On.grown {B : Nat} {W w w' : World} {v : Value} {l : List Nat} (h : On W w) (hB : W.heap.size ≤ B) (ho : Ow B w v l) (k : w.grownBy w' v.ownBlock) : On W w' :=
  ⟨h.1, h.2.grown k h.2.size fun j hj => by have := (ho.lt j hj).1; omega⟩
theorem Reads.grown {B : Nat} {W w w' : World} {v u : Value} {l m : List Nat} (h : Reads W u m) (hW : On W w) (hB : W.heap.size ≤ B) (ho : Ow B w v l) (k : w.grownBy w' v.ownBlock) : Reads w' u m := h.on (hW.grown hB ho k)
theorem grown_row (w : World) (l : List Nat) (x n old : Nat) (C : Nat) (hC : C = w.heap.size) (hn : n = l.length + 1) (hl : l.length ≤ 1000) :
    Row (C + 1) (grownCap (w.alloc (.cells #[.int .u64 (x : Int)] 22)) n old 22)
      ((w.alloc (.cells #[.int .u64 (x : Int)] 22)).drew.alloc (.cells ((nums l).toArray ++ [Value.int .u64 (x : Int)].toArray ++ Builtin.zeroCells (Value.int .u64 0).cells (grownCap (w.alloc (.cells #[.int .u64 (x : Int)] 22)) n old 22 - n)) 22)) (l ++ [x]) := by
  subst hC hn
  have hge := grownCap_ge (w.alloc (.cells #[.int .u64 (x : Int)] 22)) (l.length + 1) old 22
  have hcm := grownCap_le_maxLen (w.alloc (.cells #[.int .u64 (x : Int)] 22)) (l.length + 1) old 22 (by unfold maxLen; omega)
  generalize grownCap (w.alloc (.cells #[.int .u64 (x : Int)] 22)) (l.length + 1) old 22 = c at *
  have hs : (w.alloc (.cells #[.int .u64 (x : Int)] 22)).drew.heap.size = w.heap.size + 1 := by simp
  refine Row.mk (by rw [← hs]; exact heap_alloc_new _ _) (by simp; omega) hcm ?_ ?_
  · simp only [Array.size_append, List.size_toArray, size_zeroCells, nums_len]
    simp [Value.cells]; omega
  · have e : nums (l ++ [x]) = nums l ++ [Value.int .u64 (x : Int)] := by unfold nums; rw [List.map_append]; rfl
    have e2 : (l ++ [x]).length = (nums l ++ [Value.int .u64 (x : Int)]).length := by simp [nums_len]
    rw [e, e2]
    simp only [Array.toList_append, List.append_assoc]
    rw [← List.append_assoc]
    exact List.take_left
theorem append_own (B x : Nat) (X : Int) (hX : X = (x : Int)) (l : List Nat) (v : Value) (w : World) (C : Nat) (hC : C = w.heap.size) (h : Ow B w v l) (hB : B ≤ w.heap.size) (hl : l.length ≤ 1000) :
    ∃ v' w', (∀ ty, (Builtin.append_ #[46, 46] ty #[v, .slice (some ⟨C, 0, none⟩) 1 1]).run Tryd.prog (w.alloc (.cells #[.int .u64 X] 22)) = .ok v' w') ∧
      Ow B w' v' (l ++ [x]) ∧ w.grownBy w' v.ownBlock ∧ (v'.ownBlock = v.ownBlock ∨ ∃ g, v'.ownBlock = some g ∧ w.heap.size ≤ g) := by
  subst hX hC
  obtain ⟨i0, hi, hz0, hz1, hz2⟩ := info_parts info_u64
  have hcell : ∀ j u, [Value.int .u64 (x : Int)][j]? = some u → (w.alloc (.cells #[.int .u64 (x : Int)] 22)).cell? ((⟨w.heap.size, 0, none⟩ : Addr).add j) = some u := fun j u hj => by
    cases j with
    | zero => simp at hj; subst hj; exact World.cell?_alloc_at _ _ w.heap.size 0 rfl
    | succ j => simp at hj
  have hs : (w.alloc (.cells #[.int .u64 (x : Int)] 22)).heap.size = w.heap.size + 1 := by simp
  have hgr : ∀ (o : Obj) (row : Option Nat), w.grownBy ((w.alloc (.cells #[.int .u64 (x : Int)] 22)).drew.alloc o) row := fun o row =>
    ⟨rfl, rfl, rfl, by simp; omega, fun k hk _ => by
      rw [Below.heap_alloc _ _ k (by simp; omega)]
      exact Below.heap_alloc w _ k hk⟩
  rcases h.cases with ⟨rfl, rfl⟩ | ⟨g, cap, rfl, hb, hR⟩
  · have hrun := fun ty => run_append_nil3 (P := Tryd.prog) (w.alloc (.cells #[.int .u64 (x : Int)] 22)) 46 46 ty 22 i0 (.int .u64 0) Tryd.underlying46 Tryd.underlying46 hi hz0 ⟨w.heap.size, 0, none⟩ 1 1 [.int .u64 (x : Int)] (by rw [hz1]; rfl) hcell (by omega) (by omega) (by rw [hz2]; omega)
    have hrow := grown_row w [] x 1 0 w.heap.size rfl rfl (by simp)
    have e0 : (nums []).toArray ++ [Value.int .u64 (x : Int)].toArray = [Value.int .u64 (x : Int)].toArray := by simp [nums]
    rw [e0] at hrow
    rw [hs] at hrun
    exact ⟨_, _, hrun, Ow.of_row hrow (by omega), hgr _ _, .inr ⟨w.heap.size + 1, rfl, by omega⟩⟩
  · have hlc := hR.lt
    by_cases hroom : l.length < cap
    · obtain ⟨w1, hrun, hR1, hA⟩ := append_room g cap x w.heap.size l.length (l.length + 1) (x : Int) rfl l w hR hroom rfl rfl rfl
      have := Ow.of_row hR1 hb
      rw [List.length_append] at this
      exact ⟨_, _, hrun, this, hA, .inl rfl⟩
    · have hblk := hR.blk
      have hrun := fun ty => run_append_grow (P := Tryd.prog) (w.alloc (.cells #[.int .u64 (x : Int)] 22)) 46 ty 22 i0 (.int .u64 0) Tryd.underlying46 hi hz0 ⟨g, 0, none⟩ l.length cap (nums l) (by rw [nums_len, hz1, Nat.mul_one])
        (fun j u hj => by
          have hj' : j < l.length := by have := (List.getElem?_eq_some_iff.1 hj).1; rwa [nums_len] at this
          rw [nums_get _ _ hj'] at hj
          rw [← hj, add_plain, Nat.zero_add, World.cell?_of_block (a := ⟨g, j, none⟩) (Below.heap_alloc w _ g hblk.1)]
          exact hblk.cell j hj')
        ⟨w.heap.size, 0, none⟩ 1 1 [.int .u64 (x : Int)] (by rw [hz1]; rfl) hcell (by omega) (by omega)
        (growslice_fits (by omega) (by rw [hz2]; omega))
      have hrow := grown_row w l x (l.length + 1) cap w.heap.size rfl rfl hl
      rw [hs] at hrun
      have := Ow.of_row (B := B) hrow (by omega)
      rw [List.length_append] at this
      exact ⟨_, _, hrun, this, hgr _ _, .inr ⟨w.heap.size + 1, rfl, by omega⟩⟩


theorem step_append_z {P : Program} {w w' : World} {ops : Array Oper} {o : Oper} {a : Act} {K : Act → World → Prop} {Q : Exit → Act → World → Prop} {E : Prop} (hgd : o.guard = none) (s x : Operand) (t u : TypeId)
    (ho : o.op = .call { callee := .builtin .append, args := #[s, x], argTypes := #[t, u] }) (vs vx v' : Value) (hs : a.eval s = vs) (hx : a.eval x = vx) (hrun : ∀ ty, (Builtin.append_ #[t, u] ty #[vs, vx]).run P w = .ok v' w')
    (h : K (a.put o.dst v') w') : if Region.wanted o (yielded ops a.tmps) = true then Oper.wp P o a w K Q else E := by
  have hw : Region.wanted o (yielded ops a.tmps) = true := by unfold Region.wanted; rw [hgd]
  rw [if_pos hw]
  unfold Oper.wp execOp
  simp only [ho, resolve, invoke, builtin, Sem.run_bind, Sem.run_pure, Result.andThen_ok, List.map_toArray, List.map_cons, List.map_nil, hs, hx, hrun]
  exact h
end Go.Proofs.YtcbmeegmdgllkaaDoor
