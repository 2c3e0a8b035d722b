/- Package poly: one, withRoot, Vanish: what each call returns. -/
import Derived.Test.YtgkegpnpooeghaaDoorPwalkG
import Derived.Test.YtgkegpnpooeghaaDoorApp
namespace Go.Proofs.YtgkegpnpooeghaaDoor
open Go.RowKit
set_option linter.unusedVariables false

/-- Block g is a row of cap numbers, the first of which are l. -/
def Row (g cap : Nat) (w : World) (l : List Nat) : Prop := w.ownsRow g 22 1 (.slice (some ⟨g, 0, none⟩) l.length cap) l.length (nums l)
theorem Row.cur {g cap : Nat} {w : World} {l : List Nat} (h : Row g cap w l) : ∃ cur, w.heap[g]? = some (.cells cur 22 (0, 0)) ∧ l.length ≤ cap ∧ cap ≤ maxLen ∧ cur.size = cap ∧ cur.toList.take l.length = nums l := by
  rcases h.2 with ⟨h', _⟩ | ⟨g', cap', cur, h', _, hg, h1, h2, h3, h4⟩
  · simp at h'
  · simp only [Value.slice.injEq, Option.some.injEq, Addr.mk.injEq, and_true, true_and] at h'
    obtain ⟨rfl, rfl⟩ := h'
    exact ⟨cur, hg, h1, h2, by simpa using h3, by simpa using h4⟩
theorem Row.mk {g cap : Nat} {w : World} {l : List Nat} {cur : Array Value} (hg : w.heap[g]? = some (.cells cur 22 (0, 0))) (h1 : l.length ≤ cap) (h2 : cap ≤ maxLen) (h3 : cur.size = cap) (h4 : cur.toList.take l.length = nums l) : Row g cap w l :=
  ⟨by rw [nums_len, Nat.mul_one], .inr ⟨g, cap, cur, rfl, Nat.le_refl _, hg, h1, h2, by simpa using h3, by simpa using h4⟩⟩
theorem Row.blk {g cap : Nat} {w : World} {l : List Nat} (h : Row g cap w l) : Blk g w l := by
  obtain ⟨cur, hg, h1, h2, h3, h4⟩ := h.cur
  refine ⟨(Array.getElem?_eq_some_iff.1 hg).1, fun i hi => ?_, fun i => World.ownsRow.frozenAt h i⟩
  have h5 : (cur.toList.take l.length)[i]? = (nums l)[i]? := by rw [h4]
  rw [List.getElem?_take, if_pos hi, nums_get l i hi] at h5
  unfold World.cell?
  rw [hg]
  simpa using h5
theorem Row.set {g cap : Nat} {w : World} {l : List Nat} (h : Row g cap w l) (j x : Nat) : Row g cap (w.setCell ⟨g, j, none⟩ (.int .u64 ((x : Nat) : Int))) (l.set j x) := by
  have := (World.ownsRow.stored h j (.int .u64 ((x : Nat) : Int))).1
  unfold Row nums
  rw [List.length_set, List.map_set]
  exact this
theorem Row.kept {g cap : Nat} {w w' : World} {l : List Nat} (h : Row g cap w l) (hb : w'.heap[g]? = w.heap[g]?) : Row g cap w' l := by
  obtain ⟨cur, hg, h1, h2, h3, h4⟩ := h.cur
  exact Row.mk (hb.trans hg) h1 h2 h3 h4
theorem Row.on {g cap : Nat} {w w' : World} {l : List Nat} (h : Row g cap w l) (k : On w w') : Row g cap w' l := h.kept (k.2.block g h.blk.1)
theorem Row.ap {g cap C : Nat} {w w' : World} {l : List Nat} (h : Row g cap w l) (k : Ap C w w') (hne : g ≠ C) : Row g cap w' l := h.kept (k.block g h.blk.1 (by simpa using hne))
theorem Row.drewN {g cap : Nat} {w : World} {l : List Nat} (h : Row g cap w l) (n : Nat) : Row g cap (w.drewN n) l := h.kept rfl
theorem Row.eq {g cap : Nat} {w : World} {l m : List Nat} (h : Row g cap w l) (e : l = m) : Row g cap w m := e ▸ h
theorem Row.lt {g cap : Nat} {w : World} {l : List Nat} (h : Row g cap w l) : l.length ≤ cap ∧ cap ≤ 9223372036854775807 := by
  obtain ⟨cur, hg, h1, h2, h3, h4⟩ := h.cur
  unfold maxLen at h2
  exact ⟨h1, h2⟩
theorem row_made (w : World) (n : Nat) (hn : n ≤ 35184372088832) : Row w.heap.size n (w.alloc (.cells (madeCells #[.int .u64 0] n) 22)) [] :=
  Row.mk (heap_alloc_new w _) (by simp) (by unfold maxLen; omega) (by simp [size_madeCells]) (by simp [nums])
theorem append_room (g cap x B n m : Nat) (X : Int) (hX : X = (x : Int)) (l : List Nat) (w : World) (h : Row g cap w l) (hr : l.length < cap) (hB : w.heap.size = B) (hn : l.length = n) (hm : n + 1 = m) :
    ∃ w1, (∀ ty, (Builtin.append_ #[23, 23] ty #[.slice (some ⟨g, 0, none⟩) n cap, .slice (some ⟨B, 0, none⟩) 1 1]).run Tryd.prog (w.alloc (.cells #[.int .u64 X] 22)) = .ok (.slice (some ⟨g, 0, none⟩) m cap) w1) ∧
      Row g cap w1 (l ++ [x]) ∧ Ap g w w1 := by
  subst hB hn hm hX
  obtain ⟨cur, hg, h1, h2, h3, h4⟩ := h.cur
  have hlt : g < w.heap.size := h.blk.1
  obtain ⟨i0, hi, hz0, hz1, hz2⟩ := info_parts info_u64
  have hg' : (w.alloc (.cells #[.int .u64 (x : Int)] 22)).heap[g]? = some (.cells cur 22 (0, 0)) := (Below.heap_alloc w _ g hlt).trans hg
  have hrun := fun ty => run_append_room (P := Tryd.prog) (w.alloc (.cells #[.int .u64 (x : Int)] 22)) 23 ty 22 i0 Tryd.underlying23 hi g l.length cap cur hg' ⟨w.heap.size, 0, none⟩ 1 1 [.int .u64 (x : Int)] (by rw [hz1]; rfl)
    (fun j u hj => by
      cases j with
      | zero => simp at hj; subst hj; exact World.cell?_alloc_at _ _ w.heap.size 0 rfl
      | succ j => simp at hj) (by simp [Value.oneCell']) (by omega) (by rw [hz1]; simp; omega)
  refine ⟨_, hrun, ?_, ?_⟩
  · refine Row.mk (setRow_heap _ g cur _ _ _ hg') (by simp; omega) h2 ?_ ?_
    · rw [hz1]; simp; omega
    · rw [hz1, Nat.mul_one, List.length_append]
      unfold nums at h4 ⊢
      rw [List.map_append]
      have hl : (cur.toList.take l.length).length = l.length := by simp; omega
      rw [List.take_append_of_le_length (by simp; omega), List.take_of_length_le (by simp; omega), h4]
      rfl
  · refine ⟨rfl, rfl, rfl, by simp, fun k hk hne => ?_⟩
    rw [setRow_other _ g k _ (fun e => hne (by rw [e]))]
    exact Below.heap_alloc w _ k hk

/-- The product with X - x. -/
def rootL (f : Int) (l : List Nat) (x : Nat) : List Nat := (List.range (l.length + 1)).map fun i => subF f (if i = 0 then 0 else l.getD (i - 1) 0) (mulF f x (l.getD i 0))
theorem rootL_len (f : Int) (l : List Nat) (x : Nat) : (rootL f l x).length = l.length + 1 := by unfold rootL; simp
theorem rootL_le (f : Int) (l : List Nat) (x : Nat) : ∀ y ∈ rootL f l x, y ≤ 998244353 := fun y hy => by
  unfold rootL at hy
  obtain ⟨i, _, rfl⟩ := List.mem_map.1 hy
  exact subF_le _ _ _
/-- The places above i are turned. -/
def Down (f : Int) (l : List Nat) (x i : Nat) (o : List Nat) : Prop := o.length = l.length + 1 ∧ ∀ j, j ≤ l.length → o.getD j 0 = if i < j then subF f (l.getD (j - 1) 0) (mulF f x (l.getD j 0)) else l.getD j 0
theorem Down.start (f : Int) (l : List Nat) (x : Nat) : Down f l x l.length (l ++ [0]) := by
  refine ⟨by simp, fun j hj => ?_⟩
  rw [if_neg (by omega)]
  exact getD_append_zeros l 1 j
theorem Down.step {f : Int} {l : List Nat} {x i : Nat} {o : List Nat} (h : Down f l x (i + 1) o) (hi : i + 1 ≤ l.length) : Down f l x i (o.set (i + 1) (subF f (l.getD i 0) (mulF f x (l.getD (i + 1) 0)))) := by
  refine ⟨by rw [List.length_set]; exact h.1, fun j hj => ?_⟩
  rw [getD_set1 _ _ _ _ (by rw [h.1]; omega)]
  by_cases e : j = i + 1
  · subst e; rw [if_pos rfl, if_pos (by omega), Nat.add_sub_cancel]
  · rw [if_neg e, h.2 j hj]
    by_cases h2 : i + 1 < j
    · rw [if_pos h2, if_pos (by omega)]
    · rw [if_neg h2, if_neg (by omega)]
theorem Down.done {f : Int} {l : List Nat} {x : Nat} {o : List Nat} (h : Down f l x 0 o) : o.set 0 (subF f 0 (mulF f x (l.getD 0 0))) = rootL f l x := by
  refine list_ext (by rw [List.length_set, h.1, rootL_len]) fun j hj => ?_
  rw [List.length_set, h.1] at hj
  rw [getD_set1 _ _ _ _ (by rw [h.1]; omega)]
  unfold rootL
  rw [getD_range, if_pos hj]
  by_cases e : j = 0
  · subst e; rw [if_pos rfl, if_pos rfl]
  · rw [if_neg e, h.2 j (by omega), if_pos (by omega), if_neg e]

/-- The product of all X - x. -/
def vanL (f : Int) (xs : List Nat) : List Nat := xs.foldl (rootL f) [1]
theorem vanL_snoc (f : Int) (xs : List Nat) (x : Nat) : vanL f (xs ++ [x]) = rootL f (vanL f xs) x := by unfold vanL; rw [List.foldl_append]; rfl
theorem vanL_len (f : Int) (xs : List Nat) : (vanL f xs).length = xs.length + 1 := by
  rcases snoc_cases xs with rfl | ⟨l, c, rfl⟩
  · rfl
  · generalize hk : (l ++ [c]).length = k
    induction k generalizing l c with
    | zero => simp at hk
    | succ k ih =>
      rw [vanL_snoc, rootL_len]
      rcases snoc_cases l with rfl | ⟨l', c', rfl⟩
      · simp at hk; subst hk; rfl
      · rw [ih l' c' (by simp at hk ⊢; omega)]
theorem vanL_le (f : Int) (xs : List Nat) : ∀ y ∈ vanL f xs, y ≤ 998244353 := by
  rcases snoc_cases xs with rfl | ⟨l, c, rfl⟩
  · simp [vanL]
  · rw [vanL_snoc]; exact rootL_le _ _ _
theorem vanL_take (f : Int) (xs : List Nat) (k : Nat) (hk : k < xs.length) : vanL f (xs.take (k + 1)) = rootL f (vanL f (xs.take k)) (xs.getD k 0) := by rw [take_snoc xs k hk, vanL_snoc]

end Go.Proofs.YtgkegpnpooeghaaDoor
