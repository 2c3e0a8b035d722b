/- Package poly: points, and what it hands over: what the calls return. -/
import Derived.Test.YtiibcfajcndcnaaDoorKf05
import Derived.Test.YtiibcfajcndcnaaDoorKf13
import Derived.RangeFuncBox
import Derived.Test.YtiibcfajcndcnaaDoorKf01
/- Package poly: points, and what it hands over: what the calls return. -/
namespace Go.Proofs.YtiibcfajcndcnaaDoor
open Go.RowKit Go.Shelf
set_option linter.unusedVariables false
attribute [local go_sem] Oper.semAt_some

/-- What a round must leave as it was: all below n₀, and the block B. -/
def KeepB (n₀ B : Nat) (W W' : World) : Prop := Below n₀ W W' ∧ W'.heap[B]? = W.heap[B]?
theorem KeepB.refl (n₀ B : Nat) (W : World) : KeepB n₀ B W W := ⟨Below.refl _ _, rfl⟩
theorem KeepB.trans {n₀ B : Nat} {U V W : World} (h : KeepB n₀ B U V) (k : KeepB n₀ B V W) : KeepB n₀ B U W := ⟨h.1.trans k.1, k.2.trans h.2⟩

end Go.Proofs.YtiibcfajcndcnaaDoor

/- Package poly: the memory of Through. -/
namespace Go.Proofs.YtiibcfajcndcnaaDoor
open Go.RowKit Go.Shelf
set_option linter.unusedVariables false
attribute [local go_sem] Oper.semAt_some

theorem box_on {W W' : World} {B : Nat} {t : TypeId} {v : Value} (h : Boxed W B t v) (k : On W W') : Boxed W' B t v := (k.2.block B h.lt).trans h
theorem box_ap {W W' : World} {B C : Nat} {t : TypeId} {v : Value} (h : Boxed W B t v) (k : Ap C W W') (hne : B ≠ C) : Boxed W' B t v := h.kept k (by simpa using hne)
theorem box_other {W : World} {B : Nat} {t : TypeId} {v : Value} (h : Boxed W B t v) (p : Addr) (hne : B ≠ p.block) (u : Value) : Boxed (W.setCell p u) B t v := (Below.heap_setCell _ _ _ _ hne).trans h
theorem Row.setOther {g cap : Nat} {w : World} {l : List Nat} (h : Row g cap w l) (p : Addr) (hne : g ≠ p.block) (u : Value) : Row g cap (w.setCell p u) l := h.kept (Below.heap_setCell _ _ _ _ hne)
/-- The call's own memory: the parameter, the results, the two lists. -/
structure ThS (f : Int) (n b0 b1 b2 b8 b9 g1 g2 : Nat) (w : World) (L1 L2 : List Nat) (W : World) : Prop where
  bf : Boxed W b0 3 (.int .i64 f)
  br : Boxed W b1 33 (.slice none 0 0)
  be : Boxed W b2 26 (.int .i64 0)
  bo : Boxed W b8 33 (.slice (some ⟨g1, 0, none⟩) L1.length n)
  bs : Boxed W b9 33 (.slice (some ⟨g2, 0, none⟩) L2.length (n + 1))
  ro : Row g1 n W L1
  rs : Row g2 (n + 1) W L2
  bel : Below w.heap.size w W
/-- How the numbers of the blocks lie. -/
def Ord (b0 b1 b2 b8 b9 g1 g2 : Nat) : Prop := b0 < b1 ∧ b1 < b2 ∧ b2 < g1 ∧ g1 < b8 ∧ b8 < g2 ∧ g2 < b9
theorem ThS.drewN {f : Int} {n b0 b1 b2 b8 b9 g1 g2 : Nat} {w : World} {L1 L2 : List Nat} {W : World} (h : ThS f n b0 b1 b2 b8 b9 g1 g2 w L1 L2 W) (q : Nat) : ThS f n b0 b1 b2 b8 b9 g1 g2 w L1 L2 (W.drewN q) :=
  ⟨h.bf, h.br, h.be, h.bo, h.bs, h.ro.drewN q, h.rs.drewN q, h.bel.trans ⟨rfl, rfl, rfl, Nat.le_refl _, fun _ _ => rfl⟩⟩
theorem ThS.grow {f : Int} {n b0 b1 b2 b8 b9 g1 g2 : Nat} {w : World} {L1 L2 M : List Nat} {W W' : World} (h : ThS f n b0 b1 b2 b8 b9 g1 g2 w L1 L2 W) (ho : Ord b0 b1 b2 b8 b9 g1 g2) (hw : w.heap.size = b0) (hr : Row g1 n W' M) (ha : Ap g1 W W') :
    ThS f n b0 b1 b2 b8 b9 g1 g2 w M L2 (W'.setCell ⟨b8, 0, none⟩ (.slice (some ⟨g1, 0, none⟩) M.length n)) := by
  unfold Ord at ho
  refine ⟨box_other (box_ap h.bf ha (by omega)) _ (by simp; omega) _, box_other (box_ap h.br ha (by omega)) _ (by simp; omega) _, box_other (box_ap h.be ha (by omega)) _ (by simp; omega) _, (box_ap h.bo ha (by omega)).set _, box_other (box_ap h.bs ha (by omega)) _ (by simp; omega) _,
    hr.setOther _ (by simp; omega) _, (h.rs.ap ha (by omega)).setOther _ (by simp; omega) _, ?_⟩
  exact Below.setCell (h.bel.grown ha h.bel.size (fun k e => by cases e; omega)) (by simp; omega) _
theorem ThS.root {f : Int} {n b0 b1 b2 b8 b9 g1 g2 : Nat} {w : World} {L1 L2 M : List Nat} {W W' : World} (h : ThS f n b0 b1 b2 b8 b9 g1 g2 w L1 L2 W) (ho : Ord b0 b1 b2 b8 b9 g1 g2) (hw : w.heap.size = b0) (hr : Row g2 (n + 1) W' M) (ha : Ap g2 W W') :
    ThS f n b0 b1 b2 b8 b9 g1 g2 w L1 M (W'.setCell ⟨b9, 0, none⟩ (.slice (some ⟨g2, 0, none⟩) M.length (n + 1))) := by
  unfold Ord at ho
  refine ⟨box_other (box_ap h.bf ha (by omega)) _ (by simp; omega) _, box_other (box_ap h.br ha (by omega)) _ (by simp; omega) _, box_other (box_ap h.be ha (by omega)) _ (by simp; omega) _, box_other (box_ap h.bo ha (by omega)) _ (by simp; omega) _, (box_ap h.bs ha (by omega)).set _,
    (h.ro.ap ha (by omega)).setOther _ (by simp; omega) _, hr.setOther _ (by simp; omega) _, ?_⟩
  exact Below.setCell (h.bel.grown ha h.bel.size (fun k e => by cases e; omega)) (by simp; omega) _
theorem ThS.put {f : Int} {n b0 b1 b2 b8 b9 g1 g2 : Nat} {w : World} {L1 L2 : List Nat} {W : World} (h : ThS f n b0 b1 b2 b8 b9 g1 g2 w L1 L2 W) (ho : Ord b0 b1 b2 b8 b9 g1 g2) (hw : w.heap.size = b0) (j x : Nat) :
    ThS f n b0 b1 b2 b8 b9 g1 g2 w (L1.set j x) L2 (W.setCell ⟨g1, j, none⟩ (.int .u64 ((x : Nat) : Int))) := by
  unfold Ord at ho
  refine ⟨box_other h.bf _ (by simp; omega) _, box_other h.br _ (by simp; omega) _, box_other h.be _ (by simp; omega) _, ?_, box_other h.bs _ (by simp; omega) _, h.ro.set _ _, h.rs.setOther _ (by simp; omega) _, h.bel.setCell (by simp; omega) _⟩
  rw [List.length_set]
  exact box_other h.bo _ (by simp; omega) _
/-- What holds between two rounds of Through. -/
def ThI (f : Int) (n b0 b1 b2 b8 b9 g1 g2 S : Nat) (w : World) (pre : List Pt) (W : World) : Prop := okN f pre ∧ S ≤ W.heap.size ∧ ThS f n b0 b1 b2 b8 b9 g1 g2 w (stN f pre).1 (stN f pre).2 W
/-- What a round leaves as it was. -/
def Fr (B n₀ By : Nat) (W W' : World) : Prop := KeepsFrom B W W' ∧ KeepB n₀ By W W'
theorem Fr.refl (B n₀ By : Nat) (W : World) : Fr B n₀ By W W := ⟨KeepsFrom.refl _ _, KeepB.refl _ _ _⟩
theorem Fr.trans {B n₀ By : Nat} {U V W : World} (h : Fr B n₀ By U V) (k : Fr B n₀ By V W) : Fr B n₀ By U W := ⟨h.1.trans k.1, h.2.trans k.2⟩
theorem Fr.drewN {B n₀ By : Nat} {W W' : World} (h : Fr B n₀ By W W') (q : Nat) : Fr B n₀ By W (W'.drewN q) :=
  h.trans ⟨⟨Nat.le_refl _, fun _ _ _ h _ => h⟩, ⟨rfl, rfl, rfl, Nat.le_refl _, fun _ _ => rfl⟩, rfl⟩
theorem Fr.ap {B n₀ By C : Nat} {W W' W'' : World} (h : Fr B n₀ By W W') (k : Ap C W' W'') (hC : C < B) (hn : n₀ ≤ C) (hb : By ≠ C) (hs : n₀ ≤ W'.heap.size) (hB : By < W'.heap.size) : Fr B n₀ By W W'' :=
  h.trans ⟨KeepsFrom.of_grownBy k (fun j e => by cases e; exact hC), (Below.refl _ _).grown k hs (fun j e => by cases e; exact hn), k.block By hB (by simpa using hb)⟩
theorem Fr.setCell {B n₀ By : Nat} {W W' : World} (h : Fr B n₀ By W W') (p : Addr) (u : Value) (hn : n₀ ≤ p.block) (hb : By ≠ p.block) : Fr B n₀ By W (W'.setCell p u) :=
  h.trans ⟨(KeepsOthers.setCell _ _ _).from _, (Below.refl _ _).setCell hn _, Below.heap_setCell _ _ _ _ hb⟩
/-- What holds where a round of Through has met a point again. -/
structure ThX (f : Int) (b1 b2 : Nat) (w : World) (c : Code) (pre : List Pt) (W : World) : Prop where
  ret : c = .ret
  bad : ¬ okN f pre
  br : Boxed W b1 33 (.slice none 0 0)
  be : Boxed W b2 26 (.int .i64 6)
  bel : Below w.heap.size w W
theorem ThI.own {f : Int} {n b0 b1 b2 b8 b9 g1 g2 S B : Nat} {w : World} (h : b0 < B ∧ b1 < B ∧ b2 < B ∧ b8 < B ∧ b9 < B ∧ g1 < B ∧ g2 < B ∧ w.heap.size ≤ B) : OwnFrom B (ThI f n b0 b1 b2 b8 b9 g1 g2 S w) := by
  intro pre W W' row ⟨hok, hsz, hs⟩ hg hr
  have ne : ∀ b, b < B → some b ≠ row := fun b hb e => by have := (hr b e.symm).1; omega
  obtain ⟨h0, h1, h2, h3, h4, h5, h6, h7⟩ := h
  exact ⟨hok, Nat.le_trans hsz hg.size, hs.bf.kept hg (ne _ h0), hs.br.kept hg (ne _ h1), hs.be.kept hg (ne _ h2), hs.bo.kept hg (ne _ h3), hs.bs.kept hg (ne _ h4), hs.ro.kept (hg.block _ hs.ro.blk.1 (ne _ h5)), hs.rs.kept (hg.block _ hs.rs.blk.1 (ne _ h6)),
    hs.bel.grown hg hs.bel.size (fun k e => by have := (hr k e).1; omega)⟩
theorem ThX.own {f : Int} {b1 b2 B : Nat} {w : World} (h : b1 < B ∧ b2 < B ∧ w.heap.size ≤ B) (c : Code) : OwnFrom B (ThX f b1 b2 w c) := by
  intro pre W W' row hs hg hr
  have ne : ∀ b, b < B → some b ≠ row := fun b hb e => by have := (hr b e.symm).1; omega
  exact ⟨hs.ret, hs.bad, hs.br.kept hg (ne _ h.1), hs.be.kept hg (ne _ h.2.1), hs.bel.grown hg hs.bel.size (fun k e => by have := (hr k e).1; omega)⟩
theorem row_new (w : World) (n B : Nat) (hn : n ≤ 35184372088832) (hB : B = w.heap.size) : Row B n (w.alloc (.cells (madeCells #[.int .u64 0] n) 22)) [] := hB ▸ row_made w n hn
theorem box_new (w : World) (t : TypeId) (v : Value) (B : Nat) (hB : B = w.heap.size) : Boxed (w.alloc (.cells #[v] t)) B t v := hB ▸ Boxed.new w t v

theorem trim_own (g : Nat) (l : List Nat) (cap : Nat) (w : World) (hL : l.length ≤ cap) (hcap : cap ≤ 9223372036854775807) (hb : Blk g w l) :
    Calls Tryd.prog 59 #[.slice (some ⟨g, 0, none⟩) l.length cap] w fun e w' => (∃ au M, e = .returned (.slice au M M) ∧ ((strip l = [] ∧ au = none ∧ M = 0) ∨ (au = some ⟨g, 0, none⟩ ∧ M = (strip l).length))) ∧ w = w' := by
  refine (trim_rows l _ cap w hL hcap fun i hi => ⟨g, 0, rfl, by rw [Nat.zero_add]; exact hb.cell i hi⟩).mono ?_
  rintro e w' ⟨⟨h1, rfl⟩ | rfl, rfl⟩
  · exact ⟨⟨none, 0, rfl, .inl ⟨h1, rfl, rfl⟩⟩, rfl⟩
  · exact ⟨⟨_, _, rfl, .inr ⟨rfl, rfl⟩⟩, rfl⟩
theorem round_append2 {P : Program} {w w' : World} {ops : Array Oper} {rest : List Oper} {o : Oper} {a : Act} {Q : Exit → Act → World → Prop} {m lo : Nat} (hgd : o.guard = none) (s x : Operand) (t u : TypeId)
    (ho : o.op = .call { callee := .builtin .append, args := #[s, x], argTypes := #[t, u] }) (vs vx v' : Value) (hs : a.eval s = vs) (hx : a.eval x = vx) (hrun : ∀ ty, (Builtin.append_ #[t, u] ty #[vs, vx]).run P w = .ok v' w')
    (h : wpListIn (Fence.wide.inRound lo) m P ops Q rest (a.put o.dst v') w') : wpListIn (Fence.wide.inRound lo) m P ops Q (o :: rest) a w :=
  wpListIn_plain hgd fun K hK => by
    refine ⟨fun _ _ => trivial, ?_⟩
    rw [Oper.semAt_eq _ _ _ (by rw [ho]; intro c h; cases h)]
    unfold execOp
    simp only [ho, resolve, invoke, builtin, Sem.run_bind, Sem.run_pure, Result.andThen_ok, List.map_toArray, List.map_cons, List.map_nil, hs, hx, hrun]
    exact hK _ _ h
end Go.Proofs.YtiibcfajcndcnaaDoor

/- Package poly: Through: what the call returns. -/
namespace Go.Proofs.YtiibcfajcndcnaaDoor
open Go.RowKit Go.Shelf
set_option linter.unusedVariables false
attribute [local go_sem] Oper.semAt_some

end Go.Proofs.YtiibcfajcndcnaaDoor

/- The examples that every law of the third stage asks besides: the call returns true. -/
namespace Go.Proofs.YtiibcfajcndcnaaDoor
open Go.RowKit
set_option linter.unusedVariables false

theorem heap_at (w : World) (o : Obj) (n : Nat) (h : n = w.heap.size) : (w.alloc o).heap[n]? = some o := by subst h; exact World.alloc_heap_new _ _
theorem reads_at (w : World) (B : Nat) (l : List Nat) (cap : Nat) (c : Array Value) (hB : w.heap[B]? = some (.cells c 22 (0, 0))) (hc : c.toList = nums l) (hU : ∀ x ∈ l, x ≤ 18446744073709551615) (hL : l.length ≤ 9223372036854775807) : Reads w (.slice (some ⟨B, 0, none⟩) l.length cap) l := by
  refine ⟨hU, hL, .inr ⟨B, 0, cap, rfl, fun i hi => ?_⟩⟩
  have h := nums_get l i hi
  rw [← hc] at h
  unfold World.cell?
  rw [hB]
  simpa using h
theorem reads_new (w : World) (l : List Nat) (cap : Nat) (c : Array Value) (B : Nat) (hB : B = w.heap.size) (hc : c.toList = nums l) (hU : ∀ x ∈ l, x ≤ 18446744073709551615) (hL : l.length ≤ 9223372036854775807) : Reads (w.alloc (.cells c 22)) (.slice (some ⟨B, 0, none⟩) l.length cap) l :=
  reads_at _ _ l cap c (heap_at _ _ _ hB) hc hU hL

theorem w_eval (f : Int) (l : List Nat) (x y : Nat) (v : Value) (w : World) (hT : Tab w) (hR : Reads w v l) (hx : x ≤ 18446744073709551615) (hy : evF f l x = y) :
    Calls Tryd.prog 56 #[.int .i64 f, v, .int .u64 (x : Int)] w fun e w' => e = .returned (.int .u64 (y : Int)) ∧ On w w' :=
  (eval_any f l x v w hT hR hx).mono fun e w' ⟨h1, n, h2⟩ => ⟨by rw [h1, hy], by rw [h2]; exact (On.refl hT).drewN n⟩
/-- The points of two lists. -/
theorem bdL (l : List Nat) (h : ∀ x ∈ l, x ≤ 18446744073709551615) : ∀ j, l.getD j 0 ≤ 18446744073709551615 := fun j => by
  rcases Nat.lt_or_ge j l.length with h1 | h1
  · exact h _ (getD_mem l j h1)
  · rw [getD_over h1]; omega
def ptsL (xs ys : List Nat) (hx : ∀ x ∈ xs, x ≤ 18446744073709551615) (hy : ∀ x ∈ ys, x ≤ 18446744073709551615) : List Pt := uptoN (ptAt (fun j => xs.getD j 0) (fun j => ys.getD j 0) (bdL xs hx) (bdL ys hy)) xs.length
theorem k_div {Q R : List Nat} (h : DivR 0 (normF 0 [96, 0, 1]) (normF 0 [96, 1]) Q R) : Q = [1, 1] ∧ R = [] := by
  have hn : normF 0 [96, 1] = [96, 1] := by decide +kernel
  rw [hn] at h
  refine div_unique (last := 1) (by decide) rfl (by decide +kernel) h ?_
  refine ⟨by decide +kernel, by decide +kernel, .inr (by decide +kernel), .inl rfl, by decide, by decide +kernel, .inr (by decide +kernel), fun k => ?_⟩
  rcases Nat.lt_or_ge k 4 with h1 | h1
  · obtain rfl | rfl | rfl | rfl : k = 0 ∨ k = 1 ∨ k = 2 ∨ k = 3 := by omega
    all_goals decide +kernel
  · rw [conv_over _ _ _ (by simp; omega), getD_over (by simp), getD_over (by rw [show normF 0 [96, 0, 1] = [96, 0, 1] by decide +kernel]; simp; omega)]; decide
theorem k_through (hx : ∀ x ∈ [1, 2, 3], x ≤ 18446744073709551615) (hy : ∀ x ∈ [1, 4, 9], x ≤ 18446744073709551615) : okN 0 (ptsL [1, 2, 3] [1, 4, 9] hx hy) ∧ strip (stN 0 (ptsL [1, 2, 3] [1, 4, 9] hx hy)).1 = [0, 0, 1] := by
  have e : ptsL [1, 2, 3] [1, 4, 9] hx hy = (([] ++ [(⟨(1, 1), by decide, by decide⟩ : Pt)]) ++ [⟨(2, 4), by decide, by decide⟩]) ++ [⟨(3, 9), by decide, by decide⟩] := rfl
  rw [e]
  exact ⟨okN_snoc (okN_snoc (okN_snoc (okN_nil 0) (by decide +kernel)) (by decide +kernel)) (by decide +kernel), by decide +kernel⟩

end Go.Proofs.YtiibcfajcndcnaaDoor

/- Different numbers and the polynomial through points at them: plain facts for the law PolyOne. -/
namespace Go.Proofs.YtiibcfajcndcnaaDoor
open Go.RowKit
set_option linter.unusedVariables false

def Diff (f : Int) (X : List Nat) : Prop := X.Pairwise fun x y => x % pOf f ≠ y % pOf f
theorem Diff.snoc {f : Int} {X : List Nat} {x : Nat} (h : Diff f X) (k : amongB X (pOf f) (x % pOf f) X.length = false) : Diff f (X ++ [x]) := by
  unfold Diff amongB at *
  rw [List.take_length] at k
  rw [List.pairwise_append]
  refine ⟨h, by simp, fun a ha b hb hab => ?_⟩
  simp at hb; subst hb
  rw [List.any_eq_false] at k
  exact k a ha (by simpa using hab)
theorem ptsL_map (xs ys : List Nat) (hx : ∀ x ∈ xs, x ≤ 18446744073709551615) (hy : ∀ x ∈ ys, x ≤ 18446744073709551615) : (ptsL xs ys hx hy).map (fun p => p.1.1) = xs := by
  unfold ptsL uptoN
  rw [List.map_map]
  refine list_ext (by simp) fun i hi => ?_
  rw [List.length_map, List.length_range] at hi
  rw [getD_range, if_pos hi]
  rfl
theorem ptsL_len (xs ys : List Nat) (hx : ∀ x ∈ xs, x ≤ 18446744073709551615) (hy : ∀ x ∈ ys, x ≤ 18446744073709551615) : (ptsL xs ys hx hy).length = xs.length := by unfold ptsL; rw [uptoN_len]
theorem ptsL_mem (xs ys : List Nat) (hx : ∀ x ∈ xs, x ≤ 18446744073709551615) (hy : ∀ x ∈ ys, x ≤ 18446744073709551615) (q : Pt) : q ∈ ptsL xs ys hx hy ↔ ∃ i, i < xs.length ∧ ptAt (fun j => xs.getD j 0) (fun j => ys.getD j 0) (bdL xs hx) (bdL ys hy) i = q := by
  unfold ptsL uptoN
  rw [List.mem_map]
  constructor
  · rintro ⟨i, hi, rfl⟩; exact ⟨i, List.mem_range.1 hi, rfl⟩
  · rintro ⟨i, hi, rfl⟩; exact ⟨i, List.mem_range.2 hi, rfl⟩
theorem one_ok {f : Int} (hv : validB f = true) {xs : List Nat} (ys : List Nat) (hx : ∀ x ∈ xs, x ≤ 18446744073709551615) (hy : ∀ x ∈ ys, x ≤ 18446744073709551615) (h : Diff f xs) : okN f (ptsL xs ys hx hy) := by
  rw [okN_iff hv, ptsL_map]; exact h
theorem one_val {f : Int} (hv : validB f = true) {xs : List Nat} (ys : List Nat) (hx : ∀ x ∈ xs, x ≤ 18446744073709551615) (hy : ∀ x ∈ ys, x ≤ 18446744073709551615) (h : Diff f xs) (i : Nat) (hi : i < xs.length) :
    evF f (thruL f (ptsL xs ys hx hy)) (xs.getD i 0) = ys.getD i 0 % pOf f := by
  unfold thruL
  rw [evF_strip]
  exact interp_val hv _ (one_ok hv ys hx hy h) _ ((ptsL_mem xs ys hx hy _).2 ⟨i, hi, rfl⟩)
def valsL (f : Int) (ys xs : List Nat) : List Nat := xs.map fun x => evF f ys x
theorem valsL_len (f : Int) (ys xs : List Nat) : (valsL f ys xs).length = xs.length := by unfold valsL; simp
theorem valsL_snoc (f : Int) (ys xs : List Nat) (i : Nat) (hi : i < xs.length) : valsL f ys (xs.take i) ++ [evF f ys (xs.getD i 0)] = valsL f ys (xs.take (i + 1)) := by
  unfold valsL; rw [take_snoc xs i hi, List.map_append]; rfl
theorem valsL_le (f : Int) (ys xs : List Nat) : ∀ x ∈ valsL f ys xs, x ≤ 18446744073709551615 := fun x hx => by
  unfold valsL at hx
  obtain ⟨y, _, rfl⟩ := List.mem_map.1 hx
  have := evF_le f ys y; omega
theorem valsL_getD (f : Int) (ys xs : List Nat) (i : Nat) (hi : i < xs.length) : (valsL f ys xs).getD i 0 = evF f ys (xs.getD i 0) := by
  unfold valsL
  rw [List.getD_eq_getElem?_getD, List.getElem?_map, List.getElem?_eq_getElem hi, List.getD_eq_getElem?_getD, List.getElem?_eq_getElem hi]; rfl
theorem one_back {f : Int} (hv : validB f = true) {xs : List Nat} (ys : List Nat) (hl : ys.length = xs.length) (hx : ∀ x ∈ xs, x ≤ 18446744073709551615) (hy : ∀ x ∈ valsL f ys xs, x ≤ 18446744073709551615) (h : Diff f xs) :
    thruL f (ptsL xs (valsL f ys xs) hx hy) = normF f ys := by
  have hp := (valid_iff f).1 hv
  refine (thruL_only hv (one_ok hv _ hx hy h) ys (by rw [ptsL_len]; omega) fun p hpm => ?_).symm
  obtain ⟨i, hi, rfl⟩ := (ptsL_mem _ _ hx hy p).1 hpm
  show evF f ys (xs.getD i 0) = (valsL f ys xs).getD i 0 % pOf f
  rw [valsL_getD f ys xs i hi, Nat.mod_eq_of_lt (evF_lt _ _ hp)]
theorem among_dec (f : Int) (hv : validB f = true) (y x : Nat) : (y % pOf f == x % pOf f) = decide (subF f y x = 0) := by
  rw [Bool.eq_iff_iff]
  simp only [beq_iff_eq, decide_eq_true_eq, subF_eq_zero hv]
end Go.Proofs.YtiibcfajcndcnaaDoor

/- What the law PolyOne keeps while it gathers numbers. -/
namespace Go.Proofs.YtiibcfajcndcnaaDoor
open Go.RowKit
set_option linter.unusedVariables false

def Apart (v u : Value) : Prop := ∀ g, v.ownBlock = some g → u.ownBlock ≠ some g
theorem Apart.symm {v u : Value} (h : Apart v u) : Apart u v := fun g hu hv => h g hv hu
theorem Ow.kept' {B : Nat} {w w' : World} {v u : Value} {l : List Nat} (h : Ow B w v l) (hg : w.grownBy w' u.ownBlock) (hne : Apart v u) : Ow B w' v l := by
  refine h.kept hg ?_
  cases e : v.ownBlock with
  | none => exact .inl rfl
  | some g => exact .inr fun e2 => hne g e e2.symm
theorem Apart.grown {B : Nat} {w : World} {v u u' : Value} {l : List Nat} (h : Apart v u) (ho : Ow B w v l) (hu : u'.ownBlock = u.ownBlock ∨ ∃ g, u'.ownBlock = some g ∧ w.heap.size ≤ g) : Apart v u' := fun g hv e => by
  rcases hu with hu | ⟨g', hu, hg⟩
  · exact h g hv (hu ▸ e)
  · rw [hu] at e
    simp at e; subst e
    have := (World.ownsRow.lt ho _ hv).2; omega
def One (f : Int) (B : Nat) (W w : World) (n : Nat) (vx vy : Value) (X Y : List Nat) : Prop :=
  On W w ∧ W.heap.size ≤ B ∧ B ≤ w.heap.size ∧ Ow B w vx X ∧ Ow B w vy Y ∧ Apart vx vy ∧ X.length = n ∧ Y.length = n ∧ n ≤ 24 ∧ (∀ x ∈ X, x ≤ 18446744073709551615) ∧ (∀ x ∈ Y, x ≤ 18446744073709551615) ∧ Diff f X
theorem One.start {f : Int} {W : World} (h : Tab W) : One f W.heap.size W W 0 (.slice none 0 0) (.slice none 0 0) [] [] :=
  ⟨On.refl h, Nat.le_refl _, Nat.le_refl _, Ow.nil _ _, Ow.nil _ _, fun g h => by simp [Value.ownBlock] at h, rfl, rfl, by omega, by simp, by simp, List.Pairwise.nil⟩
theorem One.drewN {f : Int} {B : Nat} {W w : World} {n : Nat} {vx vy : Value} {X Y : List Nat} (h : One f B W w n vx vy X Y) (k : Nat) : One f B W (w.drewN k) n vx vy X Y :=
  ⟨h.1.drewN k, h.2.1, h.2.2.1, h.2.2.2.1, h.2.2.2.2⟩
/-- Both lists take one more. -/
theorem One.more {f : Int} {B : Nat} {W w w1 w2 : World} {n x y : Nat} {vx vy vx' vy' : Value} {X Y : List Nat} (h : One f B W w n vx vy X Y) (hn : n < 24) (hx : x ≤ 18446744073709551615) (hy : y ≤ 18446744073709551615) (ha : amongB X (pOf f) (x % pOf f) n = false)
    (o1 : Ow B w1 vx' (X ++ [x])) (g1 : w.grownBy w1 vx.ownBlock) (b1 : vx'.ownBlock = vx.ownBlock ∨ ∃ g, vx'.ownBlock = some g ∧ w.heap.size ≤ g)
    (o2 : Ow B w2 vy' (Y ++ [y])) (g2 : w1.grownBy w2 vy.ownBlock) (b2 : vy'.ownBlock = vy.ownBlock ∨ ∃ g, vy'.ownBlock = some g ∧ w1.heap.size ≤ g) : One f B W w2 (n + 1) vx' vy' (X ++ [x]) (Y ++ [y]) := by
  obtain ⟨h1, h2, h3, h4, h5, h6, h7, h8, h9, h10, h11, h12⟩ := h
  have hO1 := h1.grown h2 h4 g1
  have hy1 := h5.kept' g1 h6.symm
  have hap1 : Apart vy vx' := h6.symm.grown h5 b1
  have hO2 := hO1.grown h2 hy1 g2
  have hap2 : Apart vx' vy' := hap1.symm.grown o1 b2
  have hs1 := g1.size; have hs2 := g2.size
  refine ⟨hO2, h2, by omega, o1.kept' g2 hap1.symm, o2, hap2, by simp [h7], by simp [h8], by omega, ?_, ?_, ?_⟩
  · intro z hz; rcases List.mem_append.1 hz with hz | hz
    · exact h10 z hz
    · simp at hz; subst hz; exact hx
  · intro z hz; rcases List.mem_append.1 hz with hz | hz
    · exact h11 z hz
    · simp at hz; subst hz; exact hy
  · exact h12.snoc (by rw [h7]; exact ha)
theorem One.appX {f : Int} {B : Nat} {W w : World} {n : Nat} {vx vy : Value} {X Y : List Nat} (h : One f B W w n vx vy X Y) (x : Nat) (C : Nat) (hC : C = w.heap.size) :
    ∃ a c w', (∀ ty, (Builtin.append_ #[33, 33] ty #[vx, .slice (some ⟨C, 0, none⟩) 1 1]).run Tryd.prog (w.alloc (.cells #[.int .u64 (x : Int)] 22)) = .ok (.slice a (n + 1) c) w') ∧
      Ow B w' (.slice a (n + 1) c) (X ++ [x]) ∧ w.grownBy w' vx.ownBlock ∧ ((Value.slice a (n + 1) c).ownBlock = vx.ownBlock ∨ ∃ g, (Value.slice a (n + 1) c).ownBlock = some g ∧ w.heap.size ≤ g) := by
  obtain ⟨h1, h2, h3, h4, h5, h6, h7, h8, h9, h10, h11, h12⟩ := h
  obtain ⟨v', w', a1, a2, a3, a4⟩ := append_own B x _ rfl X vx w C hC h4 h3 (by omega)
  obtain ⟨a, c, rfl⟩ := a2.shape
  have e : (X ++ [x]).length = n + 1 := by simp [h7]
  rw [e] at a1 a2 a4
  exact ⟨a, c, w', a1, a2, a3, a4⟩
theorem One.appY {f : Int} {B : Nat} {W w w1 : World} {n : Nat} {vx vy : Value} {X Y : List Nat} (h : One f B W w n vx vy X Y) (g1 : w.grownBy w1 vx.ownBlock) (y : Nat) (C : Nat) (hC : C = w1.heap.size) :
    ∃ a c w', (∀ ty, (Builtin.append_ #[33, 33] ty #[vy, .slice (some ⟨C, 0, none⟩) 1 1]).run Tryd.prog (w1.alloc (.cells #[.int .u64 (y : Int)] 22)) = .ok (.slice a (n + 1) c) w') ∧
      Ow B w' (.slice a (n + 1) c) (Y ++ [y]) ∧ w1.grownBy w' vy.ownBlock ∧ ((Value.slice a (n + 1) c).ownBlock = vy.ownBlock ∨ ∃ g, (Value.slice a (n + 1) c).ownBlock = some g ∧ w1.heap.size ≤ g) := by
  obtain ⟨h1, h2, h3, h4, h5, h6, h7, h8, h9, h10, h11, h12⟩ := h
  have hs1 := g1.size
  obtain ⟨v', w', a1, a2, a3, a4⟩ := append_own B y _ rfl Y vy w1 C hC (h5.kept' g1 h6.symm) (by omega) (by omega)
  obtain ⟨a, c, rfl⟩ := a2.shape
  have e : (Y ++ [y]).length = n + 1 := by simp [h8]
  rw [e] at a1 a2 a4
  exact ⟨a, c, w', a1, a2, a3, a4⟩
end Go.Proofs.YtiibcfajcndcnaaDoor
