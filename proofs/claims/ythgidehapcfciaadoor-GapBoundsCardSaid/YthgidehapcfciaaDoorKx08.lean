/- Package poly: points, and what it hands over: what the calls return. -/
import Derived.Test.YthgidehapcfciaaDoorKx05
import Derived.Test.YthgidehapcfciaaDoorKx07
import Derived.RangeFuncBox
import Derived.Test.YthgidehapcfciaaDoorKx01
set_option linter.unusedSimpArgs false
set_option linter.unusedVariables false
/- Package poly: points, and what it hands over: what the calls return. -/
namespace Go.Proofs.YthgidehapcfciaaDoor
open Go.RowKit Go.Shelf
set_option linter.unusedVariables false
attribute [local go_sem] Oper.semAt_some

/-- What a round must leave as it was: all below n₀, and the block B. -/
def KeepB (n₀ B : Nat) (W W' : World) : Prop := Below n₀ W W' ∧ W'.heap[B]? = W.heap[B]?
theorem KeepB.refl (n₀ B : Nat) (W : World) : KeepB n₀ B W W := ⟨Below.refl _ _, rfl⟩
theorem KeepB.trans {n₀ B : Nat} {U V W : World} (h : KeepB n₀ B U V) (k : KeepB n₀ B V W) : KeepB n₀ B U W := ⟨h.1.trans k.1, k.2.trans h.2⟩

end Go.Proofs.YthgidehapcfciaaDoor

/- Package poly: the memory of Through. -/
namespace Go.Proofs.YthgidehapcfciaaDoor
open Go.RowKit Go.Shelf
set_option linter.unusedVariables false
attribute [local go_sem] Oper.semAt_some

theorem box_on {W W' : World} {B : Nat} {t : TypeId} {v : Value} (h : Boxed W B t v) (k : On W W') : Boxed W' B t v := (k.2.block B h.lt).trans h
theorem box_ap {W W' : World} {B C : Nat} {t : TypeId} {v : Value} (h : Boxed W B t v) (k : Ap C W W') (hne : B ≠ C) : Boxed W' B t v := h.kept k (by simpa using hne)
theorem box_other {W : World} {B : Nat} {t : TypeId} {v : Value} (h : Boxed W B t v) (p : Addr) (hne : B ≠ p.block) (u : Value) : Boxed (W.setCell p u) B t v := (Below.heap_setCell _ _ _ _ hne).trans h
theorem Row.setOther {g cap : Nat} {w : World} {l : List Nat} (h : Row g cap w l) (p : Addr) (hne : g ≠ p.block) (u : Value) : Row g cap (w.setCell p u) l := h.kept (Below.heap_setCell _ _ _ _ hne)
/-- The call's own memory: the parameter, the results, the two lists. -/
structure ThS (f : Int) (n b0 b1 b2 b8 b9 g1 g2 : Nat) (w : World) (L1 L2 : List Nat) (W : World) : Prop where
  bf : Boxed W b0 3 (.int .i64 f)
  br : Boxed W b1 35 (.slice none 0 0)
  be : Boxed W b2 27 (.int .i64 0)
  bo : Boxed W b8 35 (.slice (some ⟨g1, 0, none⟩) L1.length n)
  bs : Boxed W b9 35 (.slice (some ⟨g2, 0, none⟩) L2.length (n + 1))
  ro : Row g1 n W L1
  rs : Row g2 (n + 1) W L2
  bel : Below w.heap.size w W
/-- How the numbers of the blocks lie. -/
def Ord (b0 b1 b2 b8 b9 g1 g2 : Nat) : Prop := b0 < b1 ∧ b1 < b2 ∧ b2 < g1 ∧ g1 < b8 ∧ b8 < g2 ∧ g2 < b9
theorem ThS.drewN {f : Int} {n b0 b1 b2 b8 b9 g1 g2 : Nat} {w : World} {L1 L2 : List Nat} {W : World} (h : ThS f n b0 b1 b2 b8 b9 g1 g2 w L1 L2 W) (q : Nat) : ThS f n b0 b1 b2 b8 b9 g1 g2 w L1 L2 (W.drewN q) :=
  ⟨h.bf, h.br, h.be, h.bo, h.bs, h.ro.drewN q, h.rs.drewN q, h.bel.trans ⟨rfl, rfl, rfl, Nat.le_refl _, fun _ _ => rfl⟩⟩
theorem ThS.grow {f : Int} {n b0 b1 b2 b8 b9 g1 g2 : Nat} {w : World} {L1 L2 M : List Nat} {W W' : World} (h : ThS f n b0 b1 b2 b8 b9 g1 g2 w L1 L2 W) (ho : Ord b0 b1 b2 b8 b9 g1 g2) (hw : w.heap.size = b0) (hr : Row g1 n W' M) (ha : Ap g1 W W') :
    ThS f n b0 b1 b2 b8 b9 g1 g2 w M L2 (W'.setCell ⟨b8, 0, none⟩ (.slice (some ⟨g1, 0, none⟩) M.length n)) := by
  unfold Ord at ho
  refine ⟨box_other (box_ap h.bf ha (by omega)) _ (by simp; omega) _, box_other (box_ap h.br ha (by omega)) _ (by simp; omega) _, box_other (box_ap h.be ha (by omega)) _ (by simp; omega) _, (box_ap h.bo ha (by omega)).set _, box_other (box_ap h.bs ha (by omega)) _ (by simp; omega) _,
    hr.setOther _ (by simp; omega) _, (h.rs.ap ha (by omega)).setOther _ (by simp; omega) _, ?_⟩
  exact Below.setCell (h.bel.grown ha h.bel.size (fun k e => by cases e; omega)) (by simp; omega) _
theorem ThS.root {f : Int} {n b0 b1 b2 b8 b9 g1 g2 : Nat} {w : World} {L1 L2 M : List Nat} {W W' : World} (h : ThS f n b0 b1 b2 b8 b9 g1 g2 w L1 L2 W) (ho : Ord b0 b1 b2 b8 b9 g1 g2) (hw : w.heap.size = b0) (hr : Row g2 (n + 1) W' M) (ha : Ap g2 W W') :
    ThS f n b0 b1 b2 b8 b9 g1 g2 w L1 M (W'.setCell ⟨b9, 0, none⟩ (.slice (some ⟨g2, 0, none⟩) M.length (n + 1))) := by
  unfold Ord at ho
  refine ⟨box_other (box_ap h.bf ha (by omega)) _ (by simp; omega) _, box_other (box_ap h.br ha (by omega)) _ (by simp; omega) _, box_other (box_ap h.be ha (by omega)) _ (by simp; omega) _, box_other (box_ap h.bo ha (by omega)) _ (by simp; omega) _, (box_ap h.bs ha (by omega)).set _,
    (h.ro.ap ha (by omega)).setOther _ (by simp; omega) _, hr.setOther _ (by simp; omega) _, ?_⟩
  exact Below.setCell (h.bel.grown ha h.bel.size (fun k e => by cases e; omega)) (by simp; omega) _
theorem ThS.put {f : Int} {n b0 b1 b2 b8 b9 g1 g2 : Nat} {w : World} {L1 L2 : List Nat} {W : World} (h : ThS f n b0 b1 b2 b8 b9 g1 g2 w L1 L2 W) (ho : Ord b0 b1 b2 b8 b9 g1 g2) (hw : w.heap.size = b0) (j x : Nat) :
    ThS f n b0 b1 b2 b8 b9 g1 g2 w (L1.set j x) L2 (W.setCell ⟨g1, j, none⟩ (.int .u64 ((x : Nat) : Int))) := by
  unfold Ord at ho
  refine ⟨box_other h.bf _ (by simp; omega) _, box_other h.br _ (by simp; omega) _, box_other h.be _ (by simp; omega) _, ?_, box_other h.bs _ (by simp; omega) _, h.ro.set _ _, h.rs.setOther _ (by simp; omega) _, h.bel.setCell (by simp; omega) _⟩
  rw [List.length_set]
  exact box_other h.bo _ (by simp; omega) _
/-- What holds between two rounds of Through. -/
def ThI (f : Int) (n b0 b1 b2 b8 b9 g1 g2 S : Nat) (w : World) (pre : List Pt) (W : World) : Prop := okNp f pre ∧ S ≤ W.heap.size ∧ ThS f n b0 b1 b2 b8 b9 g1 g2 w (stN f pre).1 (stN f pre).2 W
/-- What a round leaves as it was. -/
def Fr (B n₀ By : Nat) (W W' : World) : Prop := KeepsFrom B W W' ∧ KeepB n₀ By W W'
theorem Fr.refl (B n₀ By : Nat) (W : World) : Fr B n₀ By W W := ⟨KeepsFrom.refl _ _, KeepB.refl _ _ _⟩
theorem Fr.trans {B n₀ By : Nat} {U V W : World} (h : Fr B n₀ By U V) (k : Fr B n₀ By V W) : Fr B n₀ By U W := ⟨h.1.trans k.1, h.2.trans k.2⟩
theorem Fr.drewN {B n₀ By : Nat} {W W' : World} (h : Fr B n₀ By W W') (q : Nat) : Fr B n₀ By W (W'.drewN q) :=
  h.trans ⟨⟨Nat.le_refl _, fun _ _ _ h _ => h⟩, ⟨rfl, rfl, rfl, Nat.le_refl _, fun _ _ => rfl⟩, rfl⟩
theorem Fr.ap {B n₀ By C : Nat} {W W' W'' : World} (h : Fr B n₀ By W W') (k : Ap C W' W'') (hC : C < B) (hn : n₀ ≤ C) (hb : By ≠ C) (hs : n₀ ≤ W'.heap.size) (hB : By < W'.heap.size) : Fr B n₀ By W W'' :=
  h.trans ⟨KeepsFrom.of_grownBy k (fun j e => by cases e; exact hC), (Below.refl _ _).grown k hs (fun j e => by cases e; exact hn), k.block By hB (by simpa using hb)⟩
theorem Fr.setCell {B n₀ By : Nat} {W W' : World} (h : Fr B n₀ By W W') (p : Addr) (u : Value) (hn : n₀ ≤ p.block) (hb : By ≠ p.block) : Fr B n₀ By W (W'.setCell p u) :=
  h.trans ⟨(KeepsOthers.setCell _ _ _).from _, (Below.refl _ _).setCell hn _, Below.heap_setCell _ _ _ _ hb⟩
/-- What holds where a round of Through has met a point again. -/
structure ThX (f : Int) (b1 b2 : Nat) (w : World) (c : Code) (pre : List Pt) (W : World) : Prop where
  ret : c = .ret
  bad : ¬ okNp f pre
  br : Boxed W b1 35 (.slice none 0 0)
  be : Boxed W b2 27 (.int .i64 6)
  bel : Below w.heap.size w W
theorem ThI.own {f : Int} {n b0 b1 b2 b8 b9 g1 g2 S B : Nat} {w : World} (h : b0 < B ∧ b1 < B ∧ b2 < B ∧ b8 < B ∧ b9 < B ∧ g1 < B ∧ g2 < B ∧ w.heap.size ≤ B) : OwnFrom B (ThI f n b0 b1 b2 b8 b9 g1 g2 S w) := by
  intro pre W W' row ⟨hok, hsz, hs⟩ hg hr
  have ne : ∀ b, b < B → some b ≠ row := fun b hb e => by have := (hr b e.symm).1; omega
  obtain ⟨h0, h1, h2, h3, h4, h5, h6, h7⟩ := h
  exact ⟨hok, Nat.le_trans hsz hg.size, hs.bf.kept hg (ne _ h0), hs.br.kept hg (ne _ h1), hs.be.kept hg (ne _ h2), hs.bo.kept hg (ne _ h3), hs.bs.kept hg (ne _ h4), hs.ro.kept (hg.block _ hs.ro.blk.1 (ne _ h5)), hs.rs.kept (hg.block _ hs.rs.blk.1 (ne _ h6)),
    hs.bel.grown hg hs.bel.size (fun k e => by have := (hr k e).1; omega)⟩
theorem ThX.own {f : Int} {b1 b2 B : Nat} {w : World} (h : b1 < B ∧ b2 < B ∧ w.heap.size ≤ B) (c : Code) : OwnFrom B (ThX f b1 b2 w c) := by
  intro pre W W' row hs hg hr
  have ne : ∀ b, b < B → some b ≠ row := fun b hb e => by have := (hr b e.symm).1; omega
  exact ⟨hs.ret, hs.bad, hs.br.kept hg (ne _ h.1), hs.be.kept hg (ne _ h.2.1), hs.bel.grown hg hs.bel.size (fun k e => by have := (hr k e).1; omega)⟩
theorem row_new (w : World) (n B : Nat) (hn : n ≤ 35184372088832) (hB : B = w.heap.size) : Row B n (w.alloc (.cells (madeCells #[.int .u64 0] n) 46)) [] := hB ▸ row_made w n hn
theorem box_new (w : World) (t : TypeId) (v : Value) (B : Nat) (hB : B = w.heap.size) : Boxed (w.alloc (.cells #[v] t)) B t v := hB ▸ Boxed.new w t v

theorem trim_own (g : Nat) (l : List Nat) (cap : Nat) (w : World) (hL : l.length ≤ cap) (hcap : cap ≤ 9223372036854775807) (hb : Blk g w l) :
    Calls Tryd.prog 101 #[.slice (some ⟨g, 0, none⟩) l.length cap] w fun e w' => (∃ au M, e = .returned (.slice au M M) ∧ ((strip l = [] ∧ au = none ∧ M = 0) ∨ (au = some ⟨g, 0, none⟩ ∧ M = (strip l).length))) ∧ w = w' := by
  refine (trim_rows l _ cap w hL hcap fun i hi => ⟨g, 0, rfl, by rw [Nat.zero_add]; exact hb.cell i hi⟩).mono ?_
  rintro e w' ⟨⟨h1, rfl⟩ | rfl, rfl⟩
  · exact ⟨⟨none, 0, rfl, .inl ⟨h1, rfl, rfl⟩⟩, rfl⟩
  · exact ⟨⟨_, _, rfl, .inr ⟨rfl, rfl⟩⟩, rfl⟩
theorem round_append2 {P : Program} {w w' : World} {ops : Array Oper} {rest : List Oper} {o : Oper} {a : Act} {Q : Exit → Act → World → Prop} {m lo : Nat} (hgd : o.guard = none) (s x : Operand) (t u : TypeId)
    (ho : o.op = .call { callee := .builtin .append, args := #[s, x], argTypes := #[t, u] }) (vs vx v' : Value) (hs : a.eval s = vs) (hx : a.eval x = vx) (hrun : ∀ ty, (Builtin.append_ #[t, u] ty #[vs, vx]).run P w = .ok v' w')
    (h : wpListIn (Fence.wide.inRound lo) m P ops Q rest (a.put o.dst v') w') : wpListIn (Fence.wide.inRound lo) m P ops Q (o :: rest) a w :=
  wpListIn_plain hgd fun K hK => by
    refine ⟨fun _ _ => trivial, ?_⟩
    rw [Oper.semAt_eq _ _ _ (by rw [ho]; intro c h; cases h)]
    unfold execOp
    simp only [ho, resolve, invoke, builtin, Sem.run_bind, Sem.run_pure, Result.andThen_ok, List.map_toArray, List.map_cons, List.map_nil, hs, hx, hrun]
    exact hK _ _ h
end Go.Proofs.YthgidehapcfciaaDoor

/- Package poly: Through: what the call returns. -/
namespace Go.Proofs.YthgidehapcfciaaDoor
open Go.RowKit Go.Shelf
set_option linter.unusedVariables false
attribute [local go_sem] Oper.semAt_some

end Go.Proofs.YthgidehapcfciaaDoor

/- The law's own calls: same and own: what each returns. -/
namespace Go.Proofs.YthgidehapcfciaaDoor
open Go.RowKit
set_option linter.unusedVariables false

theorem run_append_nil3 {P : Program} (w : World) (t u ty e : TypeId) (i : TypeInfo) (z : Value) (ht : P.underlying t = some (.slice e)) (hu : P.underlying u = some (.slice e)) (hi : P.info? e = some i) (hz : i.zero = some z)
    (a : Addr) (n c : Nat) (news : List Value) (hl : news.length = n * i.size) (hnews : ∀ j v, news[j]? = some v → w.cell? (a.add j) = some v)
    (h0 : 0 < n) (h63 : (n : Int) ≤ 9223372036854775807) (h48 : n * i.bytes ≤ 281474976710656) :
    (Builtin.append_ #[t, u] ty #[.slice none 0 0, .slice (some a) n c]).run P w =
      .ok (.slice (some ⟨w.heap.size, 0, none⟩) n (grownCap w n 0 e)) (w.drew.alloc (.cells (news.toArray ++ Builtin.zeroCells z.cells (grownCap w n 0 e - n)) e)) := by
  have hn : n ≠ 0 := by omega
  have h63' : ¬ (9223372036854775807 < (n : Int)) := by omega
  have h48' : ¬ (281474976710656 < Builtin.nextslicecap n 0 * i.bytes) := by rw [nextslicecap_zero h0]; omega
  have hf := run_firstCells_some (P := P) w.drew i.size n a n c news hl (by simpa using hnews)
  simp [Builtin.append_, run_underlying ht, run_underlying hu, sizeOf, typeInfo, zeroValue, hi, hz, Builtin.lenOf, hn, h63', h48', Question.forced, run_firstCells_none, hf, newRow, grownCap]
theorem run_append_none3 {P : Program} (w : World) (t u ty e : TypeId) (i : TypeInfo) (ht : P.underlying t = some (.slice e)) (hu : P.underlying u = some (.slice e)) (hi : P.info? e = some i) (oa : Option Addr) (c : Nat) :
    (Builtin.append_ #[t, u] ty #[.slice none 0 0, .slice oa 0 c]).run P w = .ok (.slice none 0 0) w := by
  cases oa <;> simp [Builtin.append_, run_underlying ht, run_underlying hu, sizeOf, typeInfo, hi, Builtin.lenOf, Builtin.firstCells, loadCells, loadCellsFrom]
/-- What an append of a list onto nothing gives. -/
theorem append_list (w : World) (l : List Nat) (oa : Option Addr) (c : Nat) (hT : Tab w) (hR : Reads w (.slice oa l.length c) l) (hk : l.length ≤ 1000000) :
    ∃ v' w', (∀ ty, (Builtin.append_ #[35, 35] ty #[.slice none 0 0, .slice oa l.length c]).run Tryd.prog w = .ok v' w') ∧ Reads w' v' l ∧ On w w' := by
  obtain ⟨i0, hi, hz0, hz1, hz2⟩ := info_parts info_u64
  rcases Nat.eq_zero_or_pos l.length with h0 | h0
  · obtain rfl := List.length_eq_zero_iff.1 h0
    exact ⟨_, _, fun ty => run_append_none3 w _ _ ty _ i0 Tryd.underlying35 Tryd.underlying35 hi oa c, Reads.nil _ _ _, On.refl hT⟩
  · obtain ⟨-, hc⟩ := reads_opt hR
    obtain ⟨b, off, rfl, _⟩ := hc 0 h0
    have hc' : ∀ j, j < l.length → w.cell? ⟨b, off + j, none⟩ = some (.int .u64 ((l.getD j 0 : Nat) : Int)) := fun j hj => by
      obtain ⟨b', off', h1, h2⟩ := hc j hj
      simp only [Option.some.injEq, Addr.mk.injEq] at h1
      obtain ⟨rfl, rfl, -⟩ := h1
      exact h2
    have hrun := fun ty => run_append_nil3 (P := Tryd.prog) w 35 35 ty 46 i0 (.int .u64 0) Tryd.underlying35 Tryd.underlying35 hi hz0 ⟨b, off, none⟩ l.length c (nums l) (by rw [nums_len, hz1, Nat.mul_one])
      (fun j v hj => by
        have hj' : j < l.length := by have := (List.getElem?_eq_some_iff.1 hj).1; rwa [nums_len] at this
        rw [nums_get _ _ hj'] at hj
        rw [← hj, add_plain]
        exact hc' j hj') h0 (by omega) (by rw [hz2]; omega)
    refine ⟨_, _, hrun, ⟨hR.1, hR.2.1, .inr ⟨_, 0, _, rfl, fun j hj => ?_⟩⟩, (On.refl hT).drew.alloc _⟩
    rw [Nat.zero_add]
    have hs : w.drew.heap.size = w.heap.size := rfl
    rw [← hs, World.cell?_alloc_new, Array.getElem?_append_left (by simp [nums_len]; exact hj)]
    have := nums_get l j hj
    simpa using this
/-- The shape of a slice that reads as l. -/
def Shape (v : Value) (l : List Nat) : Prop := ∃ a cap, v = .slice a l.length cap ∧ l.length ≤ cap ∧ cap ≤ 9223372036854775807 ∧ (a = none → cap = 0)
/-- The first n of a list that comes in. -/
theorem Reads.take {w : World} {a : Option Addr} {cap : Nat} {l : List Nat} (h : Reads w (.slice a l.length cap) l) (n m : Nat) (hn : m = min l.length n) : Reads w (.slice a m cap) (l.take n) := by
  subst hn
  obtain ⟨hU, hL, hc⟩ := h
  refine ⟨fun x hx => hU x (List.mem_of_mem_take hx), by rw [List.length_take]; omega, ?_⟩
  rcases hc with ⟨rfl, a', cap', hv⟩ | ⟨b, off, cap', hv, hc⟩
  · exact .inl ⟨by simp, a, cap, by simp⟩
  · simp only [Value.slice.injEq, and_true, true_and] at hv
    obtain ⟨rfl, rfl⟩ := hv
    refine .inr ⟨b, off, cap, by rw [List.length_take, Nat.min_comm], fun i hi => ?_⟩
    rw [List.length_take] at hi
    have : (l.take n).getD i 0 = l.getD i 0 := by
      rw [List.getD_eq_getElem?_getD, List.getD_eq_getElem?_getD, List.getElem?_take, if_pos (by omega)]
    rw [this]
    exact hc i (by omega)
end Go.Proofs.YthgidehapcfciaaDoor

/- The examples that every law of the third stage asks besides: the call returns true. -/
namespace Go.Proofs.YthgidehapcfciaaDoor
open Go.RowKit
set_option linter.unusedVariables false

theorem heap_at (w : World) (o : Obj) (n : Nat) (h : n = w.heap.size) : (w.alloc o).heap[n]? = some o := by subst h; exact World.alloc_heap_new _ _
theorem reads_at (w : World) (B : Nat) (l : List Nat) (cap : Nat) (c : Array Value) (hB : w.heap[B]? = some (.cells c 46 (0, 0))) (hc : c.toList = nums l) (hU : ∀ x ∈ l, x ≤ 18446744073709551615) (hL : l.length ≤ 9223372036854775807) : Reads w (.slice (some ⟨B, 0, none⟩) l.length cap) l := by
  refine ⟨hU, hL, .inr ⟨B, 0, cap, rfl, fun i hi => ?_⟩⟩
  have h := nums_get l i hi
  rw [← hc] at h
  unfold World.cell?
  rw [hB]
  simpa using h
theorem reads_new (w : World) (l : List Nat) (cap : Nat) (c : Array Value) (B : Nat) (hB : B = w.heap.size) (hc : c.toList = nums l) (hU : ∀ x ∈ l, x ≤ 18446744073709551615) (hL : l.length ≤ 9223372036854775807) : Reads (w.alloc (.cells c 46)) (.slice (some ⟨B, 0, none⟩) l.length cap) l :=
  reads_at _ _ l cap c (heap_at _ _ _ hB) hc hU hL

theorem w_eval (f : Int) (l : List Nat) (x y : Nat) (v : Value) (w : World) (hT : Tab w) (hR : Reads w v l) (hx : x ≤ 18446744073709551615) (hy : evF f l x = y) :
    Calls Tryd.prog 28 #[.int .i64 f, v, .int .u64 (x : Int)] w fun e w' => e = .returned (.int .u64 (y : Int)) ∧ On w w' :=
  (eval_any f l x v w hT hR hx).mono fun e w' ⟨h1, n, h2⟩ => ⟨by rw [h1, hy], by rw [h2]; exact (On.refl hT).drewN n⟩
/-- The points of two lists. -/
theorem bdL (l : List Nat) (h : ∀ x ∈ l, x ≤ 18446744073709551615) : ∀ j, l.getD j 0 ≤ 18446744073709551615 := fun j => by
  rcases Nat.lt_or_ge j l.length with h1 | h1
  · exact h _ (getD_mem l j h1)
  · rw [getD_over h1]; omega
def ptsL (xs ys : List Nat) (hx : ∀ x ∈ xs, x ≤ 18446744073709551615) (hy : ∀ x ∈ ys, x ≤ 18446744073709551615) : List Pt := uptoN (ptAt (fun j => xs.getD j 0) (fun j => ys.getD j 0) (bdL xs hx) (bdL ys hy)) xs.length
theorem k_div {Q R : List Nat} (h : DivR 0 (normF 0 [96, 0, 1]) (normF 0 [96, 1]) Q R) : Q = [1, 1] ∧ R = [] := by
  have hn : normF 0 [96, 1] = [96, 1] := by decide +kernel
  rw [hn] at h
  refine div_unique (last := 1) (by decide) rfl (by decide +kernel) h ?_
  refine ⟨by decide +kernel, by decide +kernel, .inr (by decide +kernel), .inl rfl, by decide, by decide +kernel, .inr (by decide +kernel), fun k => ?_⟩
  rcases Nat.lt_or_ge k 4 with h1 | h1
  · obtain rfl | rfl | rfl | rfl : k = 0 ∨ k = 1 ∨ k = 2 ∨ k = 3 := by omega
    all_goals decide +kernel
  · rw [conv_over _ _ _ (by simp; omega), getD_over (by simp), getD_over (by rw [show normF 0 [96, 0, 1] = [96, 0, 1] by decide +kernel]; simp; omega)]; decide
theorem k_through (hx : ∀ x ∈ [1, 2, 3], x ≤ 18446744073709551615) (hy : ∀ x ∈ [1, 4, 9], x ≤ 18446744073709551615) : okNp 0 (ptsL [1, 2, 3] [1, 4, 9] hx hy) ∧ strip (stN 0 (ptsL [1, 2, 3] [1, 4, 9] hx hy)).1 = [0, 0, 1] := by
  have e : ptsL [1, 2, 3] [1, 4, 9] hx hy = (([] ++ [(⟨(1, 1), by decide, by decide⟩ : Pt)]) ++ [⟨(2, 4), by decide, by decide⟩]) ++ [⟨(3, 9), by decide, by decide⟩] := rfl
  rw [e]
  exact ⟨okN_snoc (okN_snoc (okN_snoc (okN_nil 0) (by decide +kernel)) (by decide +kernel)) (by decide +kernel), by decide +kernel⟩

end Go.Proofs.YthgidehapcfciaaDoor
