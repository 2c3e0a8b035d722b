/- Package poly: the memory of Through. -/
import Derived.Test.YtdhacfagmfecgaaDoorPwalkI
namespace Go.Proofs.YtdhacfagmfecgaaDoor
open Go.RowKit Go.Shelf
set_option linter.unusedVariables false
attribute [local go_sem] Oper.semAt_some

theorem box_on {W W' : World} {B : Nat} {t : TypeId} {v : Value} (h : Boxed W B t v) (k : On W W') : Boxed W' B t v := (k.2.block B h.lt).trans h
theorem box_ap {W W' : World} {B C : Nat} {t : TypeId} {v : Value} (h : Boxed W B t v) (k : Ap C W W') (hne : B ≠ C) : Boxed W' B t v := h.kept k (by simpa using hne)
theorem box_other {W : World} {B : Nat} {t : TypeId} {v : Value} (h : Boxed W B t v) (p : Addr) (hne : B ≠ p.block) (u : Value) : Boxed (W.setCell p u) B t v := (Below.heap_setCell _ _ _ _ hne).trans h
theorem Row.setOther {g cap : Nat} {w : World} {l : List Nat} (h : Row g cap w l) (p : Addr) (hne : g ≠ p.block) (u : Value) : Row g cap (w.setCell p u) l := h.kept (Below.heap_setCell _ _ _ _ hne)
/-- The call's own memory: the parameter, the results, the two lists. -/
structure ThS (f : Int) (n b0 b1 b2 b8 b9 g1 g2 : Nat) (w : World) (L1 L2 : List Nat) (W : World) : Prop where
  bf : Boxed W b0 3 (.int .i64 f)
  br : Boxed W b1 22 (.slice none 0 0)
  be : Boxed W b2 33 (.int .i64 0)
  bo : Boxed W b8 22 (.slice (some ⟨g1, 0, none⟩) L1.length n)
  bs : Boxed W b9 22 (.slice (some ⟨g2, 0, none⟩) L2.length (n + 1))
  ro : Row g1 n W L1
  rs : Row g2 (n + 1) W L2
  bel : Below w.heap.size w W
/-- How the numbers of the blocks lie. -/
def Ord (b0 b1 b2 b8 b9 g1 g2 : Nat) : Prop := b0 < b1 ∧ b1 < b2 ∧ b2 < g1 ∧ g1 < b8 ∧ b8 < g2 ∧ g2 < b9
theorem ThS.drewN {f : Int} {n b0 b1 b2 b8 b9 g1 g2 : Nat} {w : World} {L1 L2 : List Nat} {W : World} (h : ThS f n b0 b1 b2 b8 b9 g1 g2 w L1 L2 W) (q : Nat) : ThS f n b0 b1 b2 b8 b9 g1 g2 w L1 L2 (W.drewN q) :=
  ⟨h.bf, h.br, h.be, h.bo, h.bs, h.ro.drewN q, h.rs.drewN q, h.bel.trans ⟨rfl, rfl, rfl, Nat.le_refl _, fun _ _ => rfl⟩⟩
theorem ThS.grow {f : Int} {n b0 b1 b2 b8 b9 g1 g2 : Nat} {w : World} {L1 L2 M : List Nat} {W W' : World} (h : ThS f n b0 b1 b2 b8 b9 g1 g2 w L1 L2 W) (ho : Ord b0 b1 b2 b8 b9 g1 g2) (hw : w.heap.size = b0) (hr : Row g1 n W' M) (ha : Ap g1 W W') :
    ThS f n b0 b1 b2 b8 b9 g1 g2 w M L2 (W'.setCell ⟨b8, 0, none⟩ (.slice (some ⟨g1, 0, none⟩) M.length n)) := by
  unfold Ord at ho
  refine ⟨box_other (box_ap h.bf ha (by omega)) _ (by simp; omega) _, box_other (box_ap h.br ha (by omega)) _ (by simp; omega) _, box_other (box_ap h.be ha (by omega)) _ (by simp; omega) _, (box_ap h.bo ha (by omega)).set _, box_other (box_ap h.bs ha (by omega)) _ (by simp; omega) _,
    hr.setOther _ (by simp; omega) _, (h.rs.ap ha (by omega)).setOther _ (by simp; omega) _, ?_⟩
  exact Below.setCell (h.bel.grown ha h.bel.size (fun k e => by cases e; omega)) (by simp; omega) _
theorem ThS.root {f : Int} {n b0 b1 b2 b8 b9 g1 g2 : Nat} {w : World} {L1 L2 M : List Nat} {W W' : World} (h : ThS f n b0 b1 b2 b8 b9 g1 g2 w L1 L2 W) (ho : Ord b0 b1 b2 b8 b9 g1 g2) (hw : w.heap.size = b0) (hr : Row g2 (n + 1) W' M) (ha : Ap g2 W W') :
    ThS f n b0 b1 b2 b8 b9 g1 g2 w L1 M (W'.setCell ⟨b9, 0, none⟩ (.slice (some ⟨g2, 0, none⟩) M.length (n + 1))) := by
  unfold Ord at ho
  refine ⟨box_other (box_ap h.bf ha (by omega)) _ (by simp; omega) _, box_other (box_ap h.br ha (by omega)) _ (by simp; omega) _, box_other (box_ap h.be ha (by omega)) _ (by simp; omega) _, box_other (box_ap h.bo ha (by omega)) _ (by simp; omega) _, (box_ap h.bs ha (by omega)).set _,
    (h.ro.ap ha (by omega)).setOther _ (by simp; omega) _, hr.setOther _ (by simp; omega) _, ?_⟩
  exact Below.setCell (h.bel.grown ha h.bel.size (fun k e => by cases e; omega)) (by simp; omega) _
theorem ThS.put {f : Int} {n b0 b1 b2 b8 b9 g1 g2 : Nat} {w : World} {L1 L2 : List Nat} {W : World} (h : ThS f n b0 b1 b2 b8 b9 g1 g2 w L1 L2 W) (ho : Ord b0 b1 b2 b8 b9 g1 g2) (hw : w.heap.size = b0) (j x : Nat) :
    ThS f n b0 b1 b2 b8 b9 g1 g2 w (L1.set j x) L2 (W.setCell ⟨g1, j, none⟩ (.int .u64 ((x : Nat) : Int))) := by
  unfold Ord at ho
  refine ⟨box_other h.bf _ (by simp; omega) _, box_other h.br _ (by simp; omega) _, box_other h.be _ (by simp; omega) _, ?_, box_other h.bs _ (by simp; omega) _, h.ro.set _ _, h.rs.setOther _ (by simp; omega) _, h.bel.setCell (by simp; omega) _⟩
  rw [List.length_set]
  exact box_other h.bo _ (by simp; omega) _
/-- What holds between two rounds of Through. -/
def ThI (f : Int) (n b0 b1 b2 b8 b9 g1 g2 S : Nat) (w : World) (pre : List Pt) (W : World) : Prop := okN f pre ∧ S ≤ W.heap.size ∧ ThS f n b0 b1 b2 b8 b9 g1 g2 w (stN f pre).1 (stN f pre).2 W
/-- What a round leaves as it was. -/
def Fr (B n₀ By : Nat) (W W' : World) : Prop := KeepsFrom B W W' ∧ KeepB n₀ By W W'
theorem Fr.refl (B n₀ By : Nat) (W : World) : Fr B n₀ By W W := ⟨KeepsFrom.refl _ _, KeepB.refl _ _ _⟩
theorem Fr.trans {B n₀ By : Nat} {U V W : World} (h : Fr B n₀ By U V) (k : Fr B n₀ By V W) : Fr B n₀ By U W := ⟨h.1.trans k.1, h.2.trans k.2⟩
theorem Fr.drewN {B n₀ By : Nat} {W W' : World} (h : Fr B n₀ By W W') (q : Nat) : Fr B n₀ By W (W'.drewN q) :=
  h.trans ⟨⟨Nat.le_refl _, fun _ _ _ h _ => h⟩, ⟨rfl, rfl, rfl, Nat.le_refl _, fun _ _ => rfl⟩, rfl⟩
theorem Fr.ap {B n₀ By C : Nat} {W W' W'' : World} (h : Fr B n₀ By W W') (k : Ap C W' W'') (hC : C < B) (hn : n₀ ≤ C) (hb : By ≠ C) (hs : n₀ ≤ W'.heap.size) (hB : By < W'.heap.size) : Fr B n₀ By W W'' :=
  h.trans ⟨KeepsFrom.of_grownBy k (fun j e => by cases e; exact hC), (Below.refl _ _).grown k hs (fun j e => by cases e; exact hn), k.block By hB (by simpa using hb)⟩
theorem Fr.setCell {B n₀ By : Nat} {W W' : World} (h : Fr B n₀ By W W') (p : Addr) (u : Value) (hn : n₀ ≤ p.block) (hb : By ≠ p.block) : Fr B n₀ By W (W'.setCell p u) :=
  h.trans ⟨(KeepsOthers.setCell _ _ _).from _, (Below.refl _ _).setCell hn _, Below.heap_setCell _ _ _ _ hb⟩
/-- What holds where a round of Through has met a point again. -/
structure ThX (f : Int) (b1 b2 : Nat) (w : World) (c : Code) (pre : List Pt) (W : World) : Prop where
  ret : c = .ret
  bad : ¬ okN f pre
  br : Boxed W b1 22 (.slice none 0 0)
  be : Boxed W b2 33 (.int .i64 6)
  bel : Below w.heap.size w W
theorem ThI.own {f : Int} {n b0 b1 b2 b8 b9 g1 g2 S B : Nat} {w : World} (h : b0 < B ∧ b1 < B ∧ b2 < B ∧ b8 < B ∧ b9 < B ∧ g1 < B ∧ g2 < B ∧ w.heap.size ≤ B) : OwnFrom B (ThI f n b0 b1 b2 b8 b9 g1 g2 S w) := by
  intro pre W W' row ⟨hok, hsz, hs⟩ hg hr
  have ne : ∀ b, b < B → some b ≠ row := fun b hb e => by have := (hr b e.symm).1; omega
  obtain ⟨h0, h1, h2, h3, h4, h5, h6, h7⟩ := h
  exact ⟨hok, Nat.le_trans hsz hg.size, hs.bf.kept hg (ne _ h0), hs.br.kept hg (ne _ h1), hs.be.kept hg (ne _ h2), hs.bo.kept hg (ne _ h3), hs.bs.kept hg (ne _ h4), hs.ro.kept (hg.block _ hs.ro.blk.1 (ne _ h5)), hs.rs.kept (hg.block _ hs.rs.blk.1 (ne _ h6)),
    hs.bel.grown hg hs.bel.size (fun k e => by have := (hr k e).1; omega)⟩
theorem ThX.own {f : Int} {b1 b2 B : Nat} {w : World} (h : b1 < B ∧ b2 < B ∧ w.heap.size ≤ B) (c : Code) : OwnFrom B (ThX f b1 b2 w c) := by
  intro pre W W' row hs hg hr
  have ne : ∀ b, b < B → some b ≠ row := fun b hb e => by have := (hr b e.symm).1; omega
  exact ⟨hs.ret, hs.bad, hs.br.kept hg (ne _ h.1), hs.be.kept hg (ne _ h.2.1), hs.bel.grown hg hs.bel.size (fun k e => by have := (hr k e).1; omega)⟩
theorem row_new (w : World) (n B : Nat) (hn : n ≤ 35184372088832) (hB : B = w.heap.size) : Row B n (w.alloc (.cells (madeCells #[.int .u64 0] n) 23)) [] := hB ▸ row_made w n hn
theorem box_new (w : World) (t : TypeId) (v : Value) (B : Nat) (hB : B = w.heap.size) : Boxed (w.alloc (.cells #[v] t)) B t v := hB ▸ Boxed.new w t v

theorem trim_own (g : Nat) (l : List Nat) (cap : Nat) (w : World) (hL : l.length ≤ cap) (hcap : cap ≤ 9223372036854775807) (hb : Blk g w l) :
    Calls Tryd.prog 33 #[.slice (some ⟨g, 0, none⟩) l.length cap] w fun e w' => (∃ au M, e = .returned (.slice au M M) ∧ ((strip l = [] ∧ au = none ∧ M = 0) ∨ (au = some ⟨g, 0, none⟩ ∧ M = (strip l).length))) ∧ w = w' := by
  refine (trim_rows l _ cap w hL hcap fun i hi => ⟨g, 0, rfl, by rw [Nat.zero_add]; exact hb.cell i hi⟩).mono ?_
  rintro e w' ⟨⟨h1, rfl⟩ | rfl, rfl⟩
  · exact ⟨⟨none, 0, rfl, .inl ⟨h1, rfl, rfl⟩⟩, rfl⟩
  · exact ⟨⟨_, _, rfl, .inr ⟨rfl, rfl⟩⟩, rfl⟩
theorem round_append2 {P : Program} {w w' : World} {ops : Array Oper} {rest : List Oper} {o : Oper} {a : Act} {Q : Exit → Act → World → Prop} {m lo : Nat} (hgd : o.guard = none) (s x : Operand) (t u : TypeId)
    (ho : o.op = .call { callee := .builtin .append, args := #[s, x], argTypes := #[t, u] }) (vs vx v' : Value) (hs : a.eval s = vs) (hx : a.eval x = vx) (hrun : ∀ ty, (Builtin.append_ #[t, u] ty #[vs, vx]).run P w = .ok v' w')
    (h : wpListIn (Fence.wide.inRound lo) m P ops Q rest (a.put o.dst v') w') : wpListIn (Fence.wide.inRound lo) m P ops Q (o :: rest) a w :=
  wpListIn_plain hgd fun K hK => by
    refine ⟨fun _ _ => trivial, ?_⟩
    rw [Oper.semAt_eq _ _ _ (by rw [ho]; intro c h; cases h)]
    unfold execOp
    simp only [ho, resolve, invoke, builtin, Sem.run_bind, Sem.run_pure, Result.andThen_ok, List.map_toArray, List.map_cons, List.map_nil, hs, hx, hrun]
    exact hK _ _ h
end Go.Proofs.YtdhacfagmfecgaaDoor
