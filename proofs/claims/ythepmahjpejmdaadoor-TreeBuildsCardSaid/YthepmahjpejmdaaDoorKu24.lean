/- slices.Chunk in pairs: what it hands over, one pair after the other. -/
import Derived.Test.YthepmahjpejmdaaDoorKu13
import Derived.Test.YthepmahjpejmdaaDoorKu16
import Derived.RangeFuncBox
set_option linter.unusedSimpArgs false
set_option linter.unusedVariables false
/- slices.Chunk in pairs: what it hands over, one pair after the other. -/
namespace Go.Proofs.YthepmahjpejmdaaDoor
open Go.RowKit Go.Shelf
set_option linter.unusedVariables false
attribute [local go_sem] Oper.semAt_some

/-- What a round must leave as it was: all below n₀, and two boxes. -/
def KeepC (n₀ B C : Nat) (W W' : World) : Prop := Below n₀ W W' ∧ W'.heap[B]? = W.heap[B]? ∧ W'.heap[C]? = W.heap[C]?
theorem KeepC.refl (n₀ B C : Nat) (W : World) : KeepC n₀ B C W W := ⟨Below.refl _ _, rfl, rfl⟩
theorem KeepC.trans {n₀ B C : Nat} {U V W : World} (h : KeepC n₀ B C U V) (k : KeepC n₀ B C V W) : KeepC n₀ B C U W := ⟨h.1.trans k.1, k.2.1.trans h.2.1, k.2.2.trans h.2.2⟩
theorem KeepC.drewN {n₀ B C : Nat} {U V : World} (h : KeepC n₀ B C U V) (n : Nat) : KeepC n₀ B C U (V.drewN n) := h.trans ⟨⟨rfl, rfl, rfl, Nat.le_refl _, fun _ _ => rfl⟩, rfl, rfl⟩
/-- The pair number k of a slice of n elements. -/
def pairV (b off n k : Nat) : Value := .slice (some ⟨b, off + 2 * k, none⟩) (min 2 (n - 2 * k)) (min 2 (n - 2 * k))

end Go.Proofs.YthepmahjpejmdaaDoor

/- The sponge's Hash: what the call returns. -/
namespace Go.Proofs.YthepmahjpejmdaaDoor
open Go.RowKit Go.Shelf
set_option linter.unusedVariables false
attribute [local go_sem] Oper.semAt_some

theorem wpListIn_store_mid {P : Program} {m : Nat} {ops : Array Oper} {rest : List Oper} {op : Oper} {a : Act} {w : World} {Q : Exit → Act → World → Prop} (hgd : op.guard = none) (ty : TypeId) (x y : Operand) (ho : op.op = .store ty x y)
    (b o : Nat) (cells : Array Value) (hx : a.eval x = .pointer (some ⟨b, o, none⟩)) (hy : a.eval y = .agg cells)
    (ht : w.there b o cells.size) (hi : (P.info? ty).map (·.size) = some cells.size) (h1 : cells.all (·.oneCell') = true)
    (h : wpListIn Fence.wide m P ops Q rest (a.put op.dst undef) (w.setCells b o cells.toList)) : wpListIn Fence.wide m P ops Q (op :: rest) a w :=
  wpListIn_plain hgd fun K hK => by
    refine ⟨fun _ _ => trivial, ?_⟩
    rw [Oper.semAt_eq _ _ _ (by rw [ho]; intro c h; cases h)]
    unfold execOp
    simp only [ho, hx, hy, Instr.storeAt, Instr.sureAddr, Sem.run_bind, Sem.run_pure, Result.andThen_ok, run_storeVar_mid w b o ty cells ht hi h1]
    exact hK _ _ h

/-- One pair of a list. -/
def stepP (f : Int) (l : List Nat) (s : St) (x : Nat) : St := permS f ⟨(s.a + l.getD (2 * x) 0) % pOf f, (s.b + l.getD (2 * x + 1) 0) % pOf f, s.c, s.d⟩
def hashP (f : Int) (l : List Nat) (s : St) (pre : List Nat) : St := pre.foldl (stepP f l) s
theorem hashP_snoc (f : Int) (l : List Nat) (s : St) (pre : List Nat) (x : Nat) : hashP f l s (pre ++ [x]) = stepP f l (hashP f l s pre) x := by unfold hashP; rw [List.foldl_append]; rfl
theorem hashP_range (f : Int) (l : List Nat) : ∀ k, hashP f l (hashTo f l 0) (List.range k) = hashTo f l k := by
  intro k
  induction k with
  | zero => rfl
  | succ k ih => rw [List.range_succ, hashP_snoc, ih]; rfl
theorem hashP_els (f : Int) (l : List Nat) (s : St) (pre : List Nat) (hp : 0 < pOf f) (hs : Els f s) : Els f (hashP f l s pre) := by
  rcases List.eq_nil_or_concat pre with rfl | ⟨pre', x, rfl⟩
  · exact hs
  · rw [List.concat_eq_append, hashP_snoc]; exact permS_els _ _ hp

theorem Mx.store4 {f : Int} {B C : Nat} {w : World} (h : Mx f B w) (hne : B ≠ C) (u0 u1 u2 u3 : Value) :
    Mx f B ((((w.setCell ⟨C, 0, none⟩ u0).setCell ⟨C, 1, none⟩ u1).setCell ⟨C, 2, none⟩ u2).setCell ⟨C, 3, none⟩ u3) :=
  h.kept (by simp [World.setCell]) fun o => World.cell?_of_block (by rw [Below.heap_setCell _ _ _ _ hne, Below.heap_setCell _ _ _ _ hne, Below.heap_setCell _ _ _ _ hne, Below.heap_setCell _ _ _ _ hne])
/-- What a round of Hash leaves as it was. -/
def Rd (B n₀ C D : Nat) (W W' : World) : Prop := KeepsFrom B W W' ∧ KeepC n₀ C D W W'
theorem Rd.refl (B n₀ C D : Nat) (W : World) : Rd B n₀ C D W W := ⟨KeepsFrom.refl _ _, KeepC.refl _ _ _ _⟩
theorem Rd.trans {B n₀ C D : Nat} {U V W : World} (h : Rd B n₀ C D U V) (k : Rd B n₀ C D V W) : Rd B n₀ C D U W := ⟨h.1.trans k.1, h.2.trans k.2⟩
theorem Rd.drewN {B n₀ C D : Nat} {W W' : World} (h : Rd B n₀ C D W W') (q : Nat) : Rd B n₀ C D W (W'.drewN q) := ⟨h.1.trans ⟨Nat.le_refl _, fun _ _ _ h _ => h⟩, h.2.drewN q⟩
theorem Rd.setCell {B n₀ C D : Nat} {W W' : World} (h : Rd B n₀ C D W W') (p : Addr) (u : Value) (hn : n₀ ≤ p.block) (hc : C ≠ p.block) (hd : D ≠ p.block) : Rd B n₀ C D W (W'.setCell p u) :=
  h.trans ⟨(KeepsOthers.setCell _ _ _).from _, (Below.refl _ _).setCell hn _, Below.heap_setCell _ _ _ _ hc, Below.heap_setCell _ _ _ _ hd⟩
theorem Rd.store4 {B n₀ C D S : Nat} {W W' : World} (h : Rd B n₀ C D W W') (hn : n₀ ≤ S) (hc : C ≠ S) (hd : D ≠ S) (u0 u1 u2 u3 : Value) :
    Rd B n₀ C D W ((((W'.setCell ⟨S, 0, none⟩ u0).setCell ⟨S, 1, none⟩ u1).setCell ⟨S, 2, none⟩ u2).setCell ⟨S, 3, none⟩ u3) := (((h.setCell _ _ hn hc hd).setCell _ _ hn hc hd).setCell _ _ hn hc hd).setCell _ _ hn hc hd
theorem Rd.on {B n₀ C D : Nat} {W W' W'' : World} (h : Rd B n₀ C D W W') (k : On W' W'') (hn : n₀ ≤ W'.heap.size) (hc : C < W'.heap.size) (hd : D < W'.heap.size) : Rd B n₀ C D W W'' :=
  h.trans ⟨⟨k.size, fun j o _ hj _ => (k.2.block j (Array.getElem?_eq_some_iff.1 hj).1).trans hj⟩, k.2.mono hn, k.2.block C hc, k.2.block D hd⟩
/-- What holds between two rounds of Hash. -/
structure HI (f : Int) (l : List Nat) (σ : St) (N h0 S Z : Nat) (w : World) (pre : List Nat) (W : World) : Prop where
  st : Blk S W (fl4 (ix (hashP f l σ pre)))
  mx : Mx f N W
  rs : Blk h0 W [0, 0]
  bel : Below w.heap.size w W
  sz : Z ≤ W.heap.size
theorem HI.own {f : Int} {l : List Nat} {σ : St} {N h0 S Z B : Nat} {w : World} (h : h0 < B ∧ N < B ∧ S < B ∧ w.heap.size ≤ B) : OwnFrom B (HI f l σ N h0 S Z w) := by
  intro pre W W' row hs hg hr
  have ne : ∀ b, b < B → some b ≠ row := fun b hb e => by have := (hr b e.symm).1; omega
  obtain ⟨h1, h2, h3, h4⟩ := h
  exact ⟨hs.st.kept hg.size (hg.block _ hs.st.1 (ne _ h3)), hs.mx.kept hg.size (fun o => World.cell?_of_block (hg.block _ hs.mx.lt (ne _ h2))), hs.rs.kept hg.size (hg.block _ hs.rs.1 (ne _ h1)),
    hs.bel.grown hg hs.bel.size (fun k e => by have := (hr k e).1; omega), Nat.le_trans hs.sz hg.size⟩

end Go.Proofs.YthepmahjpejmdaaDoor

/- The sponge's Hash, with a field or without: what the call returns. -/
namespace Go.Proofs.YthepmahjpejmdaaDoor
open Go.RowKit
set_option linter.unusedVariables false

end Go.Proofs.YthepmahjpejmdaaDoor
