/- Package poly: points, and what it hands over: what the calls return. -/
import Derived.Test.YtiipgbobgeejmaaDoorKb05
import Derived.Test.YtiipgbobgeejmaaDoorKb10
import Derived.RangeFuncBox
import Derived.Test.YtiipgbobgeejmaaDoorKb01
/- Package poly: points, and what it hands over: what the calls return. -/
namespace Go.Proofs.YtiipgbobgeejmaaDoor
open Go.RowKit Go.Shelf
set_option linter.unusedVariables false
attribute [local go_sem] Oper.semAt_some

theorem points_any (a a' : Option Addr) (n c n' c' : Nat) (w : World) :
    Calls Tryd.prog 41 #[.slice a n c, .slice a' n' c'] w fun e w' =>
      e = .returned (.func (.func 79) #[] #[.pointer (some ⟨w.heap.size, 0, none⟩), .pointer (some ⟨w.heap.size + 1, 0, none⟩)]) ∧ w' = (w.alloc (.cells #[.slice a n c] 25)).alloc (.cells #[.slice a' n' c'] 25) := by
  go_enter Tryd.func41, Tryd.ntmps41
  go_wp2
  go_ret
  exact ⟨rfl, rfl⟩

/-- What a round must leave as it was: all below n₀, and the block B. -/
def KeepB (n₀ B : Nat) (W W' : World) : Prop := Below n₀ W W' ∧ W'.heap[B]? = W.heap[B]?
theorem KeepB.refl (n₀ B : Nat) (W : World) : KeepB n₀ B W W := ⟨Below.refl _ _, rfl⟩
theorem KeepB.trans {n₀ B : Nat} {U V W : World} (h : KeepB n₀ B U V) (k : KeepB n₀ B V W) : KeepB n₀ B U W := ⟨h.1.trans k.1, k.2.trans h.2⟩

set_option maxRecDepth 100000 in
set_option maxHeartbeats 2000000 in
theorem pts_in (m n l Bx By n₀ cx cy : Nat) (ax ay : Option Addr) (X Y : Nat → Nat) (hX : ∀ j, X j ≤ 18446744073709551615) (hY : ∀ j, Y j ≤ 18446744073709551615) (hn : n ≤ 35184372088832) (J Jx : List Pt → World → Prop)
    (hR : ∀ pre x W, J pre W → pre.length < n → YieldAt Fence.wide (m - 1) Tryd.prog l #[.int .u64 ((x.1.1 : Nat) : Int), .int .u64 ((x.1.2 : Nat) : Int)] W fun e W' =>
      (e = .returned (.bool true) ∧ J (pre ++ [x]) W' ∧ KeepB n₀ By W W') ∨ (e = .returned (.bool false) ∧ Jx (pre ++ [x]) W'))
    (W : World) (hBx : W.cell? ⟨Bx, 0, none⟩ = some (.slice ax n cx)) (hBy : Boxed W By 25 (.slice ay n cy))
    (hcx : ∀ j, j < n → ∃ b off, ax = some ⟨b, off, none⟩ ∧ b < n₀ ∧ W.cell? ⟨b, off + j, none⟩ = some (.int .u64 ((X j : Nat) : Int)))
    (hcy : ∀ j, j < n → ∃ b off, ay = some ⟨b, off, none⟩ ∧ b < n₀ ∧ W.cell? ⟨b, off + j, none⟩ = some (.int .u64 ((Y j : Nat) : Int))) (h0 : J [] W) :
    CallsIn Fence.wide m Tryd.prog 79 #[.func (.yield l) #[] #[], .pointer (some ⟨Bx, 0, none⟩), .pointer (some ⟨By, 0, none⟩)] W fun e W' => (∃ v, e = .returned v) ∧
      ((∃ ys, ys = uptoN (ptAt X Y hX hY) n ∧ J ys W') ∨ (∃ pre, (∃ k, k ≤ n ∧ pre = uptoN (ptAt X Y hX hY) k) ∧ Jx pre W')) := by
  refine callsIn_of_wp Tryd.func79 rfl trivial ?_ rfl
  simp only [Tryd.ntmps79, List.size_toArray, List.length_cons, List.length_nil, Nat.reduceAdd, Nat.reduceSub, Array.replicate_succ, Array.replicate_zero, List.push_toArray, List.append_toArray, List.nil_append, List.cons_append]
  have HCX := Lib.hid hcx; have HCY := Lib.hid hcy; have HR := Lib.hid hR
  clear hcx hcy hR
  gi_wp2
  gi_loopw [8] (fun i wr => ∃ k : Nat, k ≤ n ∧ i = .int .i64 k ∧ J (uptoN (ptAt X Y hX hY) k) wr ∧ KeepB n₀ By W wr) (fun i _ => n - (intOf i).toNat)
  case atStart => exact ⟨0, Nat.zero_le _, rfl, h0, KeepB.refl _ _ _⟩
  case round =>
    obtain ⟨k, hk, rfl, hJs, hnx⟩ := hrel
    have hbox : Boxed wr By 25 (.slice ay n cy) := hnx.2.trans hBy
    have hboxc := hbox.cell
    by_cases hlt : k < n
    · obtain ⟨bx, ox, rfl, hbx, hcx⟩ := HCX.out k hlt
      obtain ⟨b2, oy, rfl, hb2, hcy⟩ := HCY.out k hlt
      have hcx' := (hnx.1.cell (p := ⟨bx, ox + k, none⟩) hbx).trans hcx
      have hcy' := (hnx.1.cell (p := ⟨b2, oy + k, none⟩) hb2).trans hcy
      clear hcx hcy
      obtain ⟨fn, tmps, assign, body, hy, hRd⟩ := HR.out _ (ptAt X Y hX hY k) wr hJs (by rw [uptoN_len]; exact hlt)
      have hX1 : (ptAt X Y hX hY k).1.1 = X k := rfl
      have hY1 : (ptAt X Y hX hY k).1.2 = Y k := rfl
      rw [hX1, hY1] at hy
      clear hX1 hY1
      gi_wp2
      refine ⟨fun h => by simp [Fence.wide] at h, hRd.mono ?_⟩
      rintro e W3 (⟨rfl, hJ3, hk3⟩ | ⟨rfl, hJx3⟩)
      · gi_wp2
        go_roundw
        case rel => exact ⟨k + 1, by omega, by simp, by rw [uptoN_succ]; exact hJ3, hnx.trans hk3⟩
        case measure => simp [intOf]; omega
      · gi_wp2
        refine bodyPost_ret (results_none rfl _ _ _) rfl ?_
        exact ⟨⟨_, rfl⟩, .inr ⟨_, ⟨k + 1, by omega, (uptoN_succ _ _).symm⟩, hJx3⟩⟩
    · obtain rfl : k = n := by omega
      gi_wp2
      go_end0
      exact ⟨⟨_, rfl⟩, .inl ⟨_, rfl, hJs⟩⟩
end Go.Proofs.YtiipgbobgeejmaaDoor

/- Package poly: the memory of Through. -/
namespace Go.Proofs.YtiipgbobgeejmaaDoor
open Go.RowKit Go.Shelf
set_option linter.unusedVariables false
attribute [local go_sem] Oper.semAt_some

theorem box_on {W W' : World} {B : Nat} {t : TypeId} {v : Value} (h : Boxed W B t v) (k : On W W') : Boxed W' B t v := (k.2.block B h.lt).trans h
theorem box_ap {W W' : World} {B C : Nat} {t : TypeId} {v : Value} (h : Boxed W B t v) (k : Ap C W W') (hne : B ≠ C) : Boxed W' B t v := h.kept k (by simpa using hne)
theorem box_other {W : World} {B : Nat} {t : TypeId} {v : Value} (h : Boxed W B t v) (p : Addr) (hne : B ≠ p.block) (u : Value) : Boxed (W.setCell p u) B t v := (Below.heap_setCell _ _ _ _ hne).trans h
theorem Row.setOther {g cap : Nat} {w : World} {l : List Nat} (h : Row g cap w l) (p : Addr) (hne : g ≠ p.block) (u : Value) : Row g cap (w.setCell p u) l := h.kept (Below.heap_setCell _ _ _ _ hne)
/-- The call's own memory: the parameter, the results, the two lists. -/
structure ThS (f : Int) (n b0 b1 b2 b8 b9 g1 g2 : Nat) (w : World) (L1 L2 : List Nat) (W : World) : Prop where
  bf : Boxed W b0 3 (.int .i64 f)
  br : Boxed W b1 25 (.slice none 0 0)
  be : Boxed W b2 29 (.int .i64 0)
  bo : Boxed W b8 25 (.slice (some ⟨g1, 0, none⟩) L1.length n)
  bs : Boxed W b9 25 (.slice (some ⟨g2, 0, none⟩) L2.length (n + 1))
  ro : Row g1 n W L1
  rs : Row g2 (n + 1) W L2
  bel : Below w.heap.size w W
/-- How the numbers of the blocks lie. -/
def Ord (b0 b1 b2 b8 b9 g1 g2 : Nat) : Prop := b0 < b1 ∧ b1 < b2 ∧ b2 < g1 ∧ g1 < b8 ∧ b8 < g2 ∧ g2 < b9
theorem ThS.drewN {f : Int} {n b0 b1 b2 b8 b9 g1 g2 : Nat} {w : World} {L1 L2 : List Nat} {W : World} (h : ThS f n b0 b1 b2 b8 b9 g1 g2 w L1 L2 W) (q : Nat) : ThS f n b0 b1 b2 b8 b9 g1 g2 w L1 L2 (W.drewN q) :=
  ⟨h.bf, h.br, h.be, h.bo, h.bs, h.ro.drewN q, h.rs.drewN q, h.bel.trans ⟨rfl, rfl, rfl, Nat.le_refl _, fun _ _ => rfl⟩⟩
theorem ThS.grow {f : Int} {n b0 b1 b2 b8 b9 g1 g2 : Nat} {w : World} {L1 L2 M : List Nat} {W W' : World} (h : ThS f n b0 b1 b2 b8 b9 g1 g2 w L1 L2 W) (ho : Ord b0 b1 b2 b8 b9 g1 g2) (hw : w.heap.size = b0) (hr : Row g1 n W' M) (ha : Ap g1 W W') :
    ThS f n b0 b1 b2 b8 b9 g1 g2 w M L2 (W'.setCell ⟨b8, 0, none⟩ (.slice (some ⟨g1, 0, none⟩) M.length n)) := by
  unfold Ord at ho
  refine ⟨box_other (box_ap h.bf ha (by omega)) _ (by simp; omega) _, box_other (box_ap h.br ha (by omega)) _ (by simp; omega) _, box_other (box_ap h.be ha (by omega)) _ (by simp; omega) _, (box_ap h.bo ha (by omega)).set _, box_other (box_ap h.bs ha (by omega)) _ (by simp; omega) _,
    hr.setOther _ (by simp; omega) _, (h.rs.ap ha (by omega)).setOther _ (by simp; omega) _, ?_⟩
  exact Below.setCell (h.bel.grown ha h.bel.size (fun k e => by cases e; omega)) (by simp; omega) _
theorem ThS.root {f : Int} {n b0 b1 b2 b8 b9 g1 g2 : Nat} {w : World} {L1 L2 M : List Nat} {W W' : World} (h : ThS f n b0 b1 b2 b8 b9 g1 g2 w L1 L2 W) (ho : Ord b0 b1 b2 b8 b9 g1 g2) (hw : w.heap.size = b0) (hr : Row g2 (n + 1) W' M) (ha : Ap g2 W W') :
    ThS f n b0 b1 b2 b8 b9 g1 g2 w L1 M (W'.setCell ⟨b9, 0, none⟩ (.slice (some ⟨g2, 0, none⟩) M.length (n + 1))) := by
  unfold Ord at ho
  refine ⟨box_other (box_ap h.bf ha (by omega)) _ (by simp; omega) _, box_other (box_ap h.br ha (by omega)) _ (by simp; omega) _, box_other (box_ap h.be ha (by omega)) _ (by simp; omega) _, box_other (box_ap h.bo ha (by omega)) _ (by simp; omega) _, (box_ap h.bs ha (by omega)).set _,
    (h.ro.ap ha (by omega)).setOther _ (by simp; omega) _, hr.setOther _ (by simp; omega) _, ?_⟩
  exact Below.setCell (h.bel.grown ha h.bel.size (fun k e => by cases e; omega)) (by simp; omega) _
theorem ThS.put {f : Int} {n b0 b1 b2 b8 b9 g1 g2 : Nat} {w : World} {L1 L2 : List Nat} {W : World} (h : ThS f n b0 b1 b2 b8 b9 g1 g2 w L1 L2 W) (ho : Ord b0 b1 b2 b8 b9 g1 g2) (hw : w.heap.size = b0) (j x : Nat) :
    ThS f n b0 b1 b2 b8 b9 g1 g2 w (L1.set j x) L2 (W.setCell ⟨g1, j, none⟩ (.int .u64 ((x : Nat) : Int))) := by
  unfold Ord at ho
  refine ⟨box_other h.bf _ (by simp; omega) _, box_other h.br _ (by simp; omega) _, box_other h.be _ (by simp; omega) _, ?_, box_other h.bs _ (by simp; omega) _, h.ro.set _ _, h.rs.setOther _ (by simp; omega) _, h.bel.setCell (by simp; omega) _⟩
  rw [List.length_set]
  exact box_other h.bo _ (by simp; omega) _
/-- What holds between two rounds of Through. -/
def ThI (f : Int) (n b0 b1 b2 b8 b9 g1 g2 S : Nat) (w : World) (pre : List Pt) (W : World) : Prop := okN f pre ∧ S ≤ W.heap.size ∧ ThS f n b0 b1 b2 b8 b9 g1 g2 w (stN f pre).1 (stN f pre).2 W
/-- What a round leaves as it was. -/
def Fr (B n₀ By : Nat) (W W' : World) : Prop := KeepsFrom B W W' ∧ KeepB n₀ By W W'
theorem Fr.refl (B n₀ By : Nat) (W : World) : Fr B n₀ By W W := ⟨KeepsFrom.refl _ _, KeepB.refl _ _ _⟩
theorem Fr.trans {B n₀ By : Nat} {U V W : World} (h : Fr B n₀ By U V) (k : Fr B n₀ By V W) : Fr B n₀ By U W := ⟨h.1.trans k.1, h.2.trans k.2⟩
theorem Fr.drewN {B n₀ By : Nat} {W W' : World} (h : Fr B n₀ By W W') (q : Nat) : Fr B n₀ By W (W'.drewN q) :=
  h.trans ⟨⟨Nat.le_refl _, fun _ _ _ h _ => h⟩, ⟨rfl, rfl, rfl, Nat.le_refl _, fun _ _ => rfl⟩, rfl⟩
theorem Fr.ap {B n₀ By C : Nat} {W W' W'' : World} (h : Fr B n₀ By W W') (k : Ap C W' W'') (hC : C < B) (hn : n₀ ≤ C) (hb : By ≠ C) (hs : n₀ ≤ W'.heap.size) (hB : By < W'.heap.size) : Fr B n₀ By W W'' :=
  h.trans ⟨KeepsFrom.of_grownBy k (fun j e => by cases e; exact hC), (Below.refl _ _).grown k hs (fun j e => by cases e; exact hn), k.block By hB (by simpa using hb)⟩
theorem Fr.setCell {B n₀ By : Nat} {W W' : World} (h : Fr B n₀ By W W') (p : Addr) (u : Value) (hn : n₀ ≤ p.block) (hb : By ≠ p.block) : Fr B n₀ By W (W'.setCell p u) :=
  h.trans ⟨(KeepsOthers.setCell _ _ _).from _, (Below.refl _ _).setCell hn _, Below.heap_setCell _ _ _ _ hb⟩
/-- What holds where a round of Through has met a point again. -/
structure ThX (f : Int) (b1 b2 : Nat) (w : World) (c : Code) (pre : List Pt) (W : World) : Prop where
  ret : c = .ret
  bad : ¬ okN f pre
  br : Boxed W b1 25 (.slice none 0 0)
  be : Boxed W b2 29 (.int .i64 6)
  bel : Below w.heap.size w W
theorem ThI.own {f : Int} {n b0 b1 b2 b8 b9 g1 g2 S B : Nat} {w : World} (h : b0 < B ∧ b1 < B ∧ b2 < B ∧ b8 < B ∧ b9 < B ∧ g1 < B ∧ g2 < B ∧ w.heap.size ≤ B) : OwnFrom B (ThI f n b0 b1 b2 b8 b9 g1 g2 S w) := by
  intro pre W W' row ⟨hok, hsz, hs⟩ hg hr
  have ne : ∀ b, b < B → some b ≠ row := fun b hb e => by have := (hr b e.symm).1; omega
  obtain ⟨h0, h1, h2, h3, h4, h5, h6, h7⟩ := h
  exact ⟨hok, Nat.le_trans hsz hg.size, hs.bf.kept hg (ne _ h0), hs.br.kept hg (ne _ h1), hs.be.kept hg (ne _ h2), hs.bo.kept hg (ne _ h3), hs.bs.kept hg (ne _ h4), hs.ro.kept (hg.block _ hs.ro.blk.1 (ne _ h5)), hs.rs.kept (hg.block _ hs.rs.blk.1 (ne _ h6)),
    hs.bel.grown hg hs.bel.size (fun k e => by have := (hr k e).1; omega)⟩
theorem ThX.own {f : Int} {b1 b2 B : Nat} {w : World} (h : b1 < B ∧ b2 < B ∧ w.heap.size ≤ B) (c : Code) : OwnFrom B (ThX f b1 b2 w c) := by
  intro pre W W' row hs hg hr
  have ne : ∀ b, b < B → some b ≠ row := fun b hb e => by have := (hr b e.symm).1; omega
  exact ⟨hs.ret, hs.bad, hs.br.kept hg (ne _ h.1), hs.be.kept hg (ne _ h.2.1), hs.bel.grown hg hs.bel.size (fun k e => by have := (hr k e).1; omega)⟩
theorem row_new (w : World) (n B : Nat) (hn : n ≤ 35184372088832) (hB : B = w.heap.size) : Row B n (w.alloc (.cells (madeCells #[.int .u64 0] n) 22)) [] := hB ▸ row_made w n hn
theorem box_new (w : World) (t : TypeId) (v : Value) (B : Nat) (hB : B = w.heap.size) : Boxed (w.alloc (.cells #[v] t)) B t v := hB ▸ Boxed.new w t v

theorem trim_own (g : Nat) (l : List Nat) (cap : Nat) (w : World) (hL : l.length ≤ cap) (hcap : cap ≤ 9223372036854775807) (hb : Blk g w l) :
    Calls Tryd.prog 48 #[.slice (some ⟨g, 0, none⟩) l.length cap] w fun e w' => (∃ au M, e = .returned (.slice au M M) ∧ ((strip l = [] ∧ au = none ∧ M = 0) ∨ (au = some ⟨g, 0, none⟩ ∧ M = (strip l).length))) ∧ w = w' := by
  refine (trim_rows l _ cap w hL hcap fun i hi => ⟨g, 0, rfl, by rw [Nat.zero_add]; exact hb.cell i hi⟩).mono ?_
  rintro e w' ⟨⟨h1, rfl⟩ | rfl, rfl⟩
  · exact ⟨⟨none, 0, rfl, .inl ⟨h1, rfl, rfl⟩⟩, rfl⟩
  · exact ⟨⟨_, _, rfl, .inr ⟨rfl, rfl⟩⟩, rfl⟩
theorem round_append2 {P : Program} {w w' : World} {ops : Array Oper} {rest : List Oper} {o : Oper} {a : Act} {Q : Exit → Act → World → Prop} {m lo : Nat} (hgd : o.guard = none) (s x : Operand) (t u : TypeId)
    (ho : o.op = .call { callee := .builtin .append, args := #[s, x], argTypes := #[t, u] }) (vs vx v' : Value) (hs : a.eval s = vs) (hx : a.eval x = vx) (hrun : ∀ ty, (Builtin.append_ #[t, u] ty #[vs, vx]).run P w = .ok v' w')
    (h : wpListIn (Fence.wide.inRound lo) m P ops Q rest (a.put o.dst v') w') : wpListIn (Fence.wide.inRound lo) m P ops Q (o :: rest) a w :=
  wpListIn_plain hgd fun K hK => by
    refine ⟨fun _ _ => trivial, ?_⟩
    rw [Oper.semAt_eq _ _ _ (by rw [ho]; intro c h; cases h)]
    unfold execOp
    simp only [ho, resolve, invoke, builtin, Sem.run_bind, Sem.run_pure, Result.andThen_ok, List.map_toArray, List.map_cons, List.map_nil, hs, hx, hrun]
    exact hK _ _ h
end Go.Proofs.YtiipgbobgeejmaaDoor

/- Package poly: Through: what the call returns. -/
namespace Go.Proofs.YtiipgbobgeejmaaDoor
open Go.RowKit Go.Shelf
set_option linter.unusedVariables false
attribute [local go_sem] Oper.semAt_some

theorem through_no (f : Int) (a a' : Option Addr) (n c n' c' : Nat) (w : World) (hT : Tab w) (hv : validB f = false) :
    Calls Tryd.prog 15 #[.int .i64 f, .slice a n c, .slice a' n' c'] w fun e w' => e = .returned (.tuple #[.slice none 0 0, .int .i64 1]) ∧ On w w' := by
  have HV := Lib.hid hv; clear hv
  have HO : Hid (∀ o1 o2 o3, On w (((w.alloc o1).alloc o2).alloc o3)) := fun o1 o2 o3 => (((On.refl hT).alloc o1).alloc o2).alloc o3
  go_enter Tryd.func15, Tryd.ntmps15
  go_wp2_with (go_at_call 39; refine (valid_any _ _).mono ?_; rintro e w' ⟨rfl, rfl⟩; rw [HV.out])
  go_returns
  exact ⟨rfl, HO.out _ _ _⟩

set_option maxRecDepth 100000 in
set_option maxHeartbeats 4000000 in
theorem through_any (f : Int) (n cx cy : Nat) (ax ay : Option Addr) (X Y : Nat → Nat) (hX : ∀ j, X j ≤ 18446744073709551615) (hY : ∀ j, Y j ≤ 18446744073709551615) (w : World) (hT : Tab w) (hv : validB f = true) (hn : n ≤ 1024)
    (hcx : ∀ j, j < n → ∃ b off, ax = some ⟨b, off, none⟩ ∧ b < w.heap.size ∧ w.cell? ⟨b, off + j, none⟩ = some (.int .u64 ((X j : Nat) : Int)))
    (hcy : ∀ j, j < n → ∃ b off, ay = some ⟨b, off, none⟩ ∧ b < w.heap.size ∧ w.cell? ⟨b, off + j, none⟩ = some (.int .u64 ((Y j : Nat) : Int))) :
    Calls Tryd.prog 15 #[.int .i64 f, .slice ax n cx, .slice ay n cy] w fun e w' =>
      ((okN f (uptoN (ptAt X Y hX hY) n) ∧ ∃ u, e = .returned (.tuple #[u, .int .i64 0]) ∧ Fre w.heap.size w' u (strip (stN f (uptoN (ptAt X Y hX hY) n)).1)) ∨
       (¬ okN f (uptoN (ptAt X Y hX hY) n) ∧ e = .returned (.tuple #[.slice none 0 0, .int .i64 6]))) ∧ On w w' := by
  refine (callsIn_wide (n := 10)).1 ?_
  have HV := Lib.hid hv
  have HCX := Lib.hid hcx; have HCY := Lib.hid hcy
  have hn' : ¬ (1024 < (n : Int)) := by omega
  have hmk : (Instr.makeSlice 25 (.int .i64 0) (.int .i64 (n : Int))).run Tryd.prog (((w.alloc (.cells #[.int .i64 f] 3)).alloc (.cells #[.slice none 0 0] 25)).alloc (.cells #[.int .i64 0] 29)) =
      .ok (.slice (some ⟨w.heap.size + 1 + 1 + 1, 0, none⟩) 0 n) ((((w.alloc (.cells #[.int .i64 f] 3)).alloc (.cells #[.slice none 0 0] 25)).alloc (.cells #[.int .i64 0] 29)).alloc (.cells (madeCells #[.int .u64 0] n) 22)) := by
    have h := make_run2 0 n (Nat.zero_le _) (by omega) (((w.alloc (.cells #[.int .i64 f] 3)).alloc (.cells #[.slice none 0 0] 25)).alloc (.cells #[.int .i64 0] 29))
    simpa using h
  have hT0 := Lib.hid hT
  have HO5 : Hid (∀ o1 o2 o3 o4 o5, On w (((((w.alloc o1).alloc o2).alloc o3).alloc o4).alloc o5)) := fun o1 o2 o3 o4 o5 => (((((On.refl hT).alloc o1).alloc o2).alloc o3).alloc o4).alloc o5
  clear hcx hcy hv
  refine callsIn_of_wp_marks Tryd.func15 rfl trivial ?_ rfl
  simp only [Tryd.ntmps15, List.size_toArray, List.length_cons, List.length_nil, Nat.reduceAdd, Nat.reduceSub, Array.replicate_succ, Array.replicate_zero, List.push_toArray, List.append_toArray, List.nil_append, List.cons_append]
  gi_wp2_with (first
    | (refine ⟨trivial, ?_⟩; gi_at_call 39; refine (callsIn_wide.2 (valid_any _ _)).mono ?_; rintro e w' ⟨rfl, rfl⟩; rw [HV.out])
    | (refine ⟨trivial, ?_⟩; gi_at_call 40; refine (callsIn_wide.2 (one_any n _ (HO5.out _ _ _ _ _).tab (by omega))).mono ?_; rintro e w1 ⟨rfl, hR1, hO1⟩; have HR1 := Lib.hid hR1; have HO1 := Lib.hid hO1; clear hR1 hO1)
    | (refine ⟨trivial, ?_⟩; gi_at_call 41; refine (callsIn_wide.2 (points_any _ _ _ _ _ _ _)).mono ?_; rintro e w2 ⟨rfl, rfl⟩))
  have hs1 : w.heap.size + 1 + 1 + 1 + 1 + 1 < w1.heap.size := by
    have h := HR1.out.blk.1
    simpa using h
  have hR2 : Row (w.heap.size + 1 + 1 + 1 + 1 + 1) (n + 1) w1 [1] := by have h := HR1.out; simpa using h
  obtain ⟨W0, hW0⟩ : ∃ W0, W0 = (((w1.alloc (.cells #[.slice (some ⟨w.heap.size + 1 + 1 + 1 + 1 + 1, 0, none⟩) 1 (n + 1)] 25)).alloc (.cells #[.slice ax n cx] 25)).alloc (.cells #[.slice ay n cy] 25)) := ⟨_, rfl⟩
  rw [← hW0]
  have hOn0 : On w1 W0 := by rw [hW0]; exact (((On.refl HO1.out.tab).alloc _).alloc _).alloc _
  have hsz : W0.heap.size = w1.heap.size + 1 + 1 + 1 := by rw [hW0]; simp
  have hI0 : ThI f n w.heap.size (w.heap.size + 1) (w.heap.size + 1 + 1) (w.heap.size + 1 + 1 + 1 + 1) w1.heap.size (w.heap.size + 1 + 1 + 1) (w.heap.size + 1 + 1 + 1 + 1 + 1) W0.heap.size w [] W0 := by
    refine ⟨okN_nil f, Nat.le_refl _, ?_, ?_, ?_, ?_, ?_, ?_, ?_, ((HO5.out _ _ _ _ _).trans (HO1.out.trans hOn0)).2⟩
    · refine box_on (box_on ?_ HO1.out) hOn0
      refine Boxed.alloc ?_ _; refine Boxed.alloc ?_ _; refine Boxed.alloc ?_ _; refine Boxed.alloc ?_ _
      exact box_new _ _ _ _ (by simp)
    · refine box_on (box_on ?_ HO1.out) hOn0
      refine Boxed.alloc ?_ _; refine Boxed.alloc ?_ _; refine Boxed.alloc ?_ _
      exact box_new _ _ _ _ (by simp)
    · refine box_on (box_on ?_ HO1.out) hOn0
      refine Boxed.alloc ?_ _; refine Boxed.alloc ?_ _
      exact box_new _ _ _ _ (by simp)
    · refine box_on (box_on ?_ HO1.out) hOn0
      exact box_new _ _ _ _ (by simp)
    · rw [hW0]; refine Boxed.alloc ?_ _; refine Boxed.alloc ?_ _; exact box_new _ _ _ _ rfl
    · refine Row.on (Row.on ?_ HO1.out) hOn0
      exact (row_new _ n _ (by omega) (by simp)).kept (Below.heap_alloc _ _ _ (by simp))
    · exact hR2.on hOn0
  have hbx : Boxed W0 (w1.heap.size + 1) 25 (.slice ax n cx) := by rw [hW0]; refine Boxed.alloc ?_ _; exact box_new _ _ _ _ (by simp)
  have hby : Boxed W0 (w1.heap.size + 1 + 1) 25 (.slice ay n cy) := by rw [hW0]; exact box_new _ _ _ _ (by simp)
  have hOw := (HO5.out _ _ _ _ _).trans (HO1.out.trans hOn0)
  clear hW0 HR1 hR2 hOn0 hmk HO1
  have HI0 := Lib.hid hI0; have HBX := Lib.hid hbx; have HBY := Lib.hid hby; have HOW := Lib.hid hOw; have HSZ := Lib.hid hsz
  clear hI0 hbx hby hOw hsz HO5
  have HG : Hid (∃ g2 b8 g1 b2 b1 b0, g2 = w.heap.size + 1 + 1 + 1 + 1 + 1 ∧ b8 = w.heap.size + 1 + 1 + 1 + 1 ∧ g1 = w.heap.size + 1 + 1 + 1 ∧ b2 = w.heap.size + 1 + 1 ∧ b1 = w.heap.size + 1 ∧ b0 = w.heap.size) := ⟨_, _, _, _, _, _, rfl, rfl, rfl, rfl, rfl, rfl⟩
  obtain ⟨g2, b8, g1, b2, b1, b0, e1, e2, e3, e4, e5, e6⟩ := HG.out
  clear HG
  generalize w1.heap.size = b9 at *
  clear w1
  have hord : b0 < b1 ∧ b1 < b2 ∧ b2 < g1 ∧ g1 < b8 ∧ b8 < g2 ∧ g2 < b9 := by omega
  rw [← e1, ← e2, ← e3, ← e4, ← e5] at HI0 ⊢
  clear e1 e2 e3 e4 e5 hs1
  have h0T := hT0.out.size
  have HW0 : Hid (w.heap.size = b0) := e6.symm
  obtain ⟨o1, o2, o3, o4, o5, o6⟩ := hord
  rw [← e6] at HI0 h0T ⊢
  clear e6
  have hown : ∀ b, b < b9 + 3 → b < W0.heap.size := fun b hb => by rw [HSZ.out]; omega
  have HOWN := Lib.hid hown; clear hown
  refine wpIn_rangeFunc_ownG (F := Fence.wide) (n := 10) (P := Tryd.prog) rfl (by omega) (gf := 79) (lb := #[.pointer (some ⟨b9 + 1, 0, none⟩), .pointer (some ⟨b9 + 1 + 1, 0, none⟩)]) rfl trivial (enters_of Tryd.func79 (by kernel_rfl) rfl)
    (encs := fun x : Pt => #[Value.int .u64 ((x.1.1 : Nat) : Int), Value.int .u64 ((x.1.2 : Nat) : Int)]) (Kp := KeepB w.heap.size (b9 + 1 + 1)) (S := fun ys => ys = uptoN (ptAt X Y hX hY) n) (Sp := fun pre => ∃ k, k ≤ n ∧ pre = uptoN (ptAt X Y hX hY) k) (N := n) (w0 := W0)
    ?seq (fun h k => h.trans k) ?kb (Below.refl _ _) (fun _ => rfl) (ThI f n b0 b1 b2 b8 b9 g1 g2 W0.heap.size w) (ThX f b1 b2 w)
    (ThI.own ⟨HOWN.out _ (by omega), HOWN.out _ (by omega), HOWN.out _ (by omega), HOWN.out _ (by omega), HOWN.out _ (by omega), HOWN.out _ (by omega), HOWN.out _ (by omega), HOW.out.size⟩)
    (fun c => ThX.own ⟨HOWN.out _ (by omega), HOWN.out _ (by omega), HOW.out.size⟩ c) HI0.out
    (fun x => { tmps := #[.int .i64 f, .slice ax n cx, .slice ay n cy, .pointer (some ⟨b0, 0, none⟩), undef, undef, .pointer (some ⟨b1, 0, none⟩), .pointer (some ⟨b2, 0, none⟩), .pointer (some ⟨b8, 0, none⟩), .pointer (some ⟨b9, 0, none⟩), .int .u64 ((x.1.1 : Nat) : Int), .int .u64 ((x.1.2 : Nat) : Int),
          undef, undef, undef, .int .i64 f, .bool true, .bool false, .bool false, .slice ax n cx, .int .i64 (n : Int), .slice ay n cy, .int .i64 (n : Int), .bool false, .bool false, .slice ax n cx, .int .i64 (n : Int), .bool (decide ((1024 : Int) < (n : Int))), .slice ax n cx, .int .i64 (n : Int),
          .slice (some ⟨g1, 0, none⟩) 0 n, .slice ax n cx, .int .i64 (n : Int), .slice (some ⟨g2, 0, none⟩) 1 (n + 1), .slice ax n cx, .slice ay n cy, .func (.func 79) #[] #[.pointer (some ⟨b9 + 1, 0, none⟩), .pointer (some ⟨b9 + 1 + 1, 0, none⟩)], .int .u64 ((x.1.1 : Nat) : Int), .int .u64 ((x.1.2 : Nat) : Int),
          undef, undef, undef, undef, undef, undef, undef, undef, undef, undef, undef, undef, undef, undef, undef, undef, undef, undef, undef, undef, undef, undef, undef, undef, undef, undef, undef, undef, undef, undef, undef, undef, undef, undef, undef, undef, undef, undef, undef, undef, undef, undef, undef, undef, undef, undef, undef], defers := [] })
    ?assign ?body ?done ?stop
  case seq =>
    intro l J Jx W hW _ _ hY' h0
    have hb := HBY.out
    exact pts_in 9 n l (b9 + 1) (b9 + 1 + 1) w.heap.size cx cy ax ay X Y hX hY (by omega) J Jx hY' W
      ((hW.cell (p := ⟨b9 + 1, 0, none⟩) (show b9 + 1 < _ from HOWN.out _ (by omega))).trans HBX.out.cell) ((hW.block (b9 + 1 + 1) (HOWN.out _ (by omega))).trans hb)
      (fun j hj => by
        obtain ⟨b, off, h1, h2, h3⟩ := HCX.out j hj
        exact ⟨b, off, h1, h2, (hW.cell (p := ⟨b, off + j, none⟩) (Nat.lt_of_lt_of_le h2 HOW.out.size)).trans ((HOW.out.cell (p := ⟨b, off + j, none⟩) h2).trans h3)⟩)
      (fun j hj => by
        obtain ⟨b, off, h1, h2, h3⟩ := HCY.out j hj
        exact ⟨b, off, h1, h2, (hW.cell (p := ⟨b, off + j, none⟩) (Nat.lt_of_lt_of_le h2 HOW.out.size)).trans ((HOW.out.cell (p := ⟨b, off + j, none⟩) h2).trans h3)⟩) h0
  case kb =>
    intro W l o o' hl ho hc _
    have hs := HSZ.out
    have hs2 := HOW.out.size
    refine ⟨(Below.refl _ _).grown (grownBy_putObj' W l o') ?_ (fun k e => by cases e; omega), World.putObj_heap_other (by omega)⟩
    have := (Array.getElem?_eq_some_iff.1 ho).1
    omega
  case assign =>
    intro l x W K hK
    gi_wp2
    exact hK
  case body =>
    intro l pre x W hI hlen
    obtain ⟨hok, hsz0, hS⟩ := hI
    obtain ⟨e1, e2, e3, e4⟩ := stN_facts f pre
    have hORD : Ord b0 b1 b2 b8 b9 g1 g2 := ⟨o1, o2, o3, o4, o5, o6⟩
    have hTW : Tab W := hT0.out.below hS.bel
    have hx1 := x.2.1
    have hx2 := x.2.2
    have HSTEP : Hid (stN f (pre ++ [x]) = stepN f ((stN f pre).1, (stN f pre).2) x) := stN_snoc f pre x
    have HGOOD : Hid (evF f (stN f pre).2 x.1.1 ≠ 0 → okN f (pre ++ [x])) := fun h => okN_snoc hok h
    have HBADN : Hid (evF f (stN f pre).2 x.1.1 = 0 → ¬ okN f (pre ++ [x])) := fun h k => k pre x [] rfl h
    generalize (stN f pre).1 = L1 at *
    generalize (stN f pre).2 = L2 at *
    have hrs : Reads W (.slice (some ⟨g2, 0, none⟩) L2.length (n + 1)) L2 := hS.rs.blk.reads (fun y hy => by have := e4 y hy; omega) (by omega) _
    have hro : Reads W (.slice (some ⟨g1, 0, none⟩) L1.length n) L1 := hS.ro.blk.reads (fun y hy => by have := e3 y hy; omega) (by omega) _
    have cf := hS.bf.cell; have co := hS.bo.cell; have cs := hS.bs.cell
    have cr := hS.br.cell; have ce := hS.be.cell; have fr := hS.br.frozen; have fe := hS.be.frozen
    have HE1 := Lib.hid (fun q => eval_any f L2 x.1.1 _ (W.drewN q) (hTW.drewN q) (hrs.drewN q) hx1)
    have HE0 := Lib.hid (eval_any f L2 x.1.1 _ W hTW hrs hx1)
    have HE2 := Lib.hid (fun q r => eval_any f L1 x.1.1 _ ((W.drewN q).drewN r) ((hTW.drewN q).drewN r) ((hro.drewN q).drewN r) hx1)
    have hev := evF_le f L2 x.1.1
    have hev2 := evF_le f L1 x.1.1
    have HS := Lib.hid hS
    have HOK := Lib.hid hok
    have HS0 := Lib.hid hsz0; clear hsz0
    have HE3 := Lib.hid e3; have HE4 := Lib.hid e4
    have HL1 := Lib.hid e1; have HL2 := Lib.hid e2
    have hL1n : L1.length < n := by omega
    have hL2n : L2.length < n + 1 := by omega
    clear e1 e2 e3 e4 hS hok hrs hro
    generalize hXX : x.1.1 = xx at *
    generalize hYY : x.1.2 = yy at *
    have HXX := Lib.hid hXX; have HYY := Lib.hid hYY
    clear hXX hYY
    by_cases hv0 : evF f L2 xx = 0
    · have HBAD := Lib.hid (HBADN.out hv0)
      have HV0 := Lib.hid hv0
      clear hv0 HE1 HE2
      gi_wp2_with (refine ⟨trivial, ?_⟩; gi_at_call 42; refine (CallsIn.inRound l (callsIn_wide.2 HE0.out)).mono ?_; rintro e w' ⟨rfl, q, rfl⟩; rw [HV0.out])
      have hs9 := HSZ.out
      have hwb := HW0.out
      have hSq := HS.out.drewN q
      refine ⟨((KeepsFrom.refl _ _).trans ((Fr.refl W0.heap.size w.heap.size (b9 + 1 + 1) W).drewN q).1).trans ((KeepsOthers.setCell _ _ _).trans (KeepsOthers.setCell _ _ _) |>.from _), rfl, HBAD.out, ?_, ?_, ?_⟩
      · exact box_other (hSq.br.set _) _ (by simp; omega) _
      · exact (box_other hSq.be _ (by simp; omega) _).set _
      · exact (hSq.bel.setCell (by simp; omega) _).setCell (by simp; omega) _
    · have HOK2 := Lib.hid (HGOOD.out hv0)
      have hv1 : (((evF f L2 xx : Nat) : Int) == 0) = false := by simp only [beq_eq_false_iff_ne, ne_eq]; omega
      have hsub := subF_le f yy (evF f L1 xx)
      have hsc := divF_le f (subF f yy (evF f L1 xx)) (evF f L2 xx)
      clear hv0
      gi_wp2_with (refine ⟨trivial, ?_⟩; gi_at_call 42; refine (CallsIn.inRound l (callsIn_wide.2 HE0.out)).mono ?_; rintro e w' ⟨rfl, q, rfl⟩)
      obtain ⟨Wq, hWq⟩ : ∃ Wq, Wq = W.drewN q := ⟨_, rfl⟩
      rw [← hWq]
      have HSq : Hid (ThS f n b0 b1 b2 b8 b9 g1 g2 w L1 L2 Wq) := by unfold Hid; rw [hWq]; exact HS.out.drewN q
      have HFq : Hid (Fr W0.heap.size w.heap.size (b9 + 1 + 1) W Wq) := by unfold Hid; rw [hWq]; exact (Fr.refl _ _ _ _).drewN q
      clear hWq HE0 HE1 HE2 cf co cs cr ce fr fe hTW HS
      have hTW : Tab Wq := hT0.out.below HSq.out.bel
      have cf := HSq.out.bf.cell; have co := HSq.out.bo.cell; have cs := HSq.out.bs.cell
      have HE2 := Lib.hid (fun q => eval_any f L1 xx _ (Wq.drewN q) (hTW.drewN q) ((HSq.out.ro.blk.reads (fun y hy => by have := HE3.out y hy; omega) (by omega) n).drewN q) hx1)
      refine round_quiet_tail 10 (by kernel_rfl) (by kernel_rfl) (by kernel_rfl) ?_
      simp only [List.take_succ_cons, List.take_zero, List.drop_succ_cons, List.drop_zero]
      repeat (quiet_step ((first
        | (go_at_call 42; exact quiet_of_drewN (HE2.out _))
        | (go_at_call 44; exact quiet_of_eq (sub_any _ _ _ _ (hTW.drewN _) hx2 (by omega)))
        | (go_at_call 43; exact quiet_of_eq (div_any _ _ _ _ (hTW.drewN _) (by omega) (by omega))))))
      refine wpQuiet_nil ?_
      intro _ hw'
      obtain ⟨nq, hw''⟩ := hw'
      subst hw''
      obtain ⟨Wr, hWr⟩ : ∃ Wr, Wr = Wq.drewN nq := ⟨_, rfl⟩
      rw [← hWr]
      have HSr : Hid (ThS f n b0 b1 b2 b8 b9 g1 g2 w L1 L2 Wr) := by unfold Hid; rw [hWr]; exact HSq.out.drewN nq
      have HFr : Hid (Fr W0.heap.size w.heap.size (b9 + 1 + 1) W Wr) := by unfold Hid; rw [hWr]; exact HFq.out.drewN nq
      clear hWr HE2 cf co cs hTW HSq HFq
      have hTW : Tab Wr := hT0.out.below HSr.out.bel
      have cf := HSr.out.bf.cell; have co := HSr.out.bo.cell; have cs := HSr.out.bs.cell; have fo := HSr.out.bo.frozen
      obtain ⟨w3, hrun, hR3, hA3⟩ := append_room g1 n 0 Wr.heap.size L1.length (L1.length + 1) 0 rfl L1 Wr HSr.out.ro hL1n rfl rfl rfl
      have hszr : b9 + 1 + 1 < Wr.heap.size := by have h := HFr.out.1.size; have := HSZ.out; have h9 := HS0.out; omega
      have hwb := HW0.out
      have HRUN := Lib.hid hrun
      have HSs : Hid (ThS f n b0 b1 b2 b8 b9 g1 g2 w (L1 ++ [0]) L2 (w3.setCell ⟨b8, 0, none⟩ (.slice (some ⟨g1, 0, none⟩) (L1.length + 1) n))) := by
        have h := HSr.out.grow hORD HW0.out hR3 hA3
        rw [List.length_append] at h
        exact h
      have HFs : Hid (Fr W0.heap.size w.heap.size (b9 + 1 + 1) W (w3.setCell ⟨b8, 0, none⟩ (.slice (some ⟨g1, 0, none⟩) (L1.length + 1) n))) :=
        (HFr.out.ap hA3 (by have := HSZ.out; omega) (by omega) (by omega) (by omega) hszr).setCell _ _ (by simp; omega) (by simp; omega)
      have co3 := (box_ap HSr.out.bo hA3 (by omega)).cell
      have fo3 := (box_ap HSr.out.bo hA3 (by omega)).frozen
      clear hrun hR3 hA3 hwb
      gi_wp2_with (gi_at_builtin; refine round_append2 rfl (.tmp 55) (.tmp 56) _ _ rfl _ _ _ rfl rfl HRUN.out ?_)
      obtain ⟨Ws, hWs⟩ : ∃ Ws, Ws = w3.setCell ⟨b8, 0, none⟩ (.slice (some ⟨g1, 0, none⟩) (L1.length + 1) n) := ⟨_, rfl⟩
      rw [← hWs] at HSs HFs ⊢
      clear hWs co3 fo3 HRUN HSr HFr hTW cf co cs fo
      obtain ⟨sc, hsce⟩ : ∃ sc, sc = divF f (subF f yy (evF f L1 xx)) (evF f L2 xx) := ⟨_, rfl⟩
      rw [← hsce] at hsc ⊢
      have HSC := Lib.hid hsce; clear hsce
      gi_loopw [60] (fun vi wr => ∃ (i : Nat) (o : List Nat), i ≤ L1.length + 1 ∧ vi = .int .i64 (i : Int) ∧ Hid (Upto (L1 ++ [0]) (fun i => addF f (L1.getD i 0) (mulF f sc (L2.getD i 0))) i o) ∧ Hid (ThS f n b0 b1 b2 b8 b9 g1 g2 w o L2 wr) ∧ Hid (Fr W0.heap.size w.heap.size (b9 + 1 + 1) W wr)) (fun vi _ => L1.length + 1 - (intOf vi).toNat)
      case atStart => exact ⟨0, _, Nat.zero_le _, rfl, Upto.zero _ _, HSs, HFs⟩
      case round =>
        obtain ⟨i, o, hi, rfl, HU, HSo, HFo⟩ := hrel
        have hol : o.length = L1.length + 1 := by rw [HU.out.1]; simp
        have hTo : Tab wr := hT0.out.below HSo.out.bel
        have cf := HSo.out.bf.cell; have co := HSo.out.bo.cell; have cs := HSo.out.bs.cell
        rw [hol] at co
        have HOL := Lib.hid hol; clear hol
        by_cases hlt : i < L1.length + 1
        · have hkP : i < (L1 ++ [0]).length := by simp; omega
          have hc1 := HSo.out.ro.blk.cell i (by rw [HOL.out]; exact hlt)
          have hz0 : (L1 ++ [0]).getD i 0 = L1.getD i 0 := getD_append_zeros L1 1 i
          rw [HU.out.at hkP, hz0] at hc1
          clear hz0
          have hc2 := HSo.out.rs.blk.cell i (by rw [HL2.out, ← HL1.out]; exact hlt)
          have hf1 := HSo.out.ro.blk.free i
          have hy1 : L1.getD i 0 ≤ 998244353 := by
            rcases Nat.lt_or_ge i L1.length with h | h
            · exact HE3.out _ (getD_mem L1 i h)
            · rw [getD_over h]; omega
          have hy2 := HE4.out _ (getD_mem L2 i (by rw [HL2.out, ← HL1.out]; exact hlt))
          have hi2 : (i : Int) < (L2.length : Int) := by rw [HL2.out, ← HL1.out]; omega
          have hmul := mulF_le f sc (L2.getD i 0)
          have HU2 : Hid (Upto (L1 ++ [0]) (fun i => addF f (L1.getD i 0) (mulF f sc (L2.getD i 0))) (i + 1) (o.set i (addF f (L1.getD i 0) (mulF f sc (L2.getD i 0))))) := HU.out.step hkP
          have HS2 : Hid (∀ q, ThS f n b0 b1 b2 b8 b9 g1 g2 w (o.set i (addF f (L1.getD i 0) (mulF f sc (L2.getD i 0)))) L2 ((wr.drewN q).setCell ⟨g1, i, none⟩ (.int .u64 ((addF f (L1.getD i 0) (mulF f sc (L2.getD i 0)) : Nat) : Int)))) := fun q => (HSo.out.drewN q).put hORD HW0.out _ _
          have HF2 : Hid (∀ u q, Fr W0.heap.size w.heap.size (b9 + 1 + 1) W ((wr.drewN q).setCell ⟨g1, i, none⟩ u)) := fun u q => (HFo.out.drewN q).setCell _ _ (by have := HW0.out; simp; omega) (by simp; omega)
          clear hkP HU HSo HFo HSs HFs
          generalize L1.getD i 0 = y1 at *
          generalize L2.getD i 0 = y2 at *
          gi_wp2
          refine round_quiet_tail 16 (by kernel_rfl) (by kernel_rfl) (by kernel_rfl) ?_
          simp only [List.take_succ_cons, List.take_zero, List.drop_succ_cons, List.drop_zero]
          repeat (quiet_step ((first
            | (go_at_call 46; exact quiet_of_eq (mul_any _ _ _ _ (hTo.drewN _) (by omega) (by omega)))
            | (go_at_call 45; exact quiet_of_eq (add_any _ _ _ _ (hTo.drewN _) (by omega) (by omega))))))
          refine wpQuiet_nil ?_
          intro _ hw'
          obtain ⟨nq, hw''⟩ := hw'
          subst hw''
          have hc3 : (wr.drewN nq).cell? ⟨g1, i, none⟩ = _ := hc1
          have hf3 : (wr.drewN nq).frozen? ⟨g1, i, none⟩ = false := hf1
          gi_wp2
          go_roundw
          case rel => exact ⟨i + 1, _, by omega, by go_num, HU2, HS2.out _, HF2.out _ _⟩
          case measure => simp [intOf]; omega
        · obtain rfl : i = L1.length + 1 := by omega
          have hE : o = (stepN f (L1, L2) x).1 := by
            have h := HU.out
            rw [show L1.length + 1 = (L1 ++ [0]).length by simp] at h
            have h2 := h.done
            rw [List.length_append] at h2
            rw [h2]
            unfold stepN
            simp only [HXX.out, HYY.out]
            rw [← HSC.out]
            rfl
          have hwr := withRoot_any f xx g2 (n + 1) L2 wr hTo (by omega) HSo.out.rs hL2n (by omega) (fun y hy => by have := HE4.out y hy; omega) hx1
          have HWR := Lib.hid hwr
          have hszo : b9 + 1 + 1 < wr.heap.size := by have h := HFo.out.1.size; have := HSZ.out; have h9 := HS0.out; omega
          have HSZO := Lib.hid hszo
          have HE := Lib.hid hE
          clear hE hwr hszo HU HSs HFs
          gi_wp2_with (refine ⟨trivial, ?_⟩; gi_at_call 47; refine (CallsIn.inRound l (callsIn_wide.2 HWR.out)).mono ?_; rintro e w4 ⟨rfl, hR4, hA4⟩; have co4 := (box_ap HSo.out.bs hA4 (by omega)).cell; have fo4 := (box_ap HSo.out.bs hA4 (by omega)).frozen; have HR4 := Lib.hid hR4; have HA4 := Lib.hid hA4; clear hR4 hA4)
          have hs9 := HSZ.out
          have hwb := HW0.out
          have hlr : (rootL f L2 xx).length = L2.length + 1 := rootL_len _ _ _
          have hF := (HFo.out.ap HA4.out (by omega) (by omega) (by omega) (by have := HSZO.out; omega) HSZO.out).setCell ⟨b9, 0, none⟩ (.slice (some ⟨g2, 0, none⟩) (L2.length + 1) (n + 1)) (by simp; omega) (by simp; omega)
          have hS4 := HSo.out.root hORD HW0.out HR4.out HA4.out
          rw [hlr] at hS4
          refine ⟨hF.1, hF.2, HOK2.out, Nat.le_trans HS0.out hF.1.size, ?_⟩
          rw [HSTEP.out]
          have h2 : (stepN f (L1, L2) x).2 = rootL f L2 xx := by unfold stepN; rw [HXX.out]
          rw [← HE.out, h2]
          exact hS4
  case done =>
    rintro D ys W hD rfl ⟨hok, hsz0, hS⟩ hK
    obtain ⟨e1, e2, e3, e4⟩ := stN_facts f (uptoN (ptAt X Y hX hY) n)
    rw [uptoN_len] at e1
    have co := hS.bo.cell
    rw [e1] at co
    have cr := hS.br.cell; have ce := hS.be.cell; have fr := hS.br.frozen; have fe := hS.be.frozen
    have ht := trim_own g1 (stN f (uptoN (ptAt X Y hX hY) n)).1 n W (by omega) (by omega) hS.ro.blk
    rw [e1] at ht
    have HTR := Lib.hid ht
    have HOK := Lib.hid hok; have HS := Lib.hid hS
    clear ht hok hS e1 e2 e3 e4
    gi_wp2_with (refine ⟨trivial, ?_⟩; gi_at_call 48; refine (callsIn_wide.2 HTR.out).mono ?_; rintro e w4 ⟨⟨au, M, rfl, hF⟩, rfl⟩; have HF := Lib.hid hF; clear hF)
    have hs9 := HSZ.out
    have hwb := HW0.out
    have hbr : Boxed ((W.setCell ⟨b1, 0, none⟩ (.slice au M M)).setCell ⟨b2, 0, none⟩ (.int .i64 0)) b1 25 (.slice au M M) := box_other (HS.out.br.set (.slice au M M)) _ (by simp; omega) _
    have hbe : Boxed ((W.setCell ⟨b1, 0, none⟩ (.slice au M M)).setCell ⟨b2, 0, none⟩ (.int .i64 0)) b2 29 (.int .i64 0) := (box_other HS.out.be _ (by simp; omega) _).set _
    have hbel : Below w.heap.size w ((W.setCell ⟨b1, 0, none⟩ (.slice au M M)).setCell ⟨b2, 0, none⟩ (.int .i64 0)) := (HS.out.bel.setCell (by simp; omega) _).setCell (by simp; omega) _
    have hK2 : ((W.setCell ⟨b1, 0, none⟩ (.slice au M M)).setCell ⟨b2, 0, none⟩ (.int .i64 0)).heap[D]? = some (.deferred (some [])) := ((KeepsOthers.setCell W _ _).trans (KeepsOthers.setCell _ _ _)).same D _ hK rfl
    refine ⟨by simp, .inl ⟨_, _, rfl, run_takeDeferred hK2, ?_⟩⟩
    have cr2 := cell_kept hbr.cell (grownBy_putObj' _ D (.deferred none)) (fun r e => by cases e; exact ⟨_, hK2, rfl⟩)
    have ce2 := cell_kept hbe.cell (grownBy_putObj' _ D (.deferred none)) (fun r e => by cases e; exact ⟨_, hK2, rfl⟩)
    refine ⟨.tuple #[.slice au M M, .int .i64 0], ?_, .inl ⟨HOK.out, _, rfl, ?_⟩, ?_⟩
    · simp [results, Tryd.results15, go_sem, cr2, ce2]
    · rcases HF.out with ⟨h1, rfl, rfl⟩ | ⟨rfl, rfl⟩
      · rw [h1]; exact Fre.nil _ _
      · have hb : Blk g1 W (strip (stN f (uptoN (ptAt X Y hX hY) n)).1) := (HS.out.ro.blk.shorter _).eq (strip_eq_take _).symm
        refine .inr ⟨g1, rfl, by omega, ?_⟩
        refine Blk.kept ?_ (grownBy_putObj' _ D (.deferred none)).size ((grownBy_putObj' _ D (.deferred none)).block g1 (by have := HS.out.ro.blk.1; simp; exact this) (by simp; omega))
        refine Blk.kept ?_ (by simp) (Below.heap_setCell _ _ _ _ (by simp; omega))
        exact hb.kept (by simp) (Below.heap_setCell _ _ _ _ (by simp; omega))
    · exact ⟨hT0.out, hbel.trans (belowK_b (w := w) (Nat.le_refl _) _ D _ _ (by omega) hK2 rfl rfl)⟩
  case stop =>
    rintro D c pre W hD ⟨k, hk, rfl⟩ ⟨rfl, hbad, hbr, hbe, hbel⟩ hK
    gi_wp2
    refine ⟨by simp, .inl ⟨_, _, rfl, run_takeDeferred hK, ?_⟩⟩
    have cr := cell_kept hbr.cell (grownBy_putObj' W D (.deferred none)) (fun r e => by cases e; exact ⟨_, hK, rfl⟩)
    have ce := cell_kept hbe.cell (grownBy_putObj' W D (.deferred none)) (fun r e => by cases e; exact ⟨_, hK, rfl⟩)
    refine ⟨.tuple #[.slice none 0 0, .int .i64 6], ?_, .inr ⟨?_, rfl⟩, ?_⟩
    · simp [results, Tryd.results15, go_sem, cr, ce]
    · intro hok
      obtain ⟨b, hb⟩ := uptoN_split (ptAt X Y hX hY) hk
      rw [hb] at hok
      exact hbad (okN_prefix hok)
    · exact ⟨hT0.out, hbel.trans (belowK_b (w := w) (Nat.le_refl _) W D _ _ (by have := HSZ.out; have := HW0.out; omega) hK rfl rfl)⟩
end Go.Proofs.YtiipgbobgeejmaaDoor

/- The examples that every law of the third stage asks besides: the call returns true. -/
namespace Go.Proofs.YtiipgbobgeejmaaDoor
open Go.RowKit
set_option linter.unusedVariables false

theorem heap_at (w : World) (o : Obj) (n : Nat) (h : n = w.heap.size) : (w.alloc o).heap[n]? = some o := by subst h; exact World.alloc_heap_new _ _
theorem reads_at (w : World) (B : Nat) (l : List Nat) (cap : Nat) (c : Array Value) (hB : w.heap[B]? = some (.cells c 22 (0, 0))) (hc : c.toList = nums l) (hU : ∀ x ∈ l, x ≤ 18446744073709551615) (hL : l.length ≤ 9223372036854775807) : Reads w (.slice (some ⟨B, 0, none⟩) l.length cap) l := by
  refine ⟨hU, hL, .inr ⟨B, 0, cap, rfl, fun i hi => ?_⟩⟩
  have h := nums_get l i hi
  rw [← hc] at h
  unfold World.cell?
  rw [hB]
  simpa using h
theorem reads_new (w : World) (l : List Nat) (cap : Nat) (c : Array Value) (B : Nat) (hB : B = w.heap.size) (hc : c.toList = nums l) (hU : ∀ x ∈ l, x ≤ 18446744073709551615) (hL : l.length ≤ 9223372036854775807) : Reads (w.alloc (.cells c 22)) (.slice (some ⟨B, 0, none⟩) l.length cap) l :=
  reads_at _ _ l cap c (heap_at _ _ _ hB) hc hU hL

theorem w_eval (f : Int) (l : List Nat) (x y : Nat) (v : Value) (w : World) (hT : Tab w) (hR : Reads w v l) (hx : x ≤ 18446744073709551615) (hy : evF f l x = y) :
    Calls Tryd.prog 42 #[.int .i64 f, v, .int .u64 (x : Int)] w fun e w' => e = .returned (.int .u64 (y : Int)) ∧ On w w' :=
  (eval_any f l x v w hT hR hx).mono fun e w' ⟨h1, n, h2⟩ => ⟨by rw [h1, hy], by rw [h2]; exact (On.refl hT).drewN n⟩
theorem w_shift (f : Int) (l : List Nat) (s : Nat) (v : Value) (w : World) (hT : Tab w) (hR : Reads w v l) (hl : l.length ≤ 10000) (hs : s ≤ 18446744073709551615) :
    Calls Tryd.prog 51 #[.int .i64 f, v, .int .u64 (s : Int)] w fun e w' => ∃ a, e = .returned (.slice a (shiftF f l s).length (shiftF f l s).length) ∧ Reads w' (.slice a (shiftF f l s).length (shiftF f l s).length) (shiftF f l s) ∧ On w w' := by
  refine (shift_any f l s v w hT hR (by omega) hs).mono ?_
  rintro e w' ⟨⟨u, rfl, h5⟩, h3⟩
  obtain ⟨a, rfl⟩ := fre_shape h5
  have hb : (shiftF f l s).length ≤ l.length := by unfold shiftF; have := normF_len f ((List.range l.length).map fun i => mulF f (l.getD i 0) (powF f s i)); simpa using this
  exact ⟨a, rfl, h5.reads (by unfold shiftF; exact normF_bd) (by omega), h3⟩
/-- The points of two lists. -/
theorem bdL (l : List Nat) (h : ∀ x ∈ l, x ≤ 18446744073709551615) : ∀ j, l.getD j 0 ≤ 18446744073709551615 := fun j => by
  rcases Nat.lt_or_ge j l.length with h1 | h1
  · exact h _ (getD_mem l j h1)
  · rw [getD_over h1]; omega
def ptsL (xs ys : List Nat) (hx : ∀ x ∈ xs, x ≤ 18446744073709551615) (hy : ∀ x ∈ ys, x ≤ 18446744073709551615) : List Pt := uptoN (ptAt (fun j => xs.getD j 0) (fun j => ys.getD j 0) (bdL xs hx) (bdL ys hy)) xs.length
theorem w_through (f : Int) (xs ys : List Nat) (v v' : Value) (w : World) (hT : Tab w) (hv : validB f = true) (hR : Reads w v xs) (hR' : Reads w v' ys) (hl : ys.length = xs.length) (hL : xs.length ≤ 1024) (hx : ∀ x ∈ xs, x ≤ 18446744073709551615) (hy : ∀ x ∈ ys, x ≤ 18446744073709551615) :
    Calls Tryd.prog 15 #[.int .i64 f, v, v'] w fun e w' =>
      ((okN f (ptsL xs ys hx hy) ∧ ∃ a, e = .returned (.tuple #[.slice a (strip (stN f (ptsL xs ys hx hy)).1).length (strip (stN f (ptsL xs ys hx hy)).1).length, .int .i64 0]) ∧ Reads w' (.slice a (strip (stN f (ptsL xs ys hx hy)).1).length (strip (stN f (ptsL xs ys hx hy)).1).length) (strip (stN f (ptsL xs ys hx hy)).1)) ∨
        (¬ okN f (ptsL xs ys hx hy) ∧ e = .returned (.tuple #[.slice none 0 0, .int .i64 6]))) ∧ On w w' := by
  obtain ⟨a, c, rfl⟩ := hR.shape
  obtain ⟨a', c', rfl⟩ := hR'.shape
  rw [hl] at hR' ⊢
  obtain ⟨-, h1⟩ := reads_opt hR
  obtain ⟨-, h2⟩ := reads_opt hR'
  refine (through_any f xs.length c c' a a' (fun j => xs.getD j 0) (fun j => ys.getD j 0) (bdL xs hx) (bdL ys hy) w hT hv hL (fun j hj => ?_) (fun j hj => ?_)).mono ?_
  · obtain ⟨b, o, h3, h4⟩ := h1 j hj
    exact ⟨b, o, h3, cell_size h4, h4⟩
  · obtain ⟨b, o, h3, h4⟩ := h2 j (by omega)
    exact ⟨b, o, h3, cell_size h4, h4⟩
  · rintro e w' ⟨⟨h3, u, rfl, h5⟩ | h3, h4⟩
    · obtain ⟨b, rfl⟩ := fre_shape h5
      refine ⟨.inl ⟨h3, b, rfl, h5.reads (fun z hz => ?_) ?_⟩, h4⟩
      · have := (stN_facts f (uptoN (ptAt (fun j => xs.getD j 0) (fun j => ys.getD j 0) (bdL xs hx) (bdL ys hy)) xs.length)).2.2.1 z (strip_mem hz); omega
      · have h6 := (stN_facts f (uptoN (ptAt (fun j => xs.getD j 0) (fun j => ys.getD j 0) (bdL xs hx) (bdL ys hy)) xs.length)).1
        have h7 := strip_len (stN f (uptoN (ptAt (fun j => xs.getD j 0) (fun j => ys.getD j 0) (bdL xs hx) (bdL ys hy)) xs.length)).1
        rw [h6, uptoN_len] at h7
        omega
    · exact ⟨.inr h3, h4⟩
theorem k_div {Q R : List Nat} (h : DivR 0 (normF 0 [96, 0, 1]) (normF 0 [96, 1]) Q R) : Q = [1, 1] ∧ R = [] := by
  have hn : normF 0 [96, 1] = [96, 1] := by decide +kernel
  rw [hn] at h
  refine div_unique (last := 1) (by decide) rfl (by decide +kernel) h ?_
  refine ⟨by decide +kernel, by decide +kernel, .inr (by decide +kernel), .inl rfl, by decide, by decide +kernel, .inr (by decide +kernel), fun k => ?_⟩
  rcases Nat.lt_or_ge k 4 with h1 | h1
  · obtain rfl | rfl | rfl | rfl : k = 0 ∨ k = 1 ∨ k = 2 ∨ k = 3 := by omega
    all_goals decide +kernel
  · rw [conv_over _ _ _ (by simp; omega), getD_over (by simp), getD_over (by rw [show normF 0 [96, 0, 1] = [96, 0, 1] by decide +kernel]; simp; omega)]; decide
theorem k_through (hx : ∀ x ∈ [1, 2, 3], x ≤ 18446744073709551615) (hy : ∀ x ∈ [1, 4, 9], x ≤ 18446744073709551615) : okN 0 (ptsL [1, 2, 3] [1, 4, 9] hx hy) ∧ strip (stN 0 (ptsL [1, 2, 3] [1, 4, 9] hx hy)).1 = [0, 0, 1] := by
  have e : ptsL [1, 2, 3] [1, 4, 9] hx hy = (([] ++ [(⟨(1, 1), by decide, by decide⟩ : Pt)]) ++ [⟨(2, 4), by decide, by decide⟩]) ++ [⟨(3, 9), by decide, by decide⟩] := rfl
  rw [e]
  exact ⟨okN_snoc (okN_snoc (okN_snoc (okN_nil 0) (by decide +kernel)) (by decide +kernel)) (by decide +kernel), by decide +kernel⟩

end Go.Proofs.YtiipgbobgeejmaaDoor

/- Different numbers and the polynomial through points at them: plain facts for the law PolyOne. -/
namespace Go.Proofs.YtiipgbobgeejmaaDoor
open Go.RowKit
set_option linter.unusedVariables false

def Diff (f : Int) (X : List Nat) : Prop := X.Pairwise fun x y => x % pOf f ≠ y % pOf f
theorem Diff.snoc {f : Int} {X : List Nat} {x : Nat} (h : Diff f X) (k : amongB X (pOf f) (x % pOf f) X.length = false) : Diff f (X ++ [x]) := by
  unfold Diff amongB at *
  rw [List.take_length] at k
  rw [List.pairwise_append]
  refine ⟨h, by simp, fun a ha b hb hab => ?_⟩
  simp at hb; subst hb
  rw [List.any_eq_false] at k
  exact k a ha (by simpa using hab)
theorem ptsL_map (xs ys : List Nat) (hx : ∀ x ∈ xs, x ≤ 18446744073709551615) (hy : ∀ x ∈ ys, x ≤ 18446744073709551615) : (ptsL xs ys hx hy).map (fun p => p.1.1) = xs := by
  unfold ptsL uptoN
  rw [List.map_map]
  refine list_ext (by simp) fun i hi => ?_
  rw [List.length_map, List.length_range] at hi
  rw [getD_range, if_pos hi]
  rfl
theorem ptsL_len (xs ys : List Nat) (hx : ∀ x ∈ xs, x ≤ 18446744073709551615) (hy : ∀ x ∈ ys, x ≤ 18446744073709551615) : (ptsL xs ys hx hy).length = xs.length := by unfold ptsL; rw [uptoN_len]
theorem ptsL_mem (xs ys : List Nat) (hx : ∀ x ∈ xs, x ≤ 18446744073709551615) (hy : ∀ x ∈ ys, x ≤ 18446744073709551615) (q : Pt) : q ∈ ptsL xs ys hx hy ↔ ∃ i, i < xs.length ∧ ptAt (fun j => xs.getD j 0) (fun j => ys.getD j 0) (bdL xs hx) (bdL ys hy) i = q := by
  unfold ptsL uptoN
  rw [List.mem_map]
  constructor
  · rintro ⟨i, hi, rfl⟩; exact ⟨i, List.mem_range.1 hi, rfl⟩
  · rintro ⟨i, hi, rfl⟩; exact ⟨i, List.mem_range.2 hi, rfl⟩
theorem one_ok {f : Int} (hv : validB f = true) {xs : List Nat} (ys : List Nat) (hx : ∀ x ∈ xs, x ≤ 18446744073709551615) (hy : ∀ x ∈ ys, x ≤ 18446744073709551615) (h : Diff f xs) : okN f (ptsL xs ys hx hy) := by
  rw [okN_iff hv, ptsL_map]; exact h
theorem one_val {f : Int} (hv : validB f = true) {xs : List Nat} (ys : List Nat) (hx : ∀ x ∈ xs, x ≤ 18446744073709551615) (hy : ∀ x ∈ ys, x ≤ 18446744073709551615) (h : Diff f xs) (i : Nat) (hi : i < xs.length) :
    evF f (thruL f (ptsL xs ys hx hy)) (xs.getD i 0) = ys.getD i 0 % pOf f := by
  unfold thruL
  rw [evF_strip]
  exact interp_val hv _ (one_ok hv ys hx hy h) _ ((ptsL_mem xs ys hx hy _).2 ⟨i, hi, rfl⟩)
def valsL (f : Int) (ys xs : List Nat) : List Nat := xs.map fun x => evF f ys x
theorem valsL_len (f : Int) (ys xs : List Nat) : (valsL f ys xs).length = xs.length := by unfold valsL; simp
theorem valsL_snoc (f : Int) (ys xs : List Nat) (i : Nat) (hi : i < xs.length) : valsL f ys (xs.take i) ++ [evF f ys (xs.getD i 0)] = valsL f ys (xs.take (i + 1)) := by
  unfold valsL; rw [take_snoc xs i hi, List.map_append]; rfl
theorem valsL_le (f : Int) (ys xs : List Nat) : ∀ x ∈ valsL f ys xs, x ≤ 18446744073709551615 := fun x hx => by
  unfold valsL at hx
  obtain ⟨y, _, rfl⟩ := List.mem_map.1 hx
  have := evF_le f ys y; omega
theorem valsL_getD (f : Int) (ys xs : List Nat) (i : Nat) (hi : i < xs.length) : (valsL f ys xs).getD i 0 = evF f ys (xs.getD i 0) := by
  unfold valsL
  rw [List.getD_eq_getElem?_getD, List.getElem?_map, List.getElem?_eq_getElem hi, List.getD_eq_getElem?_getD, List.getElem?_eq_getElem hi]; rfl
theorem one_back {f : Int} (hv : validB f = true) {xs : List Nat} (ys : List Nat) (hl : ys.length = xs.length) (hx : ∀ x ∈ xs, x ≤ 18446744073709551615) (hy : ∀ x ∈ valsL f ys xs, x ≤ 18446744073709551615) (h : Diff f xs) :
    thruL f (ptsL xs (valsL f ys xs) hx hy) = normF f ys := by
  have hp := (valid_iff f).1 hv
  refine (thruL_only hv (one_ok hv _ hx hy h) ys (by rw [ptsL_len]; omega) fun p hpm => ?_).symm
  obtain ⟨i, hi, rfl⟩ := (ptsL_mem _ _ hx hy p).1 hpm
  show evF f ys (xs.getD i 0) = (valsL f ys xs).getD i 0 % pOf f
  rw [valsL_getD f ys xs i hi, Nat.mod_eq_of_lt (evF_lt _ _ hp)]
theorem among_dec (f : Int) (hv : validB f = true) (y x : Nat) : (y % pOf f == x % pOf f) = decide (subF f y x = 0) := by
  rw [Bool.eq_iff_iff]
  simp only [beq_iff_eq, decide_eq_true_eq, subF_eq_zero hv]
end Go.Proofs.YtiipgbobgeejmaaDoor

/- What the law PolyOne keeps while it gathers numbers. -/
namespace Go.Proofs.YtiipgbobgeejmaaDoor
open Go.RowKit
set_option linter.unusedVariables false

def Apart (v u : Value) : Prop := ∀ g, v.ownBlock = some g → u.ownBlock ≠ some g
theorem Apart.symm {v u : Value} (h : Apart v u) : Apart u v := fun g hu hv => h g hv hu
theorem Ow.kept' {B : Nat} {w w' : World} {v u : Value} {l : List Nat} (h : Ow B w v l) (hg : w.grownBy w' u.ownBlock) (hne : Apart v u) : Ow B w' v l := by
  refine h.kept hg ?_
  cases e : v.ownBlock with
  | none => exact .inl rfl
  | some g => exact .inr fun e2 => hne g e e2.symm
theorem Apart.grown {B : Nat} {w : World} {v u u' : Value} {l : List Nat} (h : Apart v u) (ho : Ow B w v l) (hu : u'.ownBlock = u.ownBlock ∨ ∃ g, u'.ownBlock = some g ∧ w.heap.size ≤ g) : Apart v u' := fun g hv e => by
  rcases hu with hu | ⟨g', hu, hg⟩
  · exact h g hv (hu ▸ e)
  · rw [hu] at e
    simp at e; subst e
    have := (World.ownsRow.lt ho _ hv).2; omega
def One (f : Int) (B : Nat) (W w : World) (n : Nat) (vx vy : Value) (X Y : List Nat) : Prop :=
  On W w ∧ W.heap.size ≤ B ∧ B ≤ w.heap.size ∧ Ow B w vx X ∧ Ow B w vy Y ∧ Apart vx vy ∧ X.length = n ∧ Y.length = n ∧ n ≤ 24 ∧ (∀ x ∈ X, x ≤ 18446744073709551615) ∧ (∀ x ∈ Y, x ≤ 18446744073709551615) ∧ Diff f X
theorem One.start {f : Int} {W : World} (h : Tab W) : One f W.heap.size W W 0 (.slice none 0 0) (.slice none 0 0) [] [] :=
  ⟨On.refl h, Nat.le_refl _, Nat.le_refl _, Ow.nil _ _, Ow.nil _ _, fun g h => by simp [Value.ownBlock] at h, rfl, rfl, by omega, by simp, by simp, List.Pairwise.nil⟩
theorem One.drewN {f : Int} {B : Nat} {W w : World} {n : Nat} {vx vy : Value} {X Y : List Nat} (h : One f B W w n vx vy X Y) (k : Nat) : One f B W (w.drewN k) n vx vy X Y :=
  ⟨h.1.drewN k, h.2.1, h.2.2.1, h.2.2.2.1, h.2.2.2.2⟩
/-- Both lists take one more. -/
theorem One.more {f : Int} {B : Nat} {W w w1 w2 : World} {n x y : Nat} {vx vy vx' vy' : Value} {X Y : List Nat} (h : One f B W w n vx vy X Y) (hn : n < 24) (hx : x ≤ 18446744073709551615) (hy : y ≤ 18446744073709551615) (ha : amongB X (pOf f) (x % pOf f) n = false)
    (o1 : Ow B w1 vx' (X ++ [x])) (g1 : w.grownBy w1 vx.ownBlock) (b1 : vx'.ownBlock = vx.ownBlock ∨ ∃ g, vx'.ownBlock = some g ∧ w.heap.size ≤ g)
    (o2 : Ow B w2 vy' (Y ++ [y])) (g2 : w1.grownBy w2 vy.ownBlock) (b2 : vy'.ownBlock = vy.ownBlock ∨ ∃ g, vy'.ownBlock = some g ∧ w1.heap.size ≤ g) : One f B W w2 (n + 1) vx' vy' (X ++ [x]) (Y ++ [y]) := by
  obtain ⟨h1, h2, h3, h4, h5, h6, h7, h8, h9, h10, h11, h12⟩ := h
  have hO1 := h1.grown h2 h4 g1
  have hy1 := h5.kept' g1 h6.symm
  have hap1 : Apart vy vx' := h6.symm.grown h5 b1
  have hO2 := hO1.grown h2 hy1 g2
  have hap2 : Apart vx' vy' := hap1.symm.grown o1 b2
  have hs1 := g1.size; have hs2 := g2.size
  refine ⟨hO2, h2, by omega, o1.kept' g2 hap1.symm, o2, hap2, by simp [h7], by simp [h8], by omega, ?_, ?_, ?_⟩
  · intro z hz; rcases List.mem_append.1 hz with hz | hz
    · exact h10 z hz
    · simp at hz; subst hz; exact hx
  · intro z hz; rcases List.mem_append.1 hz with hz | hz
    · exact h11 z hz
    · simp at hz; subst hz; exact hy
  · exact h12.snoc (by rw [h7]; exact ha)
theorem One.appX {f : Int} {B : Nat} {W w : World} {n : Nat} {vx vy : Value} {X Y : List Nat} (h : One f B W w n vx vy X Y) (x : Nat) (C : Nat) (hC : C = w.heap.size) :
    ∃ a c w', (∀ ty, (Builtin.append_ #[25, 25] ty #[vx, .slice (some ⟨C, 0, none⟩) 1 1]).run Tryd.prog (w.alloc (.cells #[.int .u64 (x : Int)] 22)) = .ok (.slice a (n + 1) c) w') ∧
      Ow B w' (.slice a (n + 1) c) (X ++ [x]) ∧ w.grownBy w' vx.ownBlock ∧ ((Value.slice a (n + 1) c).ownBlock = vx.ownBlock ∨ ∃ g, (Value.slice a (n + 1) c).ownBlock = some g ∧ w.heap.size ≤ g) := by
  obtain ⟨h1, h2, h3, h4, h5, h6, h7, h8, h9, h10, h11, h12⟩ := h
  obtain ⟨v', w', a1, a2, a3, a4⟩ := append_own B x _ rfl X vx w C hC h4 h3 (by omega)
  obtain ⟨a, c, rfl⟩ := a2.shape
  have e : (X ++ [x]).length = n + 1 := by simp [h7]
  rw [e] at a1 a2 a4
  exact ⟨a, c, w', a1, a2, a3, a4⟩
theorem One.appY {f : Int} {B : Nat} {W w w1 : World} {n : Nat} {vx vy : Value} {X Y : List Nat} (h : One f B W w n vx vy X Y) (g1 : w.grownBy w1 vx.ownBlock) (y : Nat) (C : Nat) (hC : C = w1.heap.size) :
    ∃ a c w', (∀ ty, (Builtin.append_ #[25, 25] ty #[vy, .slice (some ⟨C, 0, none⟩) 1 1]).run Tryd.prog (w1.alloc (.cells #[.int .u64 (y : Int)] 22)) = .ok (.slice a (n + 1) c) w') ∧
      Ow B w' (.slice a (n + 1) c) (Y ++ [y]) ∧ w1.grownBy w' vy.ownBlock ∧ ((Value.slice a (n + 1) c).ownBlock = vy.ownBlock ∨ ∃ g, (Value.slice a (n + 1) c).ownBlock = some g ∧ w1.heap.size ≤ g) := by
  obtain ⟨h1, h2, h3, h4, h5, h6, h7, h8, h9, h10, h11, h12⟩ := h
  have hs1 := g1.size
  obtain ⟨v', w', a1, a2, a3, a4⟩ := append_own B y _ rfl Y vy w1 C hC (h5.kept' g1 h6.symm) (by omega) (by omega)
  obtain ⟨a, c, rfl⟩ := a2.shape
  have e : (Y ++ [y]).length = n + 1 := by simp [h8]
  rw [e] at a1 a2 a4
  exact ⟨a, c, w', a1, a2, a3, a4⟩
theorem w_through2 (f : Int) (xs ys : List Nat) (v v' : Value) (w : World) (hT : Tab w) (hv : validB f = true) (hR : Reads w v xs) (hR' : Reads w v' ys) (hl : ys.length = xs.length) (hL : xs.length ≤ 1024) (hx : ∀ x ∈ xs, x ≤ 18446744073709551615) (hy : ∀ x ∈ ys, x ≤ 18446744073709551615) :
    Calls Tryd.prog 15 #[.int .i64 f, v, v'] w fun e w' =>
      ((okN f (ptsL xs ys hx hy) ∧ ∃ a, e = .returned (.tuple #[.slice a (thruL f (ptsL xs ys hx hy)).length (thruL f (ptsL xs ys hx hy)).length, .int .i64 0]) ∧ Reads w' (.slice a (thruL f (ptsL xs ys hx hy)).length (thruL f (ptsL xs ys hx hy)).length) (thruL f (ptsL xs ys hx hy))) ∨
        (¬ okN f (ptsL xs ys hx hy) ∧ e = .returned (.tuple #[.slice none 0 0, .int .i64 6]))) ∧ On w w' := w_through f xs ys v v' w hT hv hR hR' hl hL hx hy
end Go.Proofs.YtiipgbobgeejmaaDoor
