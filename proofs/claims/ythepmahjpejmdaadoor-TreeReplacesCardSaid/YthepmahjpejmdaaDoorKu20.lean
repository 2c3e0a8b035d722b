/- Package tree: Build, where all is well: what the call returns. -/
import Derived.Test.YthepmahjpejmdaaDoorKu17
import Derived.Test.YthepmahjpejmdaaDoorKu19
import Derived.Deep.RegionWith
import Derived.Test.YthepmahjpejmdaaDoorKu14
import Derived.Test.YthepmahjpejmdaaDoorKu04
set_option linter.unusedSimpArgs false
set_option linter.unusedVariables false
/- Package tree: Build, where all is well: what the call returns. -/
namespace Go.Proofs.YthepmahjpejmdaaDoor
open Go.RowKit Go.Shelf
set_option linter.unusedVariables false
attribute [local go_sem] Oper.semAt_some

theorem upward_sl (f : Int) (a : Option Addr) (n c : Nat) (w : World) :
    Calls Tryd.prog 26 #[.int .i64 f, .slice a n c] w fun e w' =>
      e = .returned (.func (.func 40) #[] #[.pointer (some ⟨w.heap.size + 1, 0, none⟩), .pointer (some ⟨w.heap.size, 0, none⟩)]) ∧ w' = (w.alloc (.cells #[.int .i64 f] 3)).alloc (.cells #[.slice a n c] 22) := by
  go_enter Tryd.func26, Tryd.ntmps26
  go_wp2
  go_ret
  exact ⟨rfl, rfl⟩
/-- A tree's four cells in a block. -/
def TBox (T : Nat) (W : World) (f h c : Int) (v : Value) : Prop := W.heap[T]? = some (.cells #[.int .i64 f, .int .i64 h, .int .i64 c, v] 26 (0, 0))
theorem TBox.lt {T : Nat} {W : World} {f h c : Int} {v : Value} (b : TBox T W f h c v) : T < W.heap.size := (Array.getElem?_eq_some_iff.1 b).1
theorem TBox.cells {T : Nat} {W : World} {f h c : Int} {v : Value} (b : TBox T W f h c v) : W.cell? ⟨T, 0, none⟩ = some (.int .i64 f) ∧ W.cell? ⟨T, 1, none⟩ = some (.int .i64 h) ∧ W.cell? ⟨T, 2, none⟩ = some (.int .i64 c) ∧ W.cell? ⟨T, 3, none⟩ = some v := by
  refine ⟨?_, ?_, ?_, ?_⟩ <;> simp [World.cell?, show W.heap[T]? = _ from b]
theorem TBox.free {T : Nat} {W : World} {f h c : Int} {v : Value} (b : TBox T W f h c v) (o : Nat) : W.frozen? ⟨T, o, none⟩ = false := by simp [World.frozen?, show W.heap[T]? = _ from b]
theorem TBox.new (W : World) (f h c : Int) (v : Value) : TBox W.heap.size (W.alloc (.cells #[.int .i64 f, .int .i64 h, .int .i64 c, v] 26)) f h c v := World.alloc_heap_new W _
theorem TBox.block {T : Nat} {W W' : World} {f h c : Int} {v : Value} (b : TBox T W f h c v) (k : W'.heap[T]? = W.heap[T]?) : TBox T W' f h c v := k.trans b
theorem TBox.on {T : Nat} {W W' : World} {f h c : Int} {v : Value} (b : TBox T W f h c v) (k : On W W') : TBox T W' f h c v := b.block (k.2.block T b.lt)
theorem TBox.set {T : Nat} {W : World} {f h c : Int} {v : Value} (b : TBox T W f h c v) (u : Value) : TBox T (W.setCell ⟨T, 3, none⟩ u) f h c u := by
  obtain ⟨hlt, hk⟩ := Array.getElem?_eq_some_iff.1 b
  show (W.heap.modify T _)[T]? = _
  rw [Array.getElem?_eq_getElem (by rw [Array.size_modify]; exact hlt), Array.getElem_modify_self, hk]
  rfl

theorem Nat.pow_right_injective_z {a b : Nat} (h : 2 ^ a = 2 ^ b) : a = b := by
  rcases Nat.lt_trichotomy a b with e | e | e
  · have := Nat.pow_lt_pow_right (a := 2) (by omega) e; omega
  · exact e
  · have := Nat.pow_lt_pow_right (a := 2) (by omega) e; omega
theorem keepsOthers_hdr {W w1 : World} {n0 T : Nat} {v v' : Value} {k : Nat} {xs : List Value} (hrow : W.ownsRow n0 22 1 v k xs) (hg : W.grownBy w1 v.ownBlock) : KeepsOthers W (w1.setCell ⟨T, 3, none⟩ v') := by
  refine (KeepsOthers.of_grownBy hg fun j o ej hj => ?_).trans (KeepsOthers.setCell _ _ _)
  rcases hrow.2 with ⟨rfl, _⟩ | ⟨g, cap, cur, rfl, _, hgb, _⟩
  · simp [Value.ownBlock] at ej
  · obtain rfl : g = j := by simpa [Value.ownBlock] using ej
    rw [hgb] at hj; cases hj; rfl
theorem ownsRow_sl {W : World} {n0 : Nat} {v : Value} {k : Nat} {xs : List Value} (h : W.ownsRow n0 22 1 v k xs) (hl : xs.length = k) : ∃ a c, v = .slice a k c := by
  rcases h.2 with ⟨rfl, h0⟩ | ⟨g, cap, cur, rfl, _⟩
  · exact ⟨_, _, by rw [show k = 0 by omega]⟩
  · exact ⟨_, _, rfl⟩
theorem grownBy_setCell3 (W : World) (b : Nat) (v : Value) : W.grownBy (W.setCell ⟨b, 3, none⟩ v) (some b) :=
  ⟨rfl, rfl, rfl, (KeepsWalks.setCell W _ v).size, fun k _ hk => Below.heap_setCell _ _ _ k (fun e => hk (by rw [e]))⟩
/-- What holds between two rounds of Build: the tree's box T, its levels, the boxes of the cap and of the result. -/
structure BI (n1 n0 T : Nat) (f K c : Int) (w : World) (pre : List Lv) (W : World) : Prop where
  tb : ∃ v, TBox T W f K c v ∧ W.ownsRow n1 22 1 v pre.length (pre.map lvV) ∧ (pre = [] → v = .slice none 0 0)
  db : ∀ x ∈ pre, LvM n1 x W
  cb : Boxed W n0 3 (.int .i64 c)
  rb : TBox (n0 + 1) W 0 0 0 (.slice none 0 0)
  bel : Below w.heap.size w W
  sz : n1 ≤ W.heap.size
theorem not_row_of {W : World} {n1 : Nat} {v : Value} {k : Nat} {xs : List Value} (h : W.ownsRow n1 22 1 v k xs) (b : Nat) (hb : b < n1) : some b ≠ v.ownBlock := by
  rcases h.2 with ⟨rfl, _⟩ | ⟨g, cap, cur, rfl, hg, _⟩
  · simp [Value.ownBlock]
  · simp [Value.ownBlock]; omega
theorem DB.hdr {B : Nat} {X Y : World} {l : List Dg} {n1 : Nat} {v : Value} {pre : List Lv} (h : DB B X l) (hl : 0 < l.length) (hg : X.grownBy Y v.ownBlock) (hr : X.ownsRow n1 22 1 v pre.length (pre.map lvV)) (h0 : pre = [] → v = .slice none 0 0) : DB B Y l := by
  refine h.kept hg.size (hg.block B h.1 ?_)
  rcases hr.2 with ⟨rfl, _⟩ | ⟨g, cap, cur, rfl, hb, hgb, h1, h2, h3, h4⟩
  · simp [Value.ownBlock]
  · intro e
    obtain rfl : B = g := by simpa [Value.ownBlock] using e
    cases pre with
    | nil => have := h0 rfl; simp at this
    | cons x xs =>
      have c := (h.2.1 0 hl).1
      have d := World.ownsRow.cellAt hr 0 (by simp)
      rw [Nat.zero_mul, d] at c
      simp at c
theorem BI.own {n1 n0 T : Nat} {f K c : Int} {w : World} (hT : T < n1) (hn : n0 + 1 < n1) (hw : w.heap.size ≤ n1) : OwnFrom n1 (BI n1 n0 T f K c w) := by
  intro pre X Y row h hg hr
  obtain ⟨v, h1, h2, h3⟩ := h.tb
  have ne : ∀ b, b < n1 → some b ≠ row := fun b hb e => by have := (hr b e.symm).1; omega
  have hnc : ∀ r, row = some r → ∃ o : Obj, X.heap[r]? = some o ∧ o.isCells = false := fun r e => (hr r e).2
  refine ⟨⟨v, h1.block (hg.block T h1.lt (ne _ hT)), World.ownsRow.kept h2 hg ?_, h3⟩, fun x hx => lvM_own n1 n1 x X Y row (h.db x hx) hg hr, h.cb.kept hg (ne _ (by omega)), h.rb.block (hg.block _ h.rb.lt (ne _ hn)), h.bel.grown hg h.bel.size (fun k e => by have := (hr k e).1; omega), Nat.le_trans h.sz hg.size⟩
  rcases h2.2 with ⟨rfl, _⟩ | ⟨g, cap, cur, rfl, hb, hgb, _⟩
  · exact .inl rfl
  · refine .inr fun e => ?_
    obtain ⟨o, ho, hc⟩ := hnc g (by simpa [Value.ownBlock] using e.symm)
    rw [hgb] at ho; cases ho; cases hc
/-- One round: the level's header is appended. -/
theorem BI.step {n1 n0 T L F : Nat} {f K c : Int} {w W w2 : World} {pre : List Lv} {x : Lv} {v v' : Value} (h : BI n1 n0 T f K c w pre W) (hx : LvM n1 x W) (hTB : TBox T W f K c v) (hrow : W.ownsRow n1 22 1 v pre.length (pre.map lvV)) (h0 : pre = [] → v = .slice none 0 0)
    (hg : W.grownBy w2 v.ownBlock) (ho : w2.ownsRow n1 22 1 v' (pre.length + 1) (pre.map lvV ++ [lvV x])) (hT : T < n1) (hn : n0 + 1 < T) (hw : w.heap.size ≤ T) (hL : L < n1) (hF : F < n1) (hLT : L ≠ T) (hFT : F ≠ T) (hw0 : 0 < w.heap.size) (hwn : w.heap.size ≤ n1) :
    TBox T w2 f K c v ∧ KeepsFrom n1 W (w2.setCell ⟨T, 3, none⟩ v') ∧ LvK L F W (w2.setCell ⟨T, 3, none⟩ v') ∧ BI n1 n0 T f K c w (pre ++ [x]) (w2.setCell ⟨T, 3, none⟩ v') := by
  have b2 : TBox T w2 f K c v := hTB.block (hg.block T hTB.lt (not_row_of hrow T hT))
  have oth : ∀ b, b ≠ T → b < n1 → b < W.heap.size → (w2.setCell ⟨T, 3, none⟩ v').heap[b]? = W.heap[b]? := fun b hb h1 h2 => (Below.heap_setCell _ _ _ _ (fun e => hb e)).trans (hg.block b h2 (not_row_of hrow b h1))
  have hdb : ∀ B l, 0 < l.length → DB B W l → DB B (w2.setCell ⟨T, 3, none⟩ v') l := fun B l hl hd => by
    refine (hd.hdr hl hg hrow h0).kept (by simp [World.setCell]) (Below.heap_setCell _ _ _ _ ?_)
    intro e
    subst e
    have c0 := (hd.2.1 0 hl).1
    rw [hTB.cells.1] at c0
    simp at c0
  have hsz := h.sz
  refine ⟨b2, (keepsOthers_hdr hrow hg).from _, ⟨by have := hg.size; simpa [World.setCell] using this, hdb, oth L hLT hL (by omega), oth F hFT hF (by omega), oth 0 (by omega) (by omega) (by omega)⟩, ⟨v', b2.set v', ?_, fun e => absurd e (by simp)⟩, ?_, ?_, ?_, ?_, ?_⟩
  · rw [List.length_append, List.map_append]
    exact ho.kept (grownBy_setCell3 w2 T v') (.inr (fun e => not_row_of ho T hT e.symm))
  · intro y hy
    rcases List.mem_append.1 hy with hy | hy
    · obtain ⟨y1, y2, y3⟩ := h.db y hy
      exact ⟨hdb _ _ y2 y1, y2, y3⟩
    · obtain rfl : y = x := by simpa using hy
      exact ⟨hdb _ _ hx.2.1 hx.1, hx.2.1, hx.2.2⟩
  · exact (oth n0 (by omega) (by omega) h.cb.lt).trans h.cb
  · exact h.rb.block (oth (n0 + 1) (by omega) (by omega) h.rb.lt)
  · exact (h.bel.grown hg h.bel.size (fun k e => by
      rcases hrow.2 with ⟨rfl, _⟩ | ⟨g, cap, cur, rfl, hb, _⟩
      · simp [Value.ownBlock] at e
      · obtain rfl : g = k := by simpa [Value.ownBlock] using e
        omega)).setCell (p := ⟨T, 3, none⟩) hw v'
  · have := hg.size
    have e : (w2.setCell ⟨T, 3, none⟩ v').heap.size = w2.heap.size := by simp [World.setCell]
    omega
theorem TBox.store {T : Nat} {W : World} {f h c : Int} {v : Value} (b : TBox T W f h c v) (f' h' c' : Int) (v' : Value) : TBox T ((((W.setCell ⟨T, 0, none⟩ (.int .i64 f')).setCell ⟨T, 1, none⟩ (.int .i64 h')).setCell ⟨T, 2, none⟩ (.int .i64 c')).setCell ⟨T, 3, none⟩ v') f' h' c' v' := by
  have step : ∀ (X : World) (cs : Array Value) (k : Nat) (u : Value), X.heap[T]? = some (.cells cs 26 (0, 0)) → (X.setCell ⟨T, k, none⟩ u).heap[T]? = some (.cells (cs.setIfInBounds k u) 26 (0, 0)) := fun X cs k u hX => by
    obtain ⟨hlt, hk⟩ := Array.getElem?_eq_some_iff.1 hX
    show (X.heap.modify T _)[T]? = _
    rw [Array.getElem?_eq_getElem (by rw [Array.size_modify]; exact hlt), Array.getElem_modify_self, hk]
    rfl
  exact step _ _ 3 v' (step _ _ 2 _ (step _ _ 1 _ (step _ _ 0 _ b)))
theorem ap_t (T : Nat) (w : World) (a b c d : Value) : Ap T w ((((w.setCell ⟨T, 0, none⟩ a).setCell ⟨T, 1, none⟩ b).setCell ⟨T, 2, none⟩ c).setCell ⟨T, 3, none⟩ d) := ((((Ap.refl _ _).setCell _ _).setCell _ _).setCell _ _).setCell _ _
theorem TM.mono {n0 n1 : Nat} {w : World} {v : Value} {m : Nat} {F : Nat → List Dg} (h : TM n1 w v m F) (k : n0 ≤ n1) : TM n0 w v m F := by
  obtain ⟨g, cap, h1, h2, h3, h4, h5⟩ := h
  refine ⟨g, cap, h1, by omega, h3, h4, fun j hj => ?_⟩
  obtain ⟨B, c, e1, e2, e3, e4⟩ := h5 j hj
  exact ⟨B, c, e1, by omega, e3, e4⟩
/-- Another block turns, below n1 or one that holds no cells. -/
theorem TM.gb {n1 : Nat} {X Y : World} {v : Value} {m : Nat} {F : Nat → List Dg} {b : Nat} (h : TM n1 X v m F) (hm : 0 < m) (hF : ∀ j, j < m → 0 < (F j).length) (hg : X.grownBy Y (some b)) (hb : b < n1 ∨ ∃ o : Obj, X.heap[b]? = some o ∧ o.isCells = false) : TM n1 Y v m F := by
  obtain ⟨g, cap, h1, h2, h3, h4, h5⟩ := h
  have ne : ∀ k u, n1 ≤ k → X.cell? ⟨k, 0, none⟩ = some u → some k ≠ some b := fun k u hk hc e => by
    obtain rfl : k = b := by simpa using e
    rcases hb with hb | ⟨o, ho, hno⟩
    · omega
    · unfold World.cell? at hc
      rw [ho] at hc
      cases o <;> simp_all [Obj.isCells]
  obtain ⟨B0, c0, e0, _⟩ := h5 0 hm
  have hgk := hg.block g h3 (ne g _ h2 e0)
  refine ⟨g, cap, h1, h2, Nat.lt_of_lt_of_le h3 hg.size, fun j => (World.frozen?_of_block (a := ⟨g, j, none⟩) hgk).trans (h4 j), fun j hj => ?_⟩
  obtain ⟨B, c, e1, e2, e3, e4⟩ := h5 j hj
  exact ⟨B, c, (World.cell?_of_block (a := ⟨g, j, none⟩) hgk).trans e1, e2, e3, e4.kept hg.size (hg.block B e4.1 (ne B _ e2 (by have := (e4.2.1 0 (hF j hj)).1; rwa [Nat.zero_mul] at this)))⟩
theorem BI.tm {n1 n0 T : Nat} {f K c : Int} {w W : World} {pre : List Lv} {fl : Int} {l : List Dg} (h : BI n1 n0 T f K c w pre W) (hok : LvOk fl l pre) (hp : 0 < pre.length) :
    ∃ g cap, TBox T W f K c (.slice (some ⟨g, 0, none⟩) pre.length cap) ∧ TM n1 W (.slice (some ⟨g, 0, none⟩) pre.length cap) pre.length (lvl fl l) ∧ ∀ j, j < pre.length → 0 < (lvl fl l j).length := by
  obtain ⟨v, hv, hr, _⟩ := h.tb
  have hat : ∀ j, j < pre.length → ∃ x, pre[j]? = some x ∧ x ∈ pre ∧ x.2.2 = lvl fl l j := fun j hj => ⟨pre[j], List.getElem?_eq_getElem hj, List.getElem_mem hj, hok j _ (List.getElem?_eq_getElem hj)⟩
  rcases hr.2 with ⟨rfl, h0⟩ | ⟨g, cap, cur, rfl, hb, hgb, h1, h2, h3, h4⟩
  · omega
  have hcell : ∀ j x, pre[j]? = some x → W.cell? ⟨g, j, none⟩ = some (lvV x) := fun j x hx => by
    have hj := (List.getElem?_eq_some_iff.1 hx).1
    have := World.ownsRow.cellAt hr j (by simpa using hj)
    rw [this, List.getElem?_map, hx]; rfl
  refine ⟨g, cap, hv, ⟨g, cap, rfl, hb, (Array.getElem?_eq_some_iff.1 hgb).1, fun j => by simp [World.frozen?, hgb], fun j hj => ?_⟩, fun j hj => ?_⟩
  · obtain ⟨x, hx, hm, hl⟩ := hat j hj
    obtain ⟨d1, d2, d3⟩ := h.db x hm
    refine ⟨x.1, x.2.1, by rw [hcell j x hx, ← hl], d3, ?_, by rw [← hl]; exact d1⟩
    intro e
    obtain ⟨y, hy, _⟩ := hat 0 hp
    have c0 := hcell 0 y hy
    have c1 := (d1.2.1 0 d2).1
    rw [e, Nat.zero_mul, c0] at c1
    simp at c1
  · obtain ⟨x, hx, hm, hl⟩ := hat j hj
    rw [← hl]; exact (h.db x hm).2.1
theorem round_append_z {P : Program} {w w' : World} {ops : Array Oper} {rest : List Oper} {o : Oper} {a : Act} {Q : Exit → Act → World → Prop} {m lo : Nat} (hgd : o.guard = none) (s x : Operand) (t u : TypeId)
    (ho : o.op = .call { callee := .builtin .append, args := #[s, x], argTypes := #[t, u] }) (vs vx v' : Value) (hs : a.eval s = vs) (hx : a.eval x = vx) (hrun : ∀ ty, (Builtin.append_ #[t, u] ty #[vs, vx]).run P w = .ok v' w')
    (h : wpListIn (Fence.wide.inRound lo) m P ops Q rest (a.put o.dst v') w') : wpListIn (Fence.wide.inRound lo) m P ops Q (o :: rest) a w :=
  wpListIn_plain hgd fun K hK => by
    refine ⟨fun _ _ => trivial, ?_⟩
    rw [Oper.semAt_eq _ _ _ (by rw [ho]; intro c h; cases h)]
    unfold execOp
    simp only [ho, resolve, invoke, builtin, Sem.run_bind, Sem.run_pure, Result.andThen_ok, List.map_toArray, List.map_cons, List.map_nil, hs, hx, hrun]
    exact hK _ _ h
set_option maxRecDepth 100000 in
set_option maxHeartbeats 2000000 in
theorem build_yes (f : Int) (l : List Dg) (v : Value) (K c : Nat) (w : World) (hT : TZ w) (hv : validB f = true) (hK : K ≤ 18) (hlen : l.length = 2 ^ K) (hc : c ≤ K) (hok : okA f l = true) (hR : DR w v l) :
    Calls Tryd.prog 7 #[.int .i64 f, v, .int .i64 (c : Int)] w fun e w' =>
      (∃ v', e = .returned (.tuple #[.agg #[.int .i64 f, .int .i64 (K : Int), .int .i64 (c : Int), v'], .int .i64 0]) ∧ TM w.heap.size w' v' (K - c + 1) (lvl f l)) ∧ On w w' := by
  obtain ⟨a, cap, rfl⟩ := hR.shape
  refine (callsIn_wide (n := 10)).1 ?_
  have HV := Lib.hid hv
  have HX : Hid (∀ w', On w w' → Calls Tryd.prog 23 #[.int .i64 (l.length : Int)] w' fun e w'' => e = .returned (.tuple #[.int .i64 (K : Int), .bool true]) ∧ w' = w'') := fun w' h => exponent_some K l.length w' (hT.on h) hK hlen
  have HP : Hid (∀ w', On w w' → Calls Tryd.prog 25 #[.int .i64 f, .slice a l.length cap] w' fun e w'' => e = .returned (.bool true) ∧ On w' w'') := fun w' h => by
    have k := proper_any f l _ w' h.tab (hR.on h)
    rw [hok] at k; exact k
  have HO2 : Hid (∀ o1 o2, On w ((w.alloc o1).alloc o2)) := fun o1 o2 => ((On.refl hT.1).alloc o1).alloc o2
  have HT := Lib.hid hT
  have HR := Lib.hid hR
  have HCB : Hid (Boxed ((w.alloc (.cells #[.int .i64 (c : Int)] 3)).alloc (.cells #[.int .i64 0, .int .i64 0, .int .i64 0, .slice none 0 0] 26)) w.heap.size 3 (.int .i64 (c : Int))) := Boxed.alloc (Boxed.new w _ _) _
  have HRB : Hid (TBox (w.heap.size + 1) ((w.alloc (.cells #[.int .i64 (c : Int)] 3)).alloc (.cells #[.int .i64 0, .int .i64 0, .int .i64 0, .slice none 0 0] 26)) 0 0 0 (.slice none 0 0)) := by
    have h := TBox.new (w.alloc (.cells #[.int .i64 (c : Int)] 3)) 0 0 0 (.slice none 0 0)
    rw [World.size_alloc] at h; exact h
  have HLEN := Lib.hid hlen
  have HOK := Lib.hid hok
  have hc0 : ¬ (c : Int) < 0 := by omega
  have hck : ¬ (K : Int) < (c : Int) := by omega
  have hcd : decide ((c : Int) < 0) = false := decide_eq_false hc0
  clear hT hv hlen hok hR
  refine callsIn_of_wp_marks Tryd.func7 rfl trivial ?_ rfl
  simp only [Tryd.ntmps7, List.size_toArray, List.length_cons, List.length_nil, Nat.reduceAdd, Nat.reduceSub, Array.replicate_succ, Array.replicate_zero, List.push_toArray, List.append_toArray, List.nil_append, List.cons_append]
  gi_wp2_with (first
    | (refine ⟨trivial, ?_⟩; gi_at_call 23; refine (callsIn_wide.2 (HX.out _ (HO2.out _ _))).mono ?_; rintro e w' ⟨rfl, rfl⟩)
    | (refine ⟨trivial, ?_⟩; gi_at_call 24; refine (callsIn_wide.2 (valid_any _ _)).mono ?_; rintro e w' ⟨rfl, rfl⟩; rw [HV.out])
    | (refine ⟨trivial, ?_⟩; gi_at_call 25; refine (callsIn_wide.2 (HP.out _ (HO2.out _ _))).mono ?_; rintro e w1 ⟨rfl, hO1⟩; have HO1 := Lib.hid hO1; have hcc := (box_on' HCB.out hO1).cell; clear hO1)
    | (refine ⟨trivial, ?_⟩; gi_at_call 26; refine (callsIn_wide.2 (upward_sl _ _ _ _ _)).mono ?_; rintro e w2 ⟨rfl, rfl⟩))
  have HB0 : Hid (On w1 (((w1.alloc (.cells #[.int .i64 f, .int .i64 (K : Int), .int .i64 (c : Int), .slice none 0 0] 26)).alloc (.cells #[.int .i64 f] 3)).alloc (.cells #[.slice a l.length cap] 22))) := (((On.refl HO1.out.tab).alloc _).alloc _).alloc _
  have HTB : Hid (TBox w1.heap.size (((w1.alloc (.cells #[.int .i64 f, .int .i64 (K : Int), .int .i64 (c : Int), .slice none 0 0] 26)).alloc (.cells #[.int .i64 f] 3)).alloc (.cells #[.slice a l.length cap] 22)) f K c (.slice none 0 0)) := (TBox.new w1 f K c (.slice none 0 0)).on (((On.refl ((On.refl HO1.out.tab).alloc _).tab).alloc _).alloc _)
  have HFB : Hid (Boxed (((w1.alloc (.cells #[.int .i64 f, .int .i64 (K : Int), .int .i64 (c : Int), .slice none 0 0] 26)).alloc (.cells #[.int .i64 f] 3)).alloc (.cells #[.slice a l.length cap] 22)) (w1.heap.size + 1) 3 (.int .i64 f)) := by
    have h := Boxed.new (w1.alloc (.cells #[.int .i64 f, .int .i64 (K : Int), .int .i64 (c : Int), .slice none 0 0] 26)) 3 (.int .i64 f)
    rw [World.size_alloc] at h; exact h.alloc _
  have HLB : Hid (Boxed (((w1.alloc (.cells #[.int .i64 f, .int .i64 (K : Int), .int .i64 (c : Int), .slice none 0 0] 26)).alloc (.cells #[.int .i64 f] 3)).alloc (.cells #[.slice a l.length cap] 22)) (w1.heap.size + 1 + 1) 22 (.slice a l.length cap)) := by
    have h := Boxed.new ((w1.alloc (.cells #[.int .i64 f, .int .i64 (K : Int), .int .i64 (c : Int), .slice none 0 0] 26)).alloc (.cells #[.int .i64 f] 3)) 22 (.slice a l.length cap)
    rw [World.size_alloc, World.size_alloc] at h; exact h
  have HSZ : Hid ((((w1.alloc (.cells #[.int .i64 f, .int .i64 (K : Int), .int .i64 (c : Int), .slice none 0 0] 26)).alloc (.cells #[.int .i64 f] 3)).alloc (.cells #[.slice a l.length cap] 22)).heap.size = w1.heap.size + 1 + 1 + 1) := by refine Lib.hid ?_; simp
  generalize (((w1.alloc (.cells #[.int .i64 f, .int .i64 (K : Int), .int .i64 (c : Int), .slice none 0 0] 26)).alloc (.cells #[.int .i64 f] 3)).alloc (.cells #[.slice a l.length cap] 22)) = W0 at *
  have HOW : Hid (On w W0) := ((HO2.out _ _).trans HO1.out).trans HB0.out
  have HCB0 := Lib.hid (box_on' (box_on' HCB.out HO1.out) HB0.out)
  have HRB0 := Lib.hid ((HRB.out.on HO1.out).on HB0.out)
  have hT2 : w.heap.size + 1 < w1.heap.size := (HRB.out.on HO1.out).lt
  obtain ⟨T, hTe⟩ : ∃ T, T = w1.heap.size := ⟨_, rfl⟩
  obtain ⟨n0, hn0⟩ : ∃ n0, n0 = w.heap.size := ⟨_, rfl⟩
  rw [← hTe] at HTB HFB HLB HSZ hT2 ⊢
  rw [← hn0] at HCB0 HRB0 hT2 ⊢
  have HN0 := Lib.hid hn0
  have hwpos := HT.out.1.size
  rw [← hn0] at hwpos
  clear hTe hn0 HB0 HO1 HCB HRB HX HP HO2 hcc
  obtain ⟨n1, hn1⟩ : ∃ n1, n1 = W0.heap.size := ⟨_, rfl⟩
  have HN1 := Lib.hid hn1
  have hn1T : n1 = T + 1 + 1 + 1 := by rw [hn1]; exact HSZ.out
  have HN1T := Lib.hid hn1T
  clear hn1 hn1T HSZ
  have HI0 : Hid (BI n1 n0 T f K c w [] W0) := ⟨⟨_, HTB.out, World.ownsRow_nil _ _ _ _, fun _ => rfl⟩, fun x hx => (by simp at hx), HCB0.out, HRB0.out, HOW.out.2, by rw [HN1.out]; exact Nat.le_refl _⟩
  refine range_mem (F := Fence.wide) (n := 10) (P := Tryd.prog) 0 rfl (by omega) (gf := 40) (lb := #[.pointer (some ⟨T + 1 + 1, 0, none⟩), .pointer (some ⟨T + 1, 0, none⟩)]) rfl trivial (enters_of Tryd.func40 (by kernel_rfl) rfl)
    (encs := fun x : Lv => #[lvV x]) (M := LvM n1) (Kp := LvK (T + 1 + 1) (T + 1)) (S := fun xs => LvOk f l xs ∧ xs.length = K + 1) (Sp := fun pre => LvOk f l pre ∧ pre.length ≤ K + 1) (C := 19)
    ?seq (fun h k => h.trans k) ?kb (fun _ => rfl) (fun pre W => BI n1 n0 T f K c w pre W ∧ ∀ x ∈ pre, x.2.2.length ≠ 2 ^ c) (fun pre W => BI n1 n0 T f K c w pre W ∧ ∃ (p : List Lv) (x : Lv), pre = p ++ [x] ∧ (∀ y ∈ p, y.2.2.length ≠ 2 ^ c) ∧ x.2.2.length = 2 ^ c)
    ?ownI ?ownX ?ownM ⟨HI0.out, fun x hx => (by simp at hx)⟩ (fun x => { tmps := #[.int .i64 f, .slice a l.length cap, .int .i64 (c : Int), undef, undef, .pointer (some ⟨n0, 0, none⟩), .pointer (some ⟨n0 + 1, 0, none⟩), .int .i64 0,
          .int .i64 (K : Int), .bool true, .pointer (some ⟨T, 0, none⟩), lvV x, .tuple #[.int .i64 (K : Int), .bool true], .slice a l.length cap, .int .i64 (l.length : Int), .tuple #[.int .i64 (K : Int), .bool true],
          .int .i64 (K : Int), .bool true, .bool true, .bool false, .bool false, .int .i64 f, .bool true, .bool false, .bool false, .bool false, .int .i64 (c : Int), .bool false, .bool false, .bool false, .int .i64 (c : Int),
          .int .i64 (K : Int), .bool false, .bool false, undef, .int .i64 f, .slice a l.length cap, .bool true, .bool false, undef, .int .i64 f, .int .i64 (K : Int), .int .i64 (c : Int),
          .agg #[.int .i64 f, .int .i64 (K : Int), .int .i64 (c : Int), .slice none 0 0], .int .i64 f, .slice a l.length cap, .func (.func 40) #[] #[.pointer (some ⟨T + 1 + 1, 0, none⟩), .pointer (some ⟨T + 1, 0, none⟩)], lvV x,
          undef, undef, undef, undef, undef, undef, undef, undef, undef, undef, undef, undef], defers := [] }) ?assign ?body ?done ?stop
  case seq =>
    intro i J Jx W hW aJ _ hY h0
    have hb : ∀ b, b < W0.heap.size → W.heap[b]? = W0.heap[b]? := fun b hb => hW.block b hb
    have h1 : T + 1 + 1 < W0.heap.size := HLB.out.lt
    have hOW : On W0 W := ⟨HOW.out.tab, hW⟩
    exact up_in 9 f l _ K hK HLEN.out (T + 1 + 1) (T + 1) i n1 J Jx W hOW.tab (HR.out.on (HOW.out.trans hOW)) (box_on' HLB.out hOW) (box_on' HFB.out hOW) (by rw [HN1.out]; exact hW.size) (Nat.lt_of_lt_of_le h1 hW.size) (Nat.lt_of_lt_of_le (by omega) hW.size) aJ hY h0
  case kb =>
    intro W i o o' hl ho hc _
    rw [← HN1.out] at hl
    have h3 := HN1T.out
    refine ⟨by simp [World.putObj], fun B l hl' hd => ?_, World.putObj_heap_other (by omega), World.putObj_heap_other (by omega), World.putObj_heap_other (by omega)⟩
    exact hd.gb hl' (grownBy_putObj' W i o') (fun r e => by cases e; exact ⟨o, ho, hc⟩)
  case ownI =>
    rw [← HN1.out]
    intro pre X Y row h hg hr
    have h3 := HN1T.out
    exact ⟨BI.own (by omega) (by omega) (by have := HN0.out; omega) pre X Y row h.1 hg hr, h.2⟩
  case ownX =>
    rw [← HN1.out]
    intro pre X Y row h hg hr
    have h3 := HN1T.out
    exact ⟨BI.own (by omega) (by omega) (by have := HN0.out; omega) pre X Y row h.1 hg hr, h.2⟩
  case ownM => exact lvM_own _ _
  case assign =>
    intro i x W k hk
    gi_wp2
    exact hk
  case body =>
    intro i pre x W ⟨hB, hnb⟩ hx hPL
    obtain ⟨v, hTv, hrow, hv0⟩ := hB.tb
    have hpl : (pre.map lvV).length = pre.length := by simp
    obtain ⟨av, cv, rfl⟩ := ownsRow_sl hrow hpl
    obtain ⟨B, cc, ls⟩ := x
    obtain ⟨v', w2, hrun, ho, hg⟩ := append_hdr (m := pre.length) hrow hpl hB.sz (by omega) (some ⟨B, 0, none⟩) ls.length cc W.heap.size rfl
    obtain ⟨gg, cg, rfl⟩ := ownsRow_succ ho
    have h3 := HN1T.out
    obtain ⟨b2, hk1, hk2, hB2⟩ := hB.step (L := T + 1 + 1) (F := T + 1) hx hTv hrow hv0 hg ho (by omega) hT2 (by have := HN0.out; omega) (by omega) (by omega) (by omega) (by omega) (by rw [← HN0.out]; exact hwpos) (by have := HN0.out; omega)
    have HB2 := Lib.hid hB2; have HK1 := Lib.hid hk1; have HK2 := Lib.hid hk2
    have hc3 := hTv.cells.2.2.2
    have hd3 := b2.cells.2.2.2
    have hf3 := b2.free 3
    have HRUN := Lib.hid hrun
    have hcc := hB2.cb.cell
    have HNB := Lib.hid hnb
    clear hTv hrow hv0 ho hg b2 hB hk1 hk2 hB2 hrun hpl h3 hnb hx
    obtain ⟨q, hqe⟩ : ∃ q, q = 2 ^ c := ⟨_, rfl⟩
    have hsh : wrap64 ((2 : Int) ^ c) = (q : Int) := by
      have h1 : 2 ^ c ≤ 2 ^ 18 := Nat.pow_le_pow_right (by omega) (by omega)
      have h2 : ((2 : Int) ^ c) = ((2 ^ c : Nat) : Int) := by simp
      rw [h2, ← hqe]
      have h3 : (2 : Nat) ^ 18 = 262144 := by decide
      unfold wrap64; omega
    have HQ := Lib.hid hqe
    clear hqe
    by_cases hq : ls.length = q
    · have HQ2 := Lib.hid hq
      have hqb : (((ls.length : Nat) : Int) == (q : Int)) = true := by simp; omega
      clear hq
      gi_wp2_with (gi_at_builtin; refine round_append_z rfl (.tmp 49) (.tmp 51) _ _ rfl _ _ _ rfl rfl HRUN.out ?_)
      exact ⟨rfl, by rw [← HN1.out]; exact HK1.out, HB2.out, _, _, rfl, HNB.out, by rw [← HQ.out]; exact HQ2.out⟩
    · have HQ2 := Lib.hid hq
      have hqb : (((ls.length : Nat) : Int) == (q : Int)) = false := by simp; omega
      clear hq
      gi_wp2_with (gi_at_builtin; refine round_append_z rfl (.tmp 49) (.tmp 51) _ _ rfl _ _ _ rfl rfl HRUN.out ?_)
      refine ⟨by rw [← HN1.out]; exact HK1.out, HK2.out, HB2.out, fun y hy => ?_⟩
      rcases List.mem_append.1 hy with hy | hy
      · exact HNB.out y hy
      · obtain rfl : y = (B, cc, ls) := by simpa using hy
        rw [← HQ.out]; exact HQ2.out
  case done =>
    rintro D xs W hD ⟨hok, hlx⟩ ⟨hB, hnb⟩ hD2
    exfalso
    have hj : K - c < xs.length := by omega
    refine hnb xs[K - c] (List.getElem_mem hj) ?_
    rw [hok (K - c) _ (List.getElem?_eq_getElem hj), lvl_len f l K HLEN.out _ (by omega), show K - (K - c) = c by omega]
  case stop =>
    rintro D pre W hD ⟨hok, hpl⟩ ⟨hB, p, x, rfl, hnb, hx⟩ hD2
    have hpK : p.length ≤ K := by rw [List.length_append] at hpl; simp at hpl; exact hpl
    have hpc : p.length = K - c := by
      have e := hok p.length x (by rw [List.getElem?_append_right (Nat.le_refl _), Nat.sub_self]; rfl)
      rw [e, lvl_len f l K HLEN.out _ hpK] at hx
      have := Nat.pow_right_injective_z hx
      omega
    have hm : (p ++ [x]).length = K - c + 1 := by rw [List.length_append, hpc]; rfl
    obtain ⟨g, cp, hTB, hTM, hpos⟩ := hB.tm hok (by rw [hm]; omega)
    rw [hm] at hTB hTM hpos
    obtain ⟨t0, t1, t2, t3⟩ := hTB.cells
    have hRB := hB.rb
    have hbel := hB.bel
    obtain ⟨r0, r1, r2, r3⟩ := hRB.cells
    have f0 := hRB.free 0; have f1 := hRB.free 1; have f2 := hRB.free 2; have f3 := hRB.free 3
    have HRB := Lib.hid hRB; have HTM := Lib.hid hTM; have HPOS := Lib.hid hpos; have HBEL := Lib.hid hbel
    have HD := Lib.hid hD; have HD2 := Lib.hid hD2
    clear hRB hTM hpos hTB hB hok hpl hnb hx hpc hm hbel hD hD2 hpK
    have h3 := HN1T.out
    have hRz : TBox (n0 + 1) ((((W.setCell ⟨n0 + 1, 0, none⟩ (.int .i64 f)).setCell ⟨n0 + 1, 1, none⟩ (.int .i64 (K : Int))).setCell ⟨n0 + 1, 2, none⟩ (.int .i64 (c : Int))).setCell ⟨n0 + 1, 3, none⟩ (.slice (some ⟨g, 0, none⟩) (K - c + 1) cp)) f K c (.slice (some ⟨g, 0, none⟩) (K - c + 1) cp) := HRB.out.store f K c (.slice (some ⟨g, 0, none⟩) (K - c + 1) cp)
    have hAP : Ap (n0 + 1) W ((((W.setCell ⟨n0 + 1, 0, none⟩ (.int .i64 f)).setCell ⟨n0 + 1, 1, none⟩ (.int .i64 (K : Int))).setCell ⟨n0 + 1, 2, none⟩ (.int .i64 (c : Int))).setCell ⟨n0 + 1, 3, none⟩ (.slice (some ⟨g, 0, none⟩) (K - c + 1) cp)) := ap_t _ _ _ _ _ _
    have hTz : TM n1 ((((W.setCell ⟨n0 + 1, 0, none⟩ (.int .i64 f)).setCell ⟨n0 + 1, 1, none⟩ (.int .i64 (K : Int))).setCell ⟨n0 + 1, 2, none⟩ (.int .i64 (c : Int))).setCell ⟨n0 + 1, 3, none⟩ (.slice (some ⟨g, 0, none⟩) (K - c + 1) cp)) (.slice (some ⟨g, 0, none⟩) (K - c + 1) cp) (K - c + 1) (lvl f l) := HTM.out.gb (by omega) HPOS.out hAP (.inl (by omega))
    have hDz : (((((W.setCell ⟨n0 + 1, 0, none⟩ (.int .i64 f)).setCell ⟨n0 + 1, 1, none⟩ (.int .i64 (K : Int))).setCell ⟨n0 + 1, 2, none⟩ (.int .i64 (c : Int))).setCell ⟨n0 + 1, 3, none⟩ (.slice (some ⟨g, 0, none⟩) (K - c + 1) cp))).heap[D]? = some (.deferred (some [])) := (hAP.block D (Array.getElem?_eq_some_iff.1 HD2.out).1 (by have := HD.out; have := HN1.out; simp; omega)).trans HD2.out
    have hBz : Below w.heap.size w ((((W.setCell ⟨n0 + 1, 0, none⟩ (.int .i64 f)).setCell ⟨n0 + 1, 1, none⟩ (.int .i64 (K : Int))).setCell ⟨n0 + 1, 2, none⟩ (.int .i64 (c : Int))).setCell ⟨n0 + 1, 3, none⟩ (.slice (some ⟨g, 0, none⟩) (K - c + 1) cp)) := HBEL.out.grown hAP HBEL.out.size (fun k e => by cases e; have := HN0.out; omega)
    have HRz := Lib.hid hRz; have HTz := Lib.hid hTz; have HDz := Lib.hid hDz; have HBz := Lib.hid hBz
    clear hRz hAP hTz hDz hBz
    gi_wp2
    generalize ((((W.setCell ⟨n0 + 1, 0, none⟩ (.int .i64 f)).setCell ⟨n0 + 1, 1, none⟩ (.int .i64 (K : Int))).setCell ⟨n0 + 1, 2, none⟩ (.int .i64 (c : Int))).setCell ⟨n0 + 1, 3, none⟩ (.slice (some ⟨g, 0, none⟩) (K - c + 1) cp)) = W5 at *
    refine ⟨by simp, .inl ⟨_, _, rfl, run_takeDeferred HDz.out, ?_⟩⟩
    have hR6 : TBox (n0 + 1) (W5.putObj D (.deferred none)) f K c (.slice (some ⟨g, 0, none⟩) (K - c + 1) cp) := HRz.out.block (World.putObj_heap_other (by have := HD.out; have := HN1.out; omega))
    obtain ⟨q0, q1, q2, q3⟩ := hR6.cells
    refine ⟨.tuple #[.agg #[.int .i64 f, .int .i64 (K : Int), .int .i64 (c : Int), (.slice (some ⟨g, 0, none⟩) (K - c + 1) cp)], .int .i64 0], ?_, ⟨_, rfl, ?_⟩, HT.out.1, ?_⟩
    · simp [results, Tryd.results7, go_sem, q0, q1, q2, q3]
    · exact (HTz.out.gb (by omega) HPOS.out (grownBy_putObj' W5 D (.deferred none)) (.inr ⟨_, HDz.out, rfl⟩)).mono (by have := HN0.out; omega)
    · exact HBz.out.trans (belowK_b (w := w) (Nat.le_refl _) _ D _ _ (by have := HD.out; have := HN1.out; have := HN0.out; omega) HDz.out rfl rfl)
end Go.Proofs.YthepmahjpejmdaaDoor

/- Package tree: Valid of a valid tree; top, isPlace: what each call returns. -/
namespace Go.Proofs.YthepmahjpejmdaaDoor
open Go.RowKit
set_option linter.unusedVariables false

/-- The levels of a valid tree. -/
structure Good (f : Int) (H c m : Nat) (F : Nat → List Dg) : Prop where
  hv : validB f = true
  hH : H ≤ 18
  hc : c ≤ H
  hm : m = H - c + 1
  len : ∀ j, j < m → (F j).length = 2 ^ (H - j)
  ok : ∀ j, j < m → okA f (F j) = true
theorem good_lvl {f : Int} {K c : Nat} {l : List Dg} (hv : validB f = true) (hK : K ≤ 18) (hc : c ≤ K) (hlen : l.length = 2 ^ K) (hok : okA f l = true) : Good f K c (K - c + 1) (lvl f l) :=
  ⟨hv, hK, hc, rfl, fun j hj => lvl_len f l K hlen j (by omega), fun j _ => lvl_ok hv hok j⟩
abbrev trV (f : Int) (H c : Nat) (v : Value) : Value := .agg #[.int .i64 f, .int .i64 (H : Int), .int .i64 (c : Int), v]
theorem pow18 {t : Nat} (h : t ≤ 18) : 2 ^ t ≤ 262144 := Nat.le_trans (Nat.pow_le_pow_right (by omega) h : 2 ^ t ≤ 2 ^ 18) (by decide)
theorem shl_nat (d q : Nat) (hd : d ≤ 18) (hq : q = 2 ^ d) : wrap64 ((2 : Int) ^ d) = (q : Int) := by
  have h1 := pow18 hd
  have h2 : ((2 : Int) ^ d) = ((2 ^ d : Nat) : Int) := by simp
  rw [h2, ← hq]; rw [← hq] at h1
  unfold wrap64; omega
set_option maxHeartbeats 1000000 in
set_option maxRecDepth 100000 in
theorem valid_yes (f : Int) (H c m : Nat) (F : Nat → List Dg) (v : Value) (w : World) (hT : Tab w) (hG : Good f H c m F) (hR : TR w v m F) :
    Calls Tryd.prog 10 #[trV f H c v] w fun e w' => e = .returned (.bool true) ∧ On w w' := by
  obtain ⟨a, cap, rfl, hm0, hRow⟩ := hR
  obtain ⟨u, hu⟩ : ∃ u, u = w.alloc (.cells #[.int .i64 f, .int .i64 (H : Int), .int .i64 (c : Int), .slice a m cap] 26) := ⟨_, rfl⟩
  have HU := Lib.hid hu
  have HO : Hid (On w u) := by refine Lib.hid ?_; rw [hu]; exact (On.refl hT).alloc _
  have HB : Hid (TBox w.heap.size u f H c (.slice a m cap)) := by refine Lib.hid ?_; rw [hu]; exact TBox.new w _ _ _ _
  have HG := Lib.hid hG
  have HV := Lib.hid hG.hv
  have HROW := Lib.hid hRow
  have HP : Hid (∀ j (x : Value) w', On u w' → DR w x (F j) → j < m → Calls Tryd.prog 25 #[.int .i64 f, x] w' fun e w'' => e = .returned (.bool true) ∧ On w' w'') := fun j x w' h hd hj => by
    have k := proper_any f (F j) x w' h.tab ((hd.on HO.out).on h)
    rw [hG.ok j hj] at k; exact k
  have hH18 := hG.hH
  have hcH := hG.hc
  have hmH := hG.hm
  obtain ⟨t0, t1, t2, t3⟩ := HB.out.cells
  have l0 : ¬ (H : Int) < 0 := by omega
  have l1 : ¬ (18 : Int) < (H : Int) := by omega
  have l2 : ¬ (c : Int) < 0 := by omega
  have l3 : ¬ (H : Int) < (c : Int) := by omega
  have e1 : (H : Int) - (c : Int) + 1 = (m : Int) := by omega
  have e0 : decide ((H : Int) < 0) = false := decide_eq_false l0
  have e2 : decide ((c : Int) < 0) = false := decide_eq_false l2
  have e3 : decide ((18 : Int) < (H : Int)) = false := decide_eq_false l1
  have e5 : decide (H < c) = false := decide_eq_false (by omega)
  have HMH := Lib.hid hmH
  clear hT hG hRow hu hmH
  go_enter Tryd.func10, Tryd.ntmps10
  go_upto_region 1 with fail
  rw [← HU.out]
  go_wp2_with (go_at_call 24; refine (valid_any _ _).mono ?_; rintro e w' ⟨rfl, rfl⟩; rw [HV.out])
  go_loopw [44] (fun vi wr => ∃ k : Nat, k ≤ m ∧ vi = .int .i64 (k : Int) ∧ Hid (On u wr)) (fun vi _ => m - (intOf vi).toNat)
  case atStart => exact ⟨0, Nat.zero_le _, rfl, On.refl HO.out.tab⟩
  case round =>
    obtain ⟨k, hk, rfl, HOr⟩ := hrel
    by_cases hlt : k < m
    · have hlt' : (k : Int) < (m : Int) := by omega
      obtain ⟨b, o, x, rfl, hx, hd⟩ := HROW.out k hlt
      obtain ⟨xa, xc, rfl⟩ := hd.shape
      have hxr := ((HO.out.trans HOr.out).cell (p := ⟨b, o + k, none⟩) (cell_size hx)).trans hx
      obtain ⟨s0, s1, s2, s3⟩ := (HB.out.on HOr.out).cells
      have hHk : (H : Int) - (k : Int) = ((H - k : Nat) : Int) := by have := HMH.out; omega
      have hlq := HG.out.len k hlt
      have HPk := Lib.hid (HP.out k _ wr HOr.out hd hlt)
      generalize (F k).length = q at *
      have hsh := shl_nat (H - k) q (by omega) hlq
      generalize H - k = dd at *
      have hqq : (((q : Nat) : Int) != (q : Int)) = false := by simp
      clear hlq hx hd t0 t1 t2 t3
      go_wp2_with (go_at_call 25; (with_reducible refine HPk.out.mono ?_); rintro e w3 ⟨rfl, hO3⟩; have HO3 := Lib.hid (HOr.out.trans hO3); clear hO3)
      go_roundw
      case rel => exact ⟨k + 1, by omega, by simp, HO3⟩
      case measure => simp [intOf]; omega
    · obtain rfl : k = m := by omega
      go_wp2
      go_ret
      exact ⟨rfl, HO.out.trans HOr.out⟩
end Go.Proofs.YthepmahjpejmdaaDoor

/- Package tree: top, isPlace, Cap, Path of a valid tree; the document's Equal. -/
namespace Go.Proofs.YthepmahjpejmdaaDoor
open Go.RowKit
set_option linter.unusedVariables false

theorem bits_xor_one (a : Nat) (ha : a < 9223372036854775807) : bits .xor .i64 (a : Int) 1 = ((oth a : Nat) : Int) := by
  have hx : a ^^^ 1 = oth a := by
    unfold oth
    apply Nat.eq_of_testBit_eq
    intro k
    rcases Nat.mod_two_eq_zero_or_one a with h | h
    · rw [if_pos h]
      have e : a = 2 * (a / 2) := by omega
      generalize a / 2 = b at e
      subst e
      cases k with
      | zero => rw [Nat.testBit_xor]; simp [Nat.testBit_zero]
      | succ k => rw [Nat.testBit_xor, Nat.testBit_succ, Nat.testBit_succ, Nat.testBit_succ]; simp; congr 1; omega
    · rw [if_neg (by omega)]
      have e : a = 2 * (a / 2) + 1 := by omega
      generalize a / 2 = b at e
      subst e
      cases k with
      | zero => rw [Nat.testBit_xor]; simp [Nat.testBit_zero]
      | succ k => rw [Nat.testBit_xor, Nat.testBit_succ, Nat.testBit_succ, Nat.testBit_succ]; simp; congr 1; omega
  have hl : oth a ≤ a + 1 := by unfold oth; split <;> omega
  have h1 : (BitVec.ofInt 64 (a : Int)).toNat = a := by
    rw [BitVec.ofInt_natCast, BitVec.toNat_ofNat]; exact Nat.mod_eq_of_lt (by omega)
  have h2 : (BitVec.ofInt 64 (1 : Int)).toNat = 1 := by decide
  show IntKind.i64.wrap ((BitVec.ofInt 64 (a : Int) ^^^ BitVec.ofInt 64 (1 : Int)).toNat : Int) = _
  rw [BitVec.toNat_xor, h1, h2, hx]
  exact IntWalk.i64_in _ (by omega)
theorem top_any (f : Int) (H c : Nat) (a : Option Addr) (m cap : Nat) (d : Nat) (hd : d = H - c) (hc : c ≤ H) (hH : H ≤ 18) (w : World) (hT : Tab w) :
    Calls Tryd.prog 32 #[.agg #[.int .i64 f, .int .i64 (H : Int), .int .i64 (c : Int), .slice a m cap]] w fun e w' => e = .returned (.int .i64 (d : Int)) ∧ On w w' := by
  have hs : (H : Int) - (c : Int) = (d : Int) := by omega
  have hw : IntKind.i64.wrap (d : Int) = (d : Int) := by rw [IntKind.wrap_i64]; omega
  have hw2 : wrap64 (d : Int) = (d : Int) := by unfold wrap64; omega
  obtain ⟨u, hu⟩ : ∃ u, u = w.alloc (.cells #[.int .i64 f, .int .i64 (H : Int), .int .i64 (c : Int), .slice a m cap] 26) := ⟨_, rfl⟩
  have HU := Lib.hid hu
  have HO : Hid (On w u) := by refine Lib.hid ?_; rw [hu]; exact (On.refl hT).alloc _
  have HB : Hid (TBox w.heap.size u f H c (.slice a m cap)) := by refine Lib.hid ?_; rw [hu]; exact TBox.new w _ _ _ _
  obtain ⟨t0, t1, t2, t3⟩ := HB.out.cells
  clear hu hT hd hc hH
  go_enter Tryd.func32, Tryd.ntmps32
  go_upto_region 1 with fail
  rw [← HU.out]
  go_wp2
  go_ret
  exact ⟨rfl, HO.out⟩
set_option maxHeartbeats 1000000 in
set_option maxRecDepth 100000 in
theorem isPlace_any (f : Int) (H c m : Nat) (F : Nat → List Dg) (a : Option Addr) (cap : Nat) (i : Int) (w : World) (hT : Tab w) (hm : 0 < m) (hR : TR w (.slice a m cap) m F) :
    Calls Tryd.prog 34 #[.agg #[.int .i64 f, .int .i64 (H : Int), .int .i64 (c : Int), .slice a m cap], .int .i64 i] w fun e w' => e = .returned (.bool (decide (0 ≤ i) && decide (i < ((F 0).length : Int)))) ∧ On w w' := by
  obtain ⟨a', cap', ha, hm0, hRow⟩ := hR
  simp only [Value.slice.injEq, true_and] at ha
  obtain ⟨rfl, rfl⟩ := ha
  obtain ⟨u, hu⟩ : ∃ u, u = w.alloc (.cells #[.int .i64 f, .int .i64 (H : Int), .int .i64 (c : Int), .slice a m cap] 26) := ⟨_, rfl⟩
  have HU := Lib.hid hu
  have HO : Hid (On w u) := by refine Lib.hid ?_; rw [hu]; exact (On.refl hT).alloc _
  have HB : Hid (TBox w.heap.size u f H c (.slice a m cap)) := by refine Lib.hid ?_; rw [hu]; exact TBox.new w _ _ _ _
  obtain ⟨b, o, x, rfl, hx, hd⟩ := hRow 0 hm
  obtain ⟨xa, xc, rfl⟩ := hd.shape
  have hxr := (HO.out.cell (p := ⟨b, o + 0, none⟩) (cell_size hx)).trans hx
  rw [Nat.add_zero] at hxr
  have hml : (0 : Int) < (m : Int) := by omega
  obtain ⟨t0, t1, t2, t3⟩ := HB.out.cells
  generalize (F 0).length = q at *
  clear hRow hx hd hu hT hm hm0
  by_cases hi : 0 ≤ i
  rotate_left
  · have hid : decide (0 ≤ i) = false := decide_eq_false hi
    have hi2 : i < 0 := by omega
    rw [hid]
    clear hi
    go_enter Tryd.func34, Tryd.ntmps34
    go_upto_region 1 with fail
    rw [← HU.out]
    go_wp2
    go_ret
    exact ⟨rfl, HO.out⟩
  have hid : decide (0 ≤ i) = true := decide_eq_true hi
  rw [hid]
  clear hid
  go_enter Tryd.func34, Tryd.ntmps34
  go_upto_region 1 with fail
  rw [← HU.out]
  go_wp2
  go_ret
  exact ⟨by simp, HO.out⟩
set_option maxHeartbeats 1000000 in
set_option maxRecDepth 100000 in
theorem cap_yes (f : Int) (H c m : Nat) (F : Nat → List Dg) (v : Value) (w : World) (hT : Tab w) (hG : Good f H c m F) (hR : TR w v m F) :
    Calls Tryd.prog 13 #[trV f H c v] w fun e w' => (∃ B cc, e = .returned (.slice (some ⟨B, 0, none⟩) (F (H - c)).length cc) ∧ w.heap.size ≤ B ∧ DB B w' (F (H - c))) ∧ On w w' := by
  obtain ⟨a, cap, rfl⟩ := hR.shape
  obtain ⟨u, hu⟩ : ∃ u, u = w.alloc (.cells #[.int .i64 f, .int .i64 (H : Int), .int .i64 (c : Int), .slice a m cap] 26) := ⟨_, rfl⟩
  have HU := Lib.hid hu
  have HO : Hid (On w u) := by refine Lib.hid ?_; rw [hu]; exact (On.refl hT).alloc _
  have HB : Hid (TBox w.heap.size u f H c (.slice a m cap)) := by refine Lib.hid ?_; rw [hu]; exact TBox.new w _ _ _ _
  have HV : Hid (∀ w', On u w' → Calls Tryd.prog 10 #[trV f H c (.slice a m cap)] w' fun e w'' => e = .returned (.bool true) ∧ On w' w'') := fun w' h => valid_yes f H c m F _ w' h.tab hG ((hR.on HO.out).on h)
  have hcH := hG.hc; have hH := hG.hH; have hmm := hG.hm
  obtain ⟨d, hd⟩ : ∃ d, d = H - c := ⟨_, rfl⟩
  have HTOP0 : Hid (∀ w', Tab w' → Calls Tryd.prog 32 #[trV f H c (.slice a m cap)] w' fun e w'' => e = .returned (.int .i64 (d : Int)) ∧ On w' w'') := fun w' h => top_any f H c a m cap d hd hcH hH w' h
  obtain ⟨a', cap', ha, hm0, hRow⟩ := hR
  simp only [Value.slice.injEq, true_and] at ha
  obtain ⟨rfl, rfl⟩ := ha
  have hdm : d < m := by omega
  obtain ⟨b, o, x, rfl, hx, hdr⟩ := hRow d hdm
  obtain ⟨xa, xc, rfl⟩ := hdr.shape
  have HX := Lib.hid hx
  have hlen : (F d).length = 2 ^ (H - d) := hG.len d hdm
  have hl0 : 0 < (F d).length := by rw [hlen]; exact Nat.pow_pos (by omega)
  have hl1 : (F d).length ≤ 262144 := by rw [hlen]; exact pow18 (by omega)
  have HCL : Hid (∀ w', On u w' → Calls Tryd.prog 31 #[.slice xa (F d).length xc] w' fun e w'' => (∃ B cc, e = .returned (.slice (some ⟨B, 0, none⟩) (F d).length cc) ∧ w'.heap.size ≤ B ∧ DB B w'' (F d)) ∧ On w' w'') := fun w' h => clone_any (F d) _ w' h.tab ((hdr.on HO.out).on h) hl0 (by omega)
  rw [← hd]
  have hdi : (d : Int) < (m : Int) := by omega
  have hd0 : ¬ (d : Int) < 0 := by omega
  obtain ⟨t0, t1, t2, t3⟩ := HB.out.cells
  generalize hq : (F d).length = q at *
  generalize hFd : F d = ls at *
  clear hT hG hRow hx hdr hlen hl0 hl1 hd hq hFd hmm hcH hH hm0 hu hdm
  go_enter Tryd.func13, Tryd.ntmps13
  go_upto_region 1 with fail
  rw [← HU.out]
  go_upto_region 3 with (go_at_call 10; (with_reducible refine (HV.out _ (On.refl HO.out.tab)).mono ?_); rintro e w1 ⟨rfl, hO1⟩; have HO1 := Lib.hid hO1; clear hO1)
  have HK : Hid (∀ wq, On w1 wq → (wq.cell? ⟨w.heap.size, 0, none⟩ = some (.int .i64 f) ∧ wq.cell? ⟨w.heap.size, 1, none⟩ = some (.int .i64 (H : Int)) ∧ wq.cell? ⟨w.heap.size, 2, none⟩ = some (.int .i64 (c : Int)) ∧ wq.cell? ⟨w.heap.size, 3, none⟩ = some (.slice (some ⟨b, o, none⟩) m cap)) ∧ wq.cell? ⟨b, o + d, none⟩ = some (.slice xa q xc)) := fun wq h =>
    ⟨((HB.out.on HO1.out).on h).cells, (((HO.out.trans HO1.out).trans h).cell (p := ⟨b, o + d, none⟩) (cell_size HX.out)).trans HX.out⟩
  have HTOP : Hid (∀ wq, On w1 wq → Calls Tryd.prog 32 #[trV f H c (.slice (some ⟨b, o, none⟩) m cap)] wq fun e w' => e = .returned (.int .i64 (d : Int)) ∧ On w1 w') := fun wq h => (HTOP0.out wq h.tab).mono fun e w' ⟨he, ho⟩ => ⟨he, h.trans ho⟩
  clear t0 t1 t2 t3
  refine region_keep_tail (fun wq => On w1 wq) 6 (by kernel_rfl) (by kernel_rfl) (On.refl HO1.out.tab).drew ?_
  simp only [List.take_succ_cons, List.take_zero, List.drop_succ_cons, List.drop_zero]
  refine quiet_start fun L9 hL9 => ?_
  refine quiet_take (v := .pointer (some ⟨w.heap.size, 3, none⟩)) hL9 (by kernel_rfl) (fun wq hwq => ?qy0) (fun L9 hL9 => ?qr0)
  case qy0 => (go_simp; try with_reducible rfl)
  try simp only [Act.put, List.setIfInBounds_toArray, List.set_cons_zero, List.set_cons_succ]
  refine quiet_take (v := .slice (some ⟨b, o, none⟩) m cap) hL9 (by kernel_rfl) (fun wq hwq => ?qy1) (fun L9 hL9 => ?qr1)
  case qy1 => (obtain ⟨⟨t0, t1, t2, t3⟩, hx⟩ := HK.out wq hwq; go_simp; try with_reducible rfl)
  try simp only [Act.put, List.setIfInBounds_toArray, List.set_cons_zero, List.set_cons_succ]
  refine quiet_take (v := .agg #[.int .i64 f, .int .i64 (H : Int), .int .i64 (c : Int), .slice (some ⟨b, o, none⟩) m cap]) hL9 (by kernel_rfl) (fun wq hwq => ?qy2) (fun L9 hL9 => ?qr2)
  case qy2 => (obtain ⟨⟨t0, t1, t2, t3⟩, hx⟩ := HK.out wq hwq; go_simp; try with_reducible rfl)
  try simp only [Act.put, List.setIfInBounds_toArray, List.set_cons_zero, List.set_cons_succ]
  refine quiet_take (v := .int .i64 (d : Int)) hL9 (by kernel_rfl) (fun wq hwq => ?qy3) (fun L9 hL9 => ?qr3)
  case qy3 => (go_simp; go_at_call 32; exact HTOP.out wq hwq)
  try simp only [Act.put, List.setIfInBounds_toArray, List.set_cons_zero, List.set_cons_succ]
  refine quiet_take (v := .pointer (some ⟨b, o + d, none⟩)) hL9 (by kernel_rfl) (fun wq hwq => ?qy4) (fun L9 hL9 => ?qr4)
  case qy4 => (go_simp; try with_reducible rfl)
  try simp only [Act.put, List.setIfInBounds_toArray, List.set_cons_zero, List.set_cons_succ]
  refine quiet_take (v := .slice xa q xc) hL9 (by kernel_rfl) (fun wq hwq => ?qy5) (fun L9 hL9 => ?qr5)
  case qy5 => (obtain ⟨⟨t0, t1, t2, t3⟩, hx⟩ := HK.out wq hwq; go_simp; try with_reducible rfl)
  try simp only [Act.put, List.setIfInBounds_toArray, List.set_cons_zero, List.set_cons_succ]
  refine quiet_nil hL9 ?_
  clear hL9
  intro wz HOz
  have HCz := Lib.hid (HCL.out wz (HO1.out.trans HOz))
  have HOz2 := Lib.hid ((HO.out.trans HO1.out).trans HOz)
  clear HOz
  go_wp2_with (go_at_call 31; (with_reducible refine HCz.out.mono ?_); rintro e w4 ⟨⟨B, cc, rfl, hB, hD⟩, hO4⟩)
  go_ret
  exact ⟨⟨B, cc, rfl, Nat.le_trans HOz2.out.size hB, hD⟩, HOz2.out.trans hO4⟩
end Go.Proofs.YthepmahjpejmdaaDoor

namespace Go.Proofs.YthepmahjpejmdaaDoor
open Go.RowKit
set_option linter.unusedVariables false

set_option maxHeartbeats 1000000 in
set_option maxRecDepth 100000 in
theorem path_range (f : Int) (H c m : Nat) (F : Nat → List Dg) (v : Value) (i : Int) (w : World) (hT : Tab w) (hG : Good f H c m F) (hR : TR w v m F) (hi : ¬ (0 ≤ i ∧ i < ((F 0).length : Int))) :
    Calls Tryd.prog 17 #[trV f H c v, .int .i64 i] w fun e w' => e = .returned (.tuple #[.slice none 0 0, .int .i64 2]) ∧ On w w' := by
  obtain ⟨a, cap, rfl⟩ := hR.shape
  obtain ⟨u, hu⟩ : ∃ u, u = w.alloc (.cells #[.int .i64 f, .int .i64 (H : Int), .int .i64 (c : Int), .slice a m cap] 26) := ⟨_, rfl⟩
  have HU := Lib.hid hu
  have HO : Hid (On w u) := by refine Lib.hid ?_; rw [hu]; exact (On.refl hT).alloc _
  have HB : Hid (TBox w.heap.size u f H c (.slice a m cap)) := by refine Lib.hid ?_; rw [hu]; exact TBox.new w _ _ _ _
  have HV : Hid (∀ w', On u w' → Calls Tryd.prog 10 #[trV f H c (.slice a m cap)] w' fun e w'' => e = .returned (.bool true) ∧ On w' w'') := fun w' h => valid_yes f H c m F _ w' h.tab hG ((hR.on HO.out).on h)
  have HIP : Hid (∀ w', On u w' → Calls Tryd.prog 34 #[trV f H c (.slice a m cap), .int .i64 i] w' fun e w'' => e = .returned (.bool false) ∧ On w' w'') := fun w' h => by
    have k := isPlace_any f H c m F a cap i w' h.tab (by have := hG.hm; omega) ((hR.on HO.out).on h)
    have e : (decide (0 ≤ i) && decide (i < ((F 0).length : Int))) = false := by
      cases h : (decide (0 ≤ i) && decide (i < ((F 0).length : Int)))
      · rfl
      · simp only [Bool.and_eq_true, decide_eq_true_eq] at h; exact absurd h hi
    rw [e] at k; exact k
  obtain ⟨t0, t1, t2, t3⟩ := HB.out.cells
  clear hu hT hG hR hi
  go_enter Tryd.func17, Tryd.ntmps17
  go_upto_region 1 with fail
  rw [← HU.out]
  go_wp2_with (first | (go_at_call 10; (with_reducible refine (HV.out _ (On.refl HO.out.tab)).mono ?_); rintro e w1 ⟨rfl, hO1⟩; have HO1 := Lib.hid hO1; clear hO1; obtain ⟨t0, t1, t2, t3⟩ := (HB.out.on HO1.out).cells) | (go_at_call 34; (with_reducible refine (HIP.out _ HO1.out).mono ?_); rintro e w2 ⟨rfl, hO2⟩; have HO2 := Lib.hid (HO1.out.trans hO2); clear hO2; obtain ⟨t0, t1, t2, t3⟩ := (HB.out.on HO2.out).cells))
  go_ret2
  exact ⟨rfl, HO.out.trans HO2.out⟩
set_option maxHeartbeats 2000000 in
set_option maxRecDepth 100000 in
theorem path_yes (f : Int) (H c m : Nat) (F : Nat → List Dg) (v : Value) (i : Nat) (w : World) (hT : Tab w) (hG : Good f H c m F) (hR : TR w v m F) (hi : i < 2 ^ H) :
    Calls Tryd.prog 17 #[trV f H c v, .int .i64 (i : Int)] w fun e w' => (∃ P, e = .returned (.tuple #[.slice (some ⟨P, 0, none⟩) (H - c) (H - c), .int .i64 0]) ∧ w.heap.size ≤ P ∧ DB P w' (pathF F i (H - c))) ∧ On w w' := by
  obtain ⟨a, cap, rfl⟩ := hR.shape
  have hcH := hG.hc; have hH := hG.hH; have hmm := hG.hm
  have hl0 : (F 0).length = 2 ^ H := hG.len 0 (by omega)
  obtain ⟨u, hu⟩ : ∃ u, u = w.alloc (.cells #[.int .i64 f, .int .i64 (H : Int), .int .i64 (c : Int), .slice a m cap] 26) := ⟨_, rfl⟩
  have HU := Lib.hid hu
  have HO : Hid (On w u) := by refine Lib.hid ?_; rw [hu]; exact (On.refl hT).alloc _
  have HB : Hid (TBox w.heap.size u f H c (.slice a m cap)) := by refine Lib.hid ?_; rw [hu]; exact TBox.new w _ _ _ _
  have HV : Hid (∀ w', On u w' → Calls Tryd.prog 10 #[trV f H c (.slice a m cap)] w' fun e w'' => e = .returned (.bool true) ∧ On w' w'') := fun w' h => valid_yes f H c m F _ w' h.tab hG ((hR.on HO.out).on h)
  have HIP : Hid (∀ w', On u w' → Calls Tryd.prog 34 #[trV f H c (.slice a m cap), .int .i64 (i : Int)] w' fun e w'' => e = .returned (.bool true) ∧ On w' w'') := fun w' h => by
    have k := isPlace_any f H c m F a cap (i : Int) w' h.tab (by omega) ((hR.on HO.out).on h)
    have e : (decide (0 ≤ (i : Int)) && decide ((i : Int) < ((F 0).length : Int))) = true := by simp; omega
    rw [e] at k; exact k
  obtain ⟨d, hd⟩ : ∃ d, d = H - c := ⟨_, rfl⟩
  have HTOP : Hid (∀ w', Tab w' → Calls Tryd.prog 32 #[trV f H c (.slice a m cap)] w' fun e w'' => e = .returned (.int .i64 (d : Int)) ∧ On w' w'') := fun w' h => top_any f H c a m cap d hd hcH hH w' h
  rw [← hd]
  have HROW : Hid (∀ j, j < d → ∃ b o x, a = some ⟨b, o, none⟩ ∧ w.cell? ⟨b, o + j, none⟩ = some x ∧ DR w x (F j) ∧ (F j).length = 2 ^ (H - j)) := fun j hj => by
    obtain ⟨a', cap', ha, _, hRow⟩ := hR
    simp only [Value.slice.injEq, true_and] at ha
    obtain ⟨rfl, rfl⟩ := ha
    obtain ⟨b, o, x, h1, h2, h3⟩ := hRow j (by omega)
    exact ⟨b, o, x, h1, h2, h3, hG.len j (by omega)⟩
  have hdb : d ≤ 18 := by omega
  have hdm : d < m := by omega
  have hi18 : i < 262144 := Nat.lt_of_lt_of_le hi (pow18 hH)
  have hmk := fun w' : World => make_dg d (by omega) w'
  have HDM : Hid (∀ w' : World, DB w'.heap.size (w'.alloc (.cells (madeCells #[.int .u64 0, .int .u64 0] (d * 2)) 36)) (List.replicate d zD)) := fun w' => db_made w' d _ rfl
  have HI := Lib.hid hi
  have HDH : Hid (d ≤ H) := by refine Lib.hid ?_; omega
  have HPG : Hid (∀ j, j < d → (pathF F i d).getD j zD = (F j).getD (oth (i / 2 ^ j)) zD) := fun j hj => pathF_get F i d j hj
  have HPL : Hid ((pathF F i d).length = d) := pathF_len F i d
  obtain ⟨t0, t1, t2, t3⟩ := HB.out.cells
  clear hu hT hG hR hi hl0 hmm hd hcH hH
  go_enter Tryd.func17, Tryd.ntmps17
  go_upto_region 1 with fail
  rw [← HU.out]
  go_wp2_with (first | (go_at_call 10; (with_reducible refine (HV.out _ (On.refl HO.out.tab)).mono ?_); rintro e w1 ⟨rfl, hO1⟩; have HO1 := Lib.hid hO1; clear hO1; obtain ⟨t0, t1, t2, t3⟩ := (HB.out.on HO1.out).cells) | (go_at_call 34; (with_reducible refine (HIP.out _ HO1.out).mono ?_); rintro e w2 ⟨rfl, hO2⟩; have HO2 := Lib.hid (HO1.out.trans hO2); clear hO2; obtain ⟨t0, t1, t2, t3⟩ := (HB.out.on HO2.out).cells) | (go_at_call 32; (with_reducible refine (HTOP.out _ HO2.out.tab).mono ?_); rintro e w3 ⟨rfl, hO3⟩; have HO3 := Lib.hid (HO2.out.trans hO3); clear hO3))
  have HM := Lib.hid (HDM.out w3)
  have HO4 : Hid (On u (w3.alloc (.cells (madeCells #[.int .u64 0, .int .u64 0] (d * 2)) 36))) := HO3.out.alloc _
  have hP0 : w.heap.size ≤ w3.heap.size := Nat.le_trans HO.out.size HO3.out.size
  have hP1 : u.heap.size ≤ w3.heap.size := HO3.out.size
  generalize w3.alloc (.cells (madeCells #[.int .u64 0, .int .u64 0] (d * 2)) 36) = w4 at *
  generalize w3.heap.size = P at *
  clear t0 t1 t2 t3 HO1 HO2 HO3 hmk HDM HV HIP HTOP
  go_loopw [20] (fun vi wr => ∃ (k : Nat) (o : List Dg), k ≤ d ∧ vi = .int .i64 (k : Int) ∧ Hid (o.length = d ∧ ∀ j, j < k → o.getD j zD = (pathF F i d).getD j zD) ∧ Hid (DB P wr o) ∧ Hid (On u wr)) (fun vi _ => d - (intOf vi).toNat)
  case atStart => exact ⟨0, List.replicate d zD, Nat.zero_le _, rfl, ⟨by simp, fun j hj => by omega⟩, HM, HO4⟩
  case round =>
    obtain ⟨k, ol, hk, rfl, HK, HD, HOr⟩ := hrel
    by_cases hlt : k < d
    · have hlt' : (k : Int) < (d : Int) := by omega
      have hkm : (k : Int) < (m : Int) := by omega
      obtain ⟨b, o, x, rfl, hx, hdr, hln⟩ := HROW.out k hlt
      obtain ⟨xa, xc, rfl⟩ := hdr.shape
      have hOw := HO.out.trans HOr.out
      have hxr := (hOw.cell (p := ⟨b, o + k, none⟩) (cell_size hx)).trans hx
      have hq : i / 2 ^ k < 2 ^ (H - k) := by
        rw [Nat.div_lt_iff_lt_mul (Nat.pow_pos (by omega)), ← Nat.pow_add, show H - k + k = H by have := HDH.out; omega]; exact HI.out
      have hpow : 2 ^ (H - k) = 2 * 2 ^ (H - (k + 1)) := by rw [show H - k = (H - (k + 1)) + 1 by have := HDH.out; omega, Nat.pow_succ]; omega
      have hoth : oth (i / 2 ^ k) < (F k).length := by rw [hln, hpow]; rw [hpow] at hq; exact oth_lt hq
      obtain ⟨b2, o2, rfl, c0, c1⟩ := hdr.cells _ hoth
      have z0 := (hOw.cell (p := ⟨b2, o2 + oth (i / 2 ^ k) * 2, none⟩) (cell_size c0)).trans c0
      have z1 := (hOw.cell (p := ⟨b2, o2 + oth (i / 2 ^ k) * 2 + 1, none⟩) (cell_size c1)).trans c1
      have HXE := Lib.hid (HPG.out k hlt)
      have hsh : (i : Int) / 2 ^ k = ((i / 2 ^ k : Nat) : Int) := by rw [Int.natCast_ediv]; simp
      have hQb : i / 2 ^ k ≤ i := Nat.div_le_self _ _
      have hxo := bits_xor_one (i / 2 ^ k) (by omega)
      clear hx hdr c0 c1 hpow hq hln hOw
      generalize i / 2 ^ k = Q at *
      generalize oth Q = J at *
      generalize (F k).getD J zD = X at *
      generalize (F k).length = q at *
      have hJq : (J : Int) < (q : Int) := by omega
      obtain ⟨s0, s1, s2, s3⟩ := (HB.out.on HOr.out).cells
      have HD1 := HD
      obtain ⟨y0, y1⟩ := HD.out.2.1 k (by rw [HK.out.1]; exact hlt)
      have f0 := HD.out.2.2 (k * 2)
      have f1 := HD.out.2.2 (k * 2 + 1)
      clear hoth
      go_wp2
      refine region_quiet_tail 14 (by kernel_rfl) (by kernel_rfl) ?_
      simp only [List.take_succ_cons, List.take_zero, List.drop_succ_cons, List.drop_zero]
      repeat (quiet_step (fail))
      refine wpQuiet_nil ?_
      intro _ hw'
      obtain ⟨nq, hw''⟩ := hw'
      subst hw''
      have y0' : (wr.drewN nq).cell? ⟨P, k * 2, none⟩ = _ := y0
      have y1' : ((wr.drewN nq).setCell ⟨P, k * 2, none⟩ (.int .u64 ((X.1 : Nat) : Int))).cell? ⟨P, k * 2 + 1, none⟩ = _ := (World.cell?_setCell_other (h := fun e' => by have := congrArg Addr.off e'; simp at this) ..).trans y1
      have f0' : (wr.drewN nq).frozen? ⟨P, k * 2, none⟩ = false := f0
      have f1' : (wr.drewN nq).frozen? ⟨P, k * 2 + 1, none⟩ = false := f1
      have HD2 := Lib.hid ((HD.out.drewN nq).set k X (by rw [HK.out.1]; exact hlt))
      have HO2 : Hid (On u (((wr.drewN nq).setCell ⟨P, k * 2, none⟩ (.int .u64 ((X.1 : Nat) : Int))).setCell ⟨P, k * 2 + 1, none⟩ (.int .u64 ((X.2 : Nat) : Int)))) := ((HOr.out.drewN nq).setCell hP1 _).setCell hP1 _
      have HK2 : Hid ((ol.set k X).length = d ∧ ∀ j, j < k + 1 → (ol.set k X).getD j zD = (pathF F i d).getD j zD) := ⟨by rw [List.length_set]; exact HK.out.1, fun j hj => by
        rw [getD_setD ol k X j (by rw [HK.out.1]; exact hlt)]
        by_cases e : j = k
        · subst e; rw [if_pos rfl]; exact HXE.out.symm
        · rw [if_neg e]; exact HK.out.2 j (by omega)⟩
      clear y0 y1 f0 f1 HD HD1 HK hxr z0 z1 s0 s1 s2 s3
      go_wp2
      go_roundw
      case rel => exact ⟨k + 1, _, by omega, by simp, HK2, HD2, HO2⟩
      case measure => simp [intOf]; omega
    · obtain rfl : k = d := by omega
      have HE : Hid (DB P wr (pathF F i k)) := HD.out.eq (ext_dg (l := ol) (m := pathF F i k) (by rw [HK.out.1, HPL.out]) (fun j hj => HK.out.2 j (by rw [HPL.out] at hj; exact hj)))
      clear HK HD
      go_wp2
      go_ret2
      exact ⟨⟨P, rfl, hP0, HE.out⟩, HO.out.trans HOr.out⟩
end Go.Proofs.YthepmahjpejmdaaDoor

namespace Go.Proofs.YthepmahjpejmdaaDoor
open Go.RowKit
set_option linter.unusedVariables false

set_option maxHeartbeats 1000000 in
set_option maxRecDepth 100000 in
theorem requal_any (l m : List Dg) (va vb : Value) (w : World) (hT : Tab w) (hA : DR w va l) (hB : DR w vb m) :
    Calls Tryd.prog 12 #[va, vb] w fun e w' => e = .returned (.bool (decide (l = m))) ∧ On w w' := by
  obtain ⟨a, ac, rfl⟩ := hA.shape
  obtain ⟨b, bc, rfl⟩ := hB.shape
  have hLa := hA.2.1
  have hLb := hB.2.1
  have HT := Lib.hid hT
  have HA := Lib.hid hA.cells
  have HB := Lib.hid hB.cells
  by_cases hl : l.length = m.length
  rotate_left
  · have hd : decide (l = m) = false := decide_eq_false (fun e => hl (by rw [e]))
    have hb : (((l.length : Nat) : Int) != ((m.length : Nat) : Int)) = true := by simp; omega
    rw [hd]
    clear hd hl hT hA hB
    go_enter Tryd.func12, Tryd.ntmps12
    go_wp2
    go_ret
    exact ⟨rfl, On.refl HT.out⟩
  have hb : (((l.length : Nat) : Int) != ((m.length : Nat) : Int)) = false := by simp; omega
  have HL := Lib.hid hl
  clear hl hT hA hB
  go_enter Tryd.func12, Tryd.ntmps12
  go_wp2_with fail
  go_loopw [5] (fun vi wr => ∃ k : Nat, k ≤ l.length ∧ vi = .int .i64 (k : Int) ∧ Hid (∀ j, j < k → l.getD j zD = m.getD j zD) ∧ Hid (On w wr)) (fun vi _ => l.length - (intOf vi).toNat)
  case atStart => exact ⟨0, Nat.zero_le _, rfl, fun j hj => by omega, On.refl HT.out⟩
  case round =>
    obtain ⟨k, hk, rfl, HK, HO⟩ := hrel
    by_cases hlt : k < l.length
    · have hlt' : (k : Int) < (l.length : Int) := by omega
      have hlt2 : (k : Int) < (m.length : Int) := by have := HL.out; omega
      obtain ⟨b1, o1, rfl, c0, c1⟩ := HA.out k hlt
      obtain ⟨b2, o2, rfl, d0, d1⟩ := HB.out k (by rw [← HL.out]; exact hlt)
      have x0 := (HO.out.cell (p := ⟨b1, o1 + k * 2, none⟩) (cell_size c0)).trans c0
      have x1 := (HO.out.cell (p := ⟨b1, o1 + k * 2 + 1, none⟩) (cell_size c1)).trans c1
      have y0 := (HO.out.cell (p := ⟨b2, o2 + k * 2, none⟩) (cell_size d0)).trans d0
      have y1 := (HO.out.cell (p := ⟨b2, o2 + k * 2 + 1, none⟩) (cell_size d1)).trans d1
      have HS : Hid (l.getD k zD = m.getD k zD → ∀ j, j < k + 1 → l.getD j zD = m.getD j zD) := fun e j hj => by
        by_cases h : j = k
        · rw [h]; exact e
        · exact HK.out j (by omega)
      have HNE : Hid (l.getD k zD ≠ m.getD k zD → decide (l = m) = false) := fun e => decide_eq_false (fun h => e (by rw [h]))
      clear c0 c1 d0 d1 HK
      generalize l.getD k zD = X at *
      generalize m.getD k zD = Y at *
      have heq := eq_dg X Y
      by_cases hxy : X = Y
      · have HG := Lib.hid (HS.out hxy)
        have hd : decide (X = Y) = true := decide_eq_true hxy
        rw [hd] at heq
        clear hd hxy HS HNE
        go_wp2
        refine region_quiet_tail 8 (by kernel_rfl) (by kernel_rfl) ?_
        simp only [List.take_succ_cons, List.take_zero, List.drop_succ_cons, List.drop_zero]
        repeat (quiet_step (fail))
        refine wpQuiet_nil ?_
        intro _ hw'
        obtain ⟨nq, hw''⟩ := hw'
        subst hw''
        have HOq := Lib.hid (HO.out.drewN nq)
        go_wp2
        go_roundw
        case rel => exact ⟨k + 1, by omega, by simp, HG, HOq⟩
        case measure => simp [intOf]; omega
      · have HG := Lib.hid (HNE.out hxy)
        have hd : decide (X = Y) = false := decide_eq_false hxy
        rw [hd] at heq
        clear hd hxy HS HNE
        go_wp2
        refine region_quiet_tail 8 (by kernel_rfl) (by kernel_rfl) ?_
        simp only [List.take_succ_cons, List.take_zero, List.drop_succ_cons, List.drop_zero]
        repeat (quiet_step (fail))
        refine wpQuiet_nil ?_
        intro _ hw'
        obtain ⟨nq, hw''⟩ := hw'
        subst hw''
        have HOq := Lib.hid (HO.out.drewN nq)
        go_wp2
        go_ret
        exact ⟨by rw [HG.out]; rfl, HOq.out⟩
    · obtain rfl : k = l.length := by omega
      have HG : Hid (decide (l = m) = true) := decide_eq_true (ext_dg HL.out (fun j hj => HK.out j (by rw [HL.out]; exact hj)))
      clear HK
      go_wp2
      go_ret
      exact ⟨by rw [HG.out]; rfl, HO.out⟩
end Go.Proofs.YthepmahjpejmdaaDoor

/- The laws' lives; a list of digests that is grown by append. -/
namespace Go.Proofs.YthepmahjpejmdaaDoor
open Go.RowKit
set_option linter.unusedVariables false

theorem dr_lit (l : List Dg) (w : World) (hT : Tab w) (hU : ∀ i, i < l.length → SmD (l.getD i zD)) (hl : l.length ≤ 1000000) (cs : Array Value) (hcs : cs = (dcells l).toArray) : DR (w.alloc (.cells cs 36)) (.slice (some ⟨w.heap.size, 0, none⟩) l.length l.length) l ∧ On w (w.alloc (.cells cs 36)) := by
  subst hcs
  refine ⟨?_, (On.refl hT).alloc _⟩
  have h := db_alloc w l [] 36 _ rfl
  have h2 : DB w.heap.size (w.alloc (.cells (dcells l).toArray 36)) l := by simpa using h
  exact h2.reads hU (by omega) _
theorem sm_all {l : List Dg} {f : Int} (h : okA f l = true) : ∀ i, i < l.length → SmD (l.getD i zD) := fun i hi => okD_sm (okA_get h i hi)
def zz : List Dg := [zD, zD]
def d19 : Dg := (19, 58)
theorem lvl1 : lvl 0 zz 1 = [d19] := by decide +kernel
theorem chk1 : checkB 0 [d19] 1 zD [zD] = true := by decide +kernel
set_option maxHeartbeats 2000000 in
set_option maxRecDepth 100000 in
theorem lives_tree (w : World) (hT : TZ w) : Calls Tryd.prog 15 #[] w fun e w' => e = .returned (.bool true) ∧ On w w' := by
  have HT := Lib.hid hT
  obtain ⟨u, hu⟩ : ∃ u, u = w.alloc (.cells #[.int .u64 0, .int .u64 0] 36) := ⟨_, rfl⟩
  have HU := Lib.hid hu
  have HO : Hid (On w u) := by refine Lib.hid ?_; rw [hu]; exact (On.refl hT.1).alloc _
  have HB : Hid (Blk w.heap.size u [0, 0]) := by refine Lib.hid ?_; rw [hu]; exact blk_new2 w 0 0 _
  obtain ⟨z0, z1⟩ := HB.out.cells2
  have hz0 : u.cell? ⟨w.heap.size, 0, none⟩ = some (.int .u64 0) := z0
  have hz1 : u.cell? ⟨w.heap.size, 1, none⟩ = some (.int .u64 0) := z1
  clear z0 z1 hu hT
  go_enter Tryd.func15, Tryd.ntmps15
  go_upto_region 2 with fail
  rw [← HU.out]
  go_wp2_with fail
  obtain ⟨hD, hO1⟩ := dr_lit zz u HO.out.tab (sm_all (f := 0) (by decide +kernel)) (by decide) #[.int .u64 0, .int .u64 0, .int .u64 0, .int .u64 0] rfl
  have HO1 := Lib.hid (HO.out.trans hO1)
  have HB1 := Lib.hid (HB.out.on hO1)
  have HBD : Hid (Calls Tryd.prog 7 #[.int .i64 0, .slice (some ⟨u.heap.size, 0, none⟩) 2 2, .int .i64 0] (u.alloc (.cells #[.int .u64 0, .int .u64 0, .int .u64 0, .int .u64 0] 36)) fun e w' =>
      (∃ v', e = .returned (.tuple #[.agg #[.int .i64 0, .int .i64 1, .int .i64 0, v'], .int .i64 0]) ∧ TM (u.alloc (.cells #[.int .u64 0, .int .u64 0, .int .u64 0, .int .u64 0] 36)).heap.size w' v' 2 (lvl 0 zz)) ∧ On (u.alloc (.cells #[.int .u64 0, .int .u64 0, .int .u64 0, .int .u64 0] 36)) w') :=
    build_yes 0 zz _ 1 0 _ (HT.out.on HO1.out) (by decide) (by omega) (by decide) (by omega) (by decide +kernel) hD
  have HGD : Hid (Good 0 1 0 2 (lvl 0 zz)) := good_lvl (by decide) (by omega) (by omega) (by decide) (by decide +kernel)
  clear hD hO1 HB HO hz0 hz1
  generalize hu1 : u.alloc (.cells #[.int .u64 0, .int .u64 0, .int .u64 0, .int .u64 0] 36) = u1 at *
  clear hu1
  with_reducible refine HBD.out.mono ?_
  rintro e w1 ⟨⟨v, rfl, hTM⟩, hO1⟩
  have hTR := hTM.tr (by omega) (fun j hj => ⟨fun t => by
      rcases Nat.lt_or_ge t ((lvl 0 zz j).length) with h | h
      · exact okD_sm (okA_get (HGD.out.ok j hj) t h)
      · rw [List.getD_eq_getElem?_getD, List.getElem?_eq_none h]; exact zD_sm, by rw [HGD.out.len j hj]; exact Nat.le_trans (pow18 (by omega)) (by omega)⟩)
  obtain ⟨g, cg, rfl, -⟩ := hTM
  have HB2 := Lib.hid (HB1.out.on hO1)
  have HO2 := Lib.hid (HO1.out.trans hO1)
  have HTR := Lib.hid hTR
  clear hTR hO1 HBD HB1 HO1
  go_wp2_with fail
  have hA : On w1 (w1.alloc (.cells #[.int .i64 0, .int .i64 1, .int .i64 0, .slice (some ⟨g, 0, none⟩) 2 cg] 26)) := (On.refl HO2.out.tab).alloc _
  have HTB : Hid (TBox w1.heap.size (w1.alloc (.cells #[.int .i64 0, .int .i64 1, .int .i64 0, .slice (some ⟨g, 0, none⟩) 2 cg] 26)) 0 1 0 (.slice (some ⟨g, 0, none⟩) 2 cg)) := TBox.new w1 _ _ _ _
  have HB3 := Lib.hid (HB2.out.on hA)
  have HO3 := Lib.hid (HO2.out.trans hA)
  have HTR3 := Lib.hid (HTR.out.on hA)
  generalize hw2 : w1.alloc (.cells #[.int .i64 0, .int .i64 1, .int .i64 0, .slice (some ⟨g, 0, none⟩) 2 cg] 26) = w2 at *
  clear hw2 hA HB2 HO2 HTR
  have HPA : Hid (Calls Tryd.prog 17 #[.agg #[.int .i64 0, .int .i64 1, .int .i64 0, .slice (some ⟨g, 0, none⟩) 2 cg], .int .i64 1] w2 fun e w' => (∃ P, e = .returned (.tuple #[.slice (some ⟨P, 0, none⟩) 1 1, .int .i64 0]) ∧ w2.heap.size ≤ P ∧ DB P w' [zD]) ∧ On w2 w') := by
    have h := path_yes 0 1 0 2 (lvl 0 zz) _ 1 w2 HO3.out.tab HGD.out HTR3.out (by decide)
    rw [show pathF (lvl 0 zz) 1 (1 - 0) = [zD] from by decide +kernel] at h
    exact h
  with_reducible refine HPA.out.mono ?_
  rintro e w3 ⟨⟨P, rfl, hP, hD⟩, hO⟩
  have HTB4 := Lib.hid (HTB.out.on hO)
  have HB4 := Lib.hid (HB3.out.on hO)
  have HO4 := Lib.hid (HO3.out.trans hO)
  have HTR4 := Lib.hid (HTR3.out.on hO)
  have HD4 : Hid (DR w3 (.slice (some ⟨P, 0, none⟩) 1 1) [zD]) := hD.reads (sm_all (f := 0) (by decide +kernel)) (by decide) 1
  clear hO hD hP HPA HTB HB3 HO3 HTR3
  obtain ⟨t0, t1, t2, t3⟩ := HTB4.out.cells
  go_wp2_with fail
  have HCA : Hid (Calls Tryd.prog 13 #[.agg #[.int .i64 0, .int .i64 1, .int .i64 0, .slice (some ⟨g, 0, none⟩) 2 cg]] w3 fun e w' => (∃ B cc, e = .returned (.slice (some ⟨B, 0, none⟩) 1 cc) ∧ w3.heap.size ≤ B ∧ DB B w' [d19]) ∧ On w3 w') := by
    have h := cap_yes 0 1 0 2 (lvl 0 zz) _ w3 HO4.out.tab HGD.out HTR4.out
    rw [show (1 - 0 : Nat) = 1 from rfl, lvl1] at h
    exact h
  with_reducible refine HCA.out.mono ?_
  rintro e w4 ⟨⟨B, cc, rfl, hP, hD⟩, hO⟩
  have HB5 := Lib.hid (HB4.out.on hO)
  have HO5 := Lib.hid (HO4.out.trans hO)
  have HD5 := Lib.hid (HD4.out.on hO)
  have HC5 : Hid (DR w4 (.slice (some ⟨B, 0, none⟩) 1 cc) [d19]) := hD.reads (sm_all (f := 0) (by decide +kernel)) (by decide) cc
  clear hO hD hP HCA HTB4 HB4 HO4 HTR4 HD4 t0 t1 t2 t3
  obtain ⟨hL, hA⟩ := dr_lit [d19] w4 HO5.out.tab (sm_all (f := 0) (by decide +kernel)) (by decide) #[.int .u64 19, .int .u64 58] rfl
  have HEQ : Hid (Calls Tryd.prog 12 #[.slice (some ⟨B, 0, none⟩) 1 cc, .slice (some ⟨w4.heap.size, 0, none⟩) 1 1] (w4.alloc (.cells #[.int .u64 19, .int .u64 58] 36)) fun e w' => e = .returned (.bool true) ∧ On (w4.alloc (.cells #[.int .u64 19, .int .u64 58] 36)) w') := by
    have h := requal_any [d19] [d19] _ _ _ (HO5.out.trans hA).tab (HC5.out.on hA) hL
    exact h
  have HA := Lib.hid hA
  clear hL hA
  go_wp2_with fail
  with_reducible refine HEQ.out.mono ?_
  rintro e w5 ⟨rfl, hO⟩
  have HB6 := Lib.hid ((HB5.out.on HA.out).on hO)
  have HO6 := Lib.hid ((HO5.out.trans HA.out).trans hO)
  have HD6 := Lib.hid ((HD5.out.on HA.out).on hO)
  clear hO HEQ HA HB5 HO5 HD5 HC5
  obtain ⟨z0, z1⟩ := HB6.out.cells2
  have hz0 : w5.cell? ⟨w.heap.size, 0, none⟩ = some (.int .u64 0) := z0
  have hz1 : w5.cell? ⟨w.heap.size, 1, none⟩ = some (.int .u64 0) := z1
  clear z0 z1
  obtain ⟨hL, hA⟩ := dr_lit [zD] w5 HO6.out.tab (sm_all (f := 0) (by decide +kernel)) (by decide) #[.int .u64 0, .int .u64 0] rfl
  have HEQ : Hid (Calls Tryd.prog 12 #[.slice (some ⟨P, 0, none⟩) 1 1, .slice (some ⟨w5.heap.size, 0, none⟩) 1 1] (w5.alloc (.cells #[.int .u64 0, .int .u64 0] 36)) fun e w' => e = .returned (.bool true) ∧ On (w5.alloc (.cells #[.int .u64 0, .int .u64 0] 36)) w') := by
    have h := requal_any [zD] [zD] _ _ _ (HO6.out.trans hA).tab (HD6.out.on hA) hL
    exact h
  have HA := Lib.hid hA
  clear hL hA
  go_wp2_with fail
  with_reducible refine HEQ.out.mono ?_
  rintro e w6 ⟨rfl, hO⟩
  have HB7 := Lib.hid ((HB6.out.on HA.out).on hO)
  have HO7 := Lib.hid ((HO6.out.trans HA.out).trans hO)
  have HD7 := Lib.hid ((HD6.out.on HA.out).on hO)
  clear hO HEQ HA HB6 HO6 HD6 hz0 hz1
  obtain ⟨hL, hA⟩ := dr_lit [d19] w6 HO7.out.tab (sm_all (f := 0) (by decide +kernel)) (by decide) #[.int .u64 19, .int .u64 58] rfl
  obtain ⟨z0, z1⟩ := (HB7.out.on hA).cells2
  have hz0 : (w6.alloc (.cells #[.int .u64 19, .int .u64 58] 36)).cell? ⟨w.heap.size, 0, none⟩ = some (.int .u64 0) := z0
  have hz1 : (w6.alloc (.cells #[.int .u64 19, .int .u64 58] 36)).cell? ⟨w.heap.size, 1, none⟩ = some (.int .u64 0) := z1
  have HCK : Hid (Calls Tryd.prog 33 #[.int .i64 0, .slice (some ⟨w6.heap.size, 0, none⟩) 1 1, .int .i64 1, .agg #[.int .u64 0, .int .u64 0], .slice (some ⟨P, 0, none⟩) 1 1] (w6.alloc (.cells #[.int .u64 19, .int .u64 58] 36)) fun e w' => e = .returned (.bool true) ∧ On (w6.alloc (.cells #[.int .u64 19, .int .u64 58] 36)) w') := by
    have h := check_any 0 [d19] _ 1 zD [zD] _ _ (HT.out.on (HO7.out.trans hA)) hL zD_sm (HD7.out.on hA) (by omega)
    rw [chk1] at h
    exact h
  have HA := Lib.hid hA
  clear hL hA z0 z1
  go_wp2_with fail
  with_reducible refine HCK.out.mono ?_
  rintro e w7 ⟨rfl, hO⟩
  have HO8 := Lib.hid ((HO7.out.trans HA.out).trans hO)
  clear hO
  go_wp2
  go_ret
  exact ⟨rfl, HO8.out⟩
end Go.Proofs.YthepmahjpejmdaaDoor

namespace Go.Proofs.YthepmahjpejmdaaDoor
open Go.RowKit
set_option linter.unusedVariables false

/-- v is a list of digests that was grown in memory from B on. -/
def OD (B : Nat) (w : World) (v : Value) (l : List Dg) : Prop := w.ownsRow B 36 2 v l.length (dcells l)
theorem OD.nil (B : Nat) (w : World) : OD B w (.slice none 0 0) [] := World.ownsRow_nil w B 36 2
theorem OD.gb {B : Nat} {X Y : World} {v : Value} {l : List Dg} (h : OD B X v l) (k : On X Y) : OD B Y v l := World.ownsRow.kept h k.gb (by
  rcases h.2 with ⟨rfl, _⟩ | ⟨g, cap, cur, rfl, _⟩
  · exact .inl rfl
  · exact .inr (by simp [Value.ownBlock]))
theorem OD.shape {B : Nat} {w : World} {v : Value} {l : List Dg} (h : OD B w v l) : ∃ a c, v = .slice a l.length c := by
  rcases h.2 with ⟨rfl, h0⟩ | ⟨g, cap, cur, rfl, _⟩
  · exact ⟨none, 0, by rw [h0]⟩
  · exact ⟨_, _, rfl⟩
theorem OD.db {B : Nat} {w : World} {v : Value} {l : List Dg} (h : OD B w v l) (hl : 0 < l.length) : ∃ g c, v = .slice (some ⟨g, 0, none⟩) l.length c ∧ B ≤ g ∧ DB g w l := by
  rcases h.2 with ⟨rfl, h0⟩ | ⟨g, cap, cur, rfl, hb, hg, h1, h2, h3, h4⟩
  · omega
  · refine ⟨g, cap, rfl, hb, (Array.getElem?_eq_some_iff.1 hg).1, fun i hi => ?_, fun i => by simp [World.frozen?, hg]⟩
    have hc : ∀ t, t < l.length * 2 → w.cell? ⟨g, t, none⟩ = (dcells l)[t]? := fun t ht => by
      rw [← h4, List.getElem?_take, if_pos ht]
      simp [World.cell?, hg]
    obtain ⟨e1, e2⟩ := dcells_get l i hi
    exact ⟨(hc _ (by omega)).trans e1, (hc _ (by omega)).trans e2⟩
theorem append_dg {B : Nat} {wa : World} {v : Value} {l : List Dg} (x : Dg) (C : Nat) (hx0 : wa.cell? ⟨C, 0, none⟩ = some (.int .u64 ((x.1 : Nat) : Int))) (hx1 : wa.cell? ⟨C, 1, none⟩ = some (.int .u64 ((x.2 : Nat) : Int))) (howna : OD B wa v l) (hB : B ≤ wa.heap.size) (hm : l.length ≤ 1000000) :
    ∃ v' w', (∀ ty, (Builtin.append_ #[22, 22] ty #[v, .slice (some ⟨C, 0, none⟩) 1 1]).run Tryd.prog wa = .ok v' w') ∧ OD B w' v' (l ++ [x]) ∧ wa.grownBy w' v.ownBlock := by
  obtain ⟨i0, hi, hz0, hz1, hz2⟩ := info_parts info_dg
  have hcell : ∀ j u, [Value.int .u64 ((x.1 : Nat) : Int), .int .u64 ((x.2 : Nat) : Int)][j]? = some u → wa.cell? ((⟨C, 0, none⟩ : Addr).add j) = some u := fun j u hj => by
    rw [add_plain, Nat.zero_add]
    match j, hj with
    | 0, hj => simp at hj; subst hj; exact hx0
    | 1, hj => simp at hj; subst hj; exact hx1
    | j + 2, hj => simp at hj
  have hdl := dcells_len l
  have hda : dcells (l ++ [x]) = dcells l ++ [Value.int .u64 ((x.1 : Nat) : Int), .int .u64 ((x.2 : Nat) : Int)] := dcells_append l [x]
  have hgr : ∀ (o : Obj) (row : Option Nat), wa.grownBy (wa.drew.alloc o) row := fun o row => ⟨rfl, rfl, rfl, by simp, fun k hk _ => Below.heap_alloc wa.drew _ k hk⟩
  have hmk : ∀ (old : Nat), OD B (wa.drew.alloc (.cells ((dcells l).toArray ++ [Value.int .u64 ((x.1 : Nat) : Int), .int .u64 ((x.2 : Nat) : Int)].toArray ++ Builtin.zeroCells (Value.agg #[.int .u64 0, .int .u64 0]).cells (grownCap wa (l.length + 1) old 36 - (l.length + 1))) 36)) (.slice (some ⟨wa.heap.size, 0, none⟩) (l.length + 1) (grownCap wa (l.length + 1) old 36)) (l ++ [x]) := fun old => by
    have hge := grownCap_ge wa (l.length + 1) old 36
    have hcm := grownCap_le_maxLen wa (l.length + 1) old 36 (by unfold maxLen; omega)
    generalize grownCap wa (l.length + 1) old 36 = cc at *
    unfold OD
    rw [hda]
    have hll : (l ++ [x]).length = l.length + 1 := by simp
    rw [hll]
    refine ⟨by simp [hdl]; omega, .inr ⟨wa.heap.size, cc, _, rfl, by omega, World.alloc_heap_new _ _, hge, hcm, ?_, ?_⟩⟩
    · simp only [Array.size_append, List.size_toArray, size_zeroCells]
      simp [Value.cells, hdl]; omega
    · have e2 : (l.length + 1) * 2 = (dcells l ++ [Value.int .u64 ((x.1 : Nat) : Int), .int .u64 ((x.2 : Nat) : Int)]).length := by simp [hdl]; omega
      rw [e2]
      simp only [Array.toList_append, List.append_assoc]
      rw [← List.append_assoc]
      exact List.take_left
  rcases howna.2 with ⟨rfl, h0⟩ | ⟨g, cap, cur, rfl, hb, hg, h1, h2, h3, h4⟩
  · obtain rfl : l = [] := List.length_eq_zero_iff.1 h0
    have hrun := fun ty => run_append_nil_z (P := Tryd.prog) wa 22 22 ty 36 i0 (.agg #[.int .u64 0, .int .u64 0]) Tryd.underlying22 Tryd.underlying22 hi hz0 ⟨C, 0, none⟩ 1 1 [.int .u64 ((x.1 : Nat) : Int), .int .u64 ((x.2 : Nat) : Int)] (by rw [hz1]; rfl) hcell (by omega) (by omega) (by rw [hz2]; omega)
    have := hmk 0
    simp only [dcells] at this
    have e0 : ([] : List Value).toArray ++ [Value.int .u64 ((x.1 : Nat) : Int), .int .u64 ((x.2 : Nat) : Int)].toArray = [Value.int .u64 ((x.1 : Nat) : Int), .int .u64 ((x.2 : Nat) : Int)].toArray := by simp
    rw [e0] at this
    exact ⟨_, _, hrun, this, hgr _ _⟩
  · by_cases hroom : l.length < cap
    · have hrun := fun ty => run_append_room (P := Tryd.prog) wa 22 ty 36 i0 Tryd.underlying22 hi g l.length cap cur hg ⟨C, 0, none⟩ 1 1 [.int .u64 ((x.1 : Nat) : Int), .int .u64 ((x.2 : Nat) : Int)] (by rw [hz1]; rfl) hcell (by simp [Value.oneCell']) (by omega) (by rw [hz1]; simp; omega)
      refine ⟨_, _, hrun, ?_, ?_⟩
      · unfold OD
        rw [hda]
        have hll : (l ++ [x]).length = l.length + 1 := by simp
        rw [hll]
        refine ⟨by simp [hdl]; omega, .inr ⟨g, cap, _, rfl, hb, setRow_heap _ g cur _ _ _ hg, by omega, h2, ?_, ?_⟩⟩
        · rw [hz1]; simp; omega
        · rw [hz1]
          have hl2 : (cur.toList.take (l.length * 2)).length = l.length * 2 := by simp; omega
          rw [List.take_append_of_le_length (by simp; omega), List.take_of_length_le (by simp; omega), h4]
      · refine ⟨rfl, rfl, rfl, by simp, fun k hk hne => ?_⟩
        exact setRow_other _ g k _ (fun e => hne (by rw [e]; rfl))
    · have hrun := fun ty => run_append_grow (P := Tryd.prog) wa 22 ty 36 i0 (.agg #[.int .u64 0, .int .u64 0]) Tryd.underlying22 hi hz0 ⟨g, 0, none⟩ l.length cap (dcells l) (by rw [hz1]; exact hdl)
        (fun j u hj => World.ownsRow.cells howna rfl j u hj)
        ⟨C, 0, none⟩ 1 1 [.int .u64 ((x.1 : Nat) : Int), .int .u64 ((x.2 : Nat) : Int)] (by rw [hz1]; rfl) hcell (by omega) (by omega)
        (growslice_fits (by omega) (by rw [hz2]; omega))
      exact ⟨_, _, hrun, hmk cap, hgr _ _⟩
end Go.Proofs.YthepmahjpejmdaaDoor

/- Package tree: Build's errors; Valid and Path of a zero tree. -/
namespace Go.Proofs.YthepmahjpejmdaaDoor
open Go.RowKit
set_option linter.unusedVariables false
set_option linter.unusedSimpArgs false

set_option maxRecDepth 100000 in
set_option maxHeartbeats 2000000 in
theorem build_none (f : Int) (l : List Dg) (v : Value) (c : Int) (w : World) (hT : TZ w) (hR : DR w v l) (hno : logN l.length = none) :
    Calls Tryd.prog 7 #[.int .i64 f, v, .int .i64 c] w fun e w' => e = .returned (.tuple #[.agg #[.int .i64 0, .int .i64 0, .int .i64 0, .slice none 0 0], .int .i64 1]) ∧ On w w' := by
  obtain ⟨a, cap, rfl⟩ := hR.shape
  have hl63 := hR.2.1
  obtain ⟨n, hn⟩ : ∃ n, n = l.length := ⟨_, rfl⟩
  obtain ⟨U1, hU1⟩ : ∃ U, U = w.alloc (.cells #[.int .i64 c] 3) := ⟨_, rfl⟩
  have hO1 : On w U1 := by rw [hU1]; exact (On.refl hT.1).alloc _
  have hs1 : U1.heap.size = w.heap.size + 1 := by rw [hU1]; simp
  have hb1 : VB w.heap.size U1 [.int .i64 c] := by rw [hU1]; exact vb_new _ _ _
  obtain ⟨U2, hU2⟩ : ∃ U, U = U1.alloc (.cells #[.int .i64 0, .int .i64 0, .int .i64 0, .slice none 0 0] 26) := ⟨_, rfl⟩
  have hx2 : On U1 U2 := by rw [hU2]; exact (On.refl hO1.tab).alloc _
  have hr2 : VB (w.heap.size + 1) U2 [.int .i64 0, .int .i64 0, .int .i64 0, .slice none 0 0] := by have h := vb_new U1 #[.int .i64 0, .int .i64 0, .int .i64 0, .slice none 0 0] 26; rw [← hU2, hs1] at h; exact h
  have HO := Lib.hid (hO1.trans hx2)
  have HC := Lib.hid (hb1.on hx2); have HR := Lib.hid hr2
  have HU1 := Lib.hid hU1; have HU2 := Lib.hid hU2
  have HTZ := Lib.hid (hT.on HO.out); have HDR := Lib.hid (hR.on HO.out)
  have c0 := HC.out.2.1 0 _ rfl
  have HEX : Hid (Calls Tryd.prog 23 #[.int .i64 (n : Int)] U2 fun e w' => e = .returned (.tuple #[.int .i64 0, .bool false]) ∧ U2 = w') := exponent_none n U2 (by omega) (by rw [hn]; exact hno)
  have HV := Lib.hid hno
  have r0 := (HR.out).2.1 0 _ rfl
  have r1 := (HR.out).2.1 1 _ rfl
  have r2 := (HR.out).2.1 2 _ rfl
  have r3 := (HR.out).2.1 3 _ rfl
  have g0 := (HR.out).2.2 0
  have g1 := (HR.out).2.2 1
  have g2 := (HR.out).2.2 2
  have g3 := (HR.out).2.2 3
  obtain ⟨X, hX⟩ : ∃ X, X = ((((U2.setCell ⟨w.heap.size + 1, 0, none⟩ (.int .i64 0)).setCell ⟨w.heap.size + 1, 1, none⟩ (.int .i64 0)).setCell ⟨w.heap.size + 1, 2, none⟩ (.int .i64 0)).setCell ⟨w.heap.size + 1, 3, none⟩ (.slice none 0 0)) := ⟨_, rfl⟩
  have HX : Hid (VB (w.heap.size + 1) X [.int .i64 0, .int .i64 0, .int .i64 0, .slice none 0 0]) := by rw [hX]; exact ((((HR.out).set 0 _ (by simp)).set 1 _ (by simp)).set 2 _ (by simp)).set 3 _ (by simp)
  have HOX : Hid (On w X) := by rw [hX]; exact ((((HO.out).setCell (by simp) _).setCell (by simp) _).setCell (by simp) _).setCell (by simp) _
  have HXE := Lib.hid hX
  clear hX
  rw [← hn] at HDR ⊢
  have HN := Lib.hid hn
  clear hU1 hO1 hs1 hb1 hU2 hx2 hr2 hn hR hT
  go_enter Tryd.func7, Tryd.ntmps7
  go_upto_region 1 with fail
  rw [← HU1.out, ← HU2.out]
  go_wp2_with (first
    | (go_at_call 23; with_reducible refine HEX.out.mono ?_; rintro e w2 ⟨rfl, rfl⟩)
    | (go_at_call 24; refine (valid_any _ _).mono ?_; rintro e w2 ⟨rfl, rfl⟩; rw [HV.out])
    | fail)
  rw [← HXE.out]
  obtain ⟨p0, p1, p2, p3⟩ : (X.cell? ⟨w.heap.size + 1, 0, none⟩ = some (.int .i64 0)) ∧ (X.cell? ⟨w.heap.size + 1, 1, none⟩ = some (.int .i64 0)) ∧ (X.cell? ⟨w.heap.size + 1, 2, none⟩ = some (.int .i64 0)) ∧ (X.cell? ⟨w.heap.size + 1, 3, none⟩ = some (.slice none 0 0)) := ⟨HX.out.2.1 0 _ rfl, HX.out.2.1 1 _ rfl, HX.out.2.1 2 _ rfl, HX.out.2.1 3 _ rfl⟩
  refine bodyPost_ret (v := .tuple #[.agg #[.int .i64 0, .int .i64 0, .int .i64 0, .slice none 0 0], .int .i64 1]) (by simp [results, Tryd.results7, go_sem, p0, p1, p2, p3]; try rfl) rfl ?_
  exact ⟨rfl, HOX.out⟩
set_option maxRecDepth 100000 in
set_option maxHeartbeats 2000000 in
theorem build_field (f : Int) (l : List Dg) (v : Value) (c : Int) (w : World) (hT : TZ w) (hR : DR w v l) (K : Nat) (hK : K ≤ 18) (hlen : l.length = 2 ^ K) (hno : validB f = false) :
    Calls Tryd.prog 7 #[.int .i64 f, v, .int .i64 c] w fun e w' => e = .returned (.tuple #[.agg #[.int .i64 0, .int .i64 0, .int .i64 0, .slice none 0 0], .int .i64 1]) ∧ On w w' := by
  obtain ⟨a, cap, rfl⟩ := hR.shape
  have hl63 := hR.2.1
  obtain ⟨n, hn⟩ : ∃ n, n = l.length := ⟨_, rfl⟩
  obtain ⟨U1, hU1⟩ : ∃ U, U = w.alloc (.cells #[.int .i64 c] 3) := ⟨_, rfl⟩
  have hO1 : On w U1 := by rw [hU1]; exact (On.refl hT.1).alloc _
  have hs1 : U1.heap.size = w.heap.size + 1 := by rw [hU1]; simp
  have hb1 : VB w.heap.size U1 [.int .i64 c] := by rw [hU1]; exact vb_new _ _ _
  obtain ⟨U2, hU2⟩ : ∃ U, U = U1.alloc (.cells #[.int .i64 0, .int .i64 0, .int .i64 0, .slice none 0 0] 26) := ⟨_, rfl⟩
  have hx2 : On U1 U2 := by rw [hU2]; exact (On.refl hO1.tab).alloc _
  have hr2 : VB (w.heap.size + 1) U2 [.int .i64 0, .int .i64 0, .int .i64 0, .slice none 0 0] := by have h := vb_new U1 #[.int .i64 0, .int .i64 0, .int .i64 0, .slice none 0 0] 26; rw [← hU2, hs1] at h; exact h
  have HO := Lib.hid (hO1.trans hx2)
  have HC := Lib.hid (hb1.on hx2); have HR := Lib.hid hr2
  have HU1 := Lib.hid hU1; have HU2 := Lib.hid hU2
  have HTZ := Lib.hid (hT.on HO.out); have HDR := Lib.hid (hR.on HO.out)
  have c0 := HC.out.2.1 0 _ rfl
  have HEX : Hid (Calls Tryd.prog 23 #[.int .i64 (n : Int)] U2 fun e w' => e = .returned (.tuple #[.int .i64 (K : Int), .bool true]) ∧ U2 = w') := exponent_some K n U2 HTZ.out hK (by rw [hn]; exact hlen)
  have HV := Lib.hid hno
  clear hno hlen
  have r0 := (HR.out).2.1 0 _ rfl
  have r1 := (HR.out).2.1 1 _ rfl
  have r2 := (HR.out).2.1 2 _ rfl
  have r3 := (HR.out).2.1 3 _ rfl
  have g0 := (HR.out).2.2 0
  have g1 := (HR.out).2.2 1
  have g2 := (HR.out).2.2 2
  have g3 := (HR.out).2.2 3
  obtain ⟨X, hX⟩ : ∃ X, X = ((((U2.setCell ⟨w.heap.size + 1, 0, none⟩ (.int .i64 0)).setCell ⟨w.heap.size + 1, 1, none⟩ (.int .i64 0)).setCell ⟨w.heap.size + 1, 2, none⟩ (.int .i64 0)).setCell ⟨w.heap.size + 1, 3, none⟩ (.slice none 0 0)) := ⟨_, rfl⟩
  have HX : Hid (VB (w.heap.size + 1) X [.int .i64 0, .int .i64 0, .int .i64 0, .slice none 0 0]) := by rw [hX]; exact ((((HR.out).set 0 _ (by simp)).set 1 _ (by simp)).set 2 _ (by simp)).set 3 _ (by simp)
  have HOX : Hid (On w X) := by rw [hX]; exact ((((HO.out).setCell (by simp) _).setCell (by simp) _).setCell (by simp) _).setCell (by simp) _
  have HXE := Lib.hid hX
  clear hX
  rw [← hn] at HDR ⊢
  have HN := Lib.hid hn
  clear hU1 hO1 hs1 hb1 hU2 hx2 hr2 hn hR hT
  go_enter Tryd.func7, Tryd.ntmps7
  go_upto_region 1 with fail
  rw [← HU1.out, ← HU2.out]
  go_wp2_with (first
    | (go_at_call 23; with_reducible refine HEX.out.mono ?_; rintro e w2 ⟨rfl, rfl⟩)
    | (go_at_call 24; refine (valid_any _ _).mono ?_; rintro e w2 ⟨rfl, rfl⟩; rw [HV.out])
    | fail)
  rw [← HXE.out]
  obtain ⟨p0, p1, p2, p3⟩ : (X.cell? ⟨w.heap.size + 1, 0, none⟩ = some (.int .i64 0)) ∧ (X.cell? ⟨w.heap.size + 1, 1, none⟩ = some (.int .i64 0)) ∧ (X.cell? ⟨w.heap.size + 1, 2, none⟩ = some (.int .i64 0)) ∧ (X.cell? ⟨w.heap.size + 1, 3, none⟩ = some (.slice none 0 0)) := ⟨HX.out.2.1 0 _ rfl, HX.out.2.1 1 _ rfl, HX.out.2.1 2 _ rfl, HX.out.2.1 3 _ rfl⟩
  refine bodyPost_ret (v := .tuple #[.agg #[.int .i64 0, .int .i64 0, .int .i64 0, .slice none 0 0], .int .i64 1]) (by simp [results, Tryd.results7, go_sem, p0, p1, p2, p3]; try rfl) rfl ?_
  exact ⟨rfl, HOX.out⟩
set_option maxRecDepth 100000 in
set_option maxHeartbeats 2000000 in
theorem build_cap (f : Int) (l : List Dg) (v : Value) (c : Int) (w : World) (hT : TZ w) (hR : DR w v l) (K : Nat) (hK : K ≤ 18) (hlen : l.length = 2 ^ K) (hyes : validB f = true) (hc0 : ¬ c < 0) (hc : (K : Int) < c) :
    Calls Tryd.prog 7 #[.int .i64 f, v, .int .i64 c] w fun e w' => e = .returned (.tuple #[.agg #[.int .i64 0, .int .i64 0, .int .i64 0, .slice none 0 0], .int .i64 1]) ∧ On w w' := by
  obtain ⟨a, cap, rfl⟩ := hR.shape
  have hl63 := hR.2.1
  obtain ⟨n, hn⟩ : ∃ n, n = l.length := ⟨_, rfl⟩
  obtain ⟨U1, hU1⟩ : ∃ U, U = w.alloc (.cells #[.int .i64 c] 3) := ⟨_, rfl⟩
  have hO1 : On w U1 := by rw [hU1]; exact (On.refl hT.1).alloc _
  have hs1 : U1.heap.size = w.heap.size + 1 := by rw [hU1]; simp
  have hb1 : VB w.heap.size U1 [.int .i64 c] := by rw [hU1]; exact vb_new _ _ _
  obtain ⟨U2, hU2⟩ : ∃ U, U = U1.alloc (.cells #[.int .i64 0, .int .i64 0, .int .i64 0, .slice none 0 0] 26) := ⟨_, rfl⟩
  have hx2 : On U1 U2 := by rw [hU2]; exact (On.refl hO1.tab).alloc _
  have hr2 : VB (w.heap.size + 1) U2 [.int .i64 0, .int .i64 0, .int .i64 0, .slice none 0 0] := by have h := vb_new U1 #[.int .i64 0, .int .i64 0, .int .i64 0, .slice none 0 0] 26; rw [← hU2, hs1] at h; exact h
  have HO := Lib.hid (hO1.trans hx2)
  have HC := Lib.hid (hb1.on hx2); have HR := Lib.hid hr2
  have HU1 := Lib.hid hU1; have HU2 := Lib.hid hU2
  have HTZ := Lib.hid (hT.on HO.out); have HDR := Lib.hid (hR.on HO.out)
  have c0 := HC.out.2.1 0 _ rfl
  have HEX : Hid (Calls Tryd.prog 23 #[.int .i64 (n : Int)] U2 fun e w' => e = .returned (.tuple #[.int .i64 (K : Int), .bool true]) ∧ U2 = w') := exponent_some K n U2 HTZ.out hK (by rw [hn]; exact hlen)
  have HV := Lib.hid hyes
  clear hyes hlen
  have r0 := (HR.out).2.1 0 _ rfl
  have r1 := (HR.out).2.1 1 _ rfl
  have r2 := (HR.out).2.1 2 _ rfl
  have r3 := (HR.out).2.1 3 _ rfl
  have g0 := (HR.out).2.2 0
  have g1 := (HR.out).2.2 1
  have g2 := (HR.out).2.2 2
  have g3 := (HR.out).2.2 3
  obtain ⟨X, hX⟩ : ∃ X, X = ((((U2.setCell ⟨w.heap.size + 1, 0, none⟩ (.int .i64 0)).setCell ⟨w.heap.size + 1, 1, none⟩ (.int .i64 0)).setCell ⟨w.heap.size + 1, 2, none⟩ (.int .i64 0)).setCell ⟨w.heap.size + 1, 3, none⟩ (.slice none 0 0)) := ⟨_, rfl⟩
  have HX : Hid (VB (w.heap.size + 1) X [.int .i64 0, .int .i64 0, .int .i64 0, .slice none 0 0]) := by rw [hX]; exact ((((HR.out).set 0 _ (by simp)).set 1 _ (by simp)).set 2 _ (by simp)).set 3 _ (by simp)
  have HOX : Hid (On w X) := by rw [hX]; exact ((((HO.out).setCell (by simp) _).setCell (by simp) _).setCell (by simp) _).setCell (by simp) _
  have HXE := Lib.hid hX
  clear hX
  rw [← hn] at HDR ⊢
  have HN := Lib.hid hn
  clear hU1 hO1 hs1 hb1 hU2 hx2 hr2 hn hR hT
  go_enter Tryd.func7, Tryd.ntmps7
  go_upto_region 1 with fail
  rw [← HU1.out, ← HU2.out]
  go_wp2_with (first
    | (go_at_call 23; with_reducible refine HEX.out.mono ?_; rintro e w2 ⟨rfl, rfl⟩)
    | (go_at_call 24; refine (valid_any _ _).mono ?_; rintro e w2 ⟨rfl, rfl⟩; rw [HV.out])
    | fail)
  rw [← HXE.out]
  obtain ⟨p0, p1, p2, p3⟩ : (X.cell? ⟨w.heap.size + 1, 0, none⟩ = some (.int .i64 0)) ∧ (X.cell? ⟨w.heap.size + 1, 1, none⟩ = some (.int .i64 0)) ∧ (X.cell? ⟨w.heap.size + 1, 2, none⟩ = some (.int .i64 0)) ∧ (X.cell? ⟨w.heap.size + 1, 3, none⟩ = some (.slice none 0 0)) := ⟨HX.out.2.1 0 _ rfl, HX.out.2.1 1 _ rfl, HX.out.2.1 2 _ rfl, HX.out.2.1 3 _ rfl⟩
  refine bodyPost_ret (v := .tuple #[.agg #[.int .i64 0, .int .i64 0, .int .i64 0, .slice none 0 0], .int .i64 1]) (by simp [results, Tryd.results7, go_sem, p0, p1, p2, p3]; try rfl) rfl ?_
  exact ⟨rfl, HOX.out⟩
set_option maxRecDepth 100000 in
set_option maxHeartbeats 2000000 in
theorem build_range (f : Int) (l : List Dg) (v : Value) (c : Int) (w : World) (hT : TZ w) (hR : DR w v l) (K : Nat) (hK : K ≤ 18) (hlen : l.length = 2 ^ K) (hyes : validB f = true) (hc0 : ¬ c < 0) (hc : ¬ (K : Int) < c) (hno : okA f l = false) :
    Calls Tryd.prog 7 #[.int .i64 f, v, .int .i64 c] w fun e w' => e = .returned (.tuple #[.agg #[.int .i64 0, .int .i64 0, .int .i64 0, .slice none 0 0], .int .i64 2]) ∧ On w w' := by
  obtain ⟨a, cap, rfl⟩ := hR.shape
  have hl63 := hR.2.1
  obtain ⟨n, hn⟩ : ∃ n, n = l.length := ⟨_, rfl⟩
  obtain ⟨U1, hU1⟩ : ∃ U, U = w.alloc (.cells #[.int .i64 c] 3) := ⟨_, rfl⟩
  have hO1 : On w U1 := by rw [hU1]; exact (On.refl hT.1).alloc _
  have hs1 : U1.heap.size = w.heap.size + 1 := by rw [hU1]; simp
  have hb1 : VB w.heap.size U1 [.int .i64 c] := by rw [hU1]; exact vb_new _ _ _
  obtain ⟨U2, hU2⟩ : ∃ U, U = U1.alloc (.cells #[.int .i64 0, .int .i64 0, .int .i64 0, .slice none 0 0] 26) := ⟨_, rfl⟩
  have hx2 : On U1 U2 := by rw [hU2]; exact (On.refl hO1.tab).alloc _
  have hr2 : VB (w.heap.size + 1) U2 [.int .i64 0, .int .i64 0, .int .i64 0, .slice none 0 0] := by have h := vb_new U1 #[.int .i64 0, .int .i64 0, .int .i64 0, .slice none 0 0] 26; rw [← hU2, hs1] at h; exact h
  have HO := Lib.hid (hO1.trans hx2)
  have HC := Lib.hid (hb1.on hx2); have HR := Lib.hid hr2
  have HU1 := Lib.hid hU1; have HU2 := Lib.hid hU2
  have HTZ := Lib.hid (hT.on HO.out); have HDR := Lib.hid (hR.on HO.out)
  have c0 := HC.out.2.1 0 _ rfl
  have HEX : Hid (Calls Tryd.prog 23 #[.int .i64 (n : Int)] U2 fun e w' => e = .returned (.tuple #[.int .i64 (K : Int), .bool true]) ∧ U2 = w') := exponent_some K n U2 HTZ.out hK (by rw [hn]; exact hlen)
  have HV := Lib.hid hyes
  have HPR := Lib.hid (proper_any f l _ U2 HTZ.out.1 HDR.out)
  rw [hno] at HPR
  rw [← hn] at HDR HPR ⊢
  clear hU1 hO1 hs1 hb1 hU2 hx2 hr2 hn hR hT hyes hlen hno
  go_enter Tryd.func7, Tryd.ntmps7
  go_upto_region 1 with fail
  rw [← HU1.out, ← HU2.out]
  go_wp2_with (first
    | (go_at_call 23; with_reducible refine HEX.out.mono ?_; rintro e w2 ⟨rfl, rfl⟩)
    | (go_at_call 24; refine (valid_any _ _).mono ?_; rintro e w2 ⟨rfl, rfl⟩; rw [HV.out])
    | fail)
  with_reducible refine HPR.out.mono ?_
  rintro e w3 ⟨rfl, hO3⟩
  have r0 := (HR.out.on hO3).2.1 0 _ rfl
  have r1 := (HR.out.on hO3).2.1 1 _ rfl
  have r2 := (HR.out.on hO3).2.1 2 _ rfl
  have r3 := (HR.out.on hO3).2.1 3 _ rfl
  have g0 := (HR.out.on hO3).2.2 0
  have g1 := (HR.out.on hO3).2.2 1
  have g2 := (HR.out.on hO3).2.2 2
  have g3 := (HR.out.on hO3).2.2 3
  obtain ⟨X, hX⟩ : ∃ X, X = ((((w3.setCell ⟨w.heap.size + 1, 0, none⟩ (.int .i64 0)).setCell ⟨w.heap.size + 1, 1, none⟩ (.int .i64 0)).setCell ⟨w.heap.size + 1, 2, none⟩ (.int .i64 0)).setCell ⟨w.heap.size + 1, 3, none⟩ (.slice none 0 0)) := ⟨_, rfl⟩
  have HX : Hid (VB (w.heap.size + 1) X [.int .i64 0, .int .i64 0, .int .i64 0, .slice none 0 0]) := by rw [hX]; exact ((((HR.out.on hO3).set 0 _ (by simp)).set 1 _ (by simp)).set 2 _ (by simp)).set 3 _ (by simp)
  have HOX : Hid (On w X) := by rw [hX]; exact ((((HO.out.trans hO3).setCell (by simp) _).setCell (by simp) _).setCell (by simp) _).setCell (by simp) _
  have HXE := Lib.hid hX
  clear hX
  clear hO3
  go_wp2
  rw [← HXE.out]
  obtain ⟨p0, p1, p2, p3⟩ : (X.cell? ⟨w.heap.size + 1, 0, none⟩ = some (.int .i64 0)) ∧ (X.cell? ⟨w.heap.size + 1, 1, none⟩ = some (.int .i64 0)) ∧ (X.cell? ⟨w.heap.size + 1, 2, none⟩ = some (.int .i64 0)) ∧ (X.cell? ⟨w.heap.size + 1, 3, none⟩ = some (.slice none 0 0)) := ⟨HX.out.2.1 0 _ rfl, HX.out.2.1 1 _ rfl, HX.out.2.1 2 _ rfl, HX.out.2.1 3 _ rfl⟩
  refine bodyPost_ret (v := .tuple #[.agg #[.int .i64 0, .int .i64 0, .int .i64 0, .slice none 0 0], .int .i64 2]) (by simp [results, Tryd.results7, go_sem, p0, p1, p2, p3]; try rfl) rfl ?_
  exact ⟨rfl, HOX.out⟩
set_option maxRecDepth 100000 in
set_option maxHeartbeats 2000000 in
theorem valid_zero (w : World) (hT : Tab w) : Calls Tryd.prog 10 #[.agg #[.int .i64 0, .int .i64 0, .int .i64 0, .slice none 0 0]] w fun e w' => e = .returned (.bool false) ∧ On w w' := by
  obtain ⟨U1, hU1⟩ : ∃ U, U = w.alloc (.cells #[.int .i64 0, .int .i64 0, .int .i64 0, .slice none 0 0] 26) := ⟨_, rfl⟩
  have hO1 : On w U1 := by rw [hU1]; exact (On.refl hT).alloc _
  have hb1 : VB w.heap.size U1 [.int .i64 0, .int .i64 0, .int .i64 0, .slice none 0 0] := by rw [hU1]; exact vb_new _ _ _
  have HU1 := Lib.hid hU1; have HO := Lib.hid hO1
  have r0 := hb1.2.1 0 _ rfl
  have r1 := hb1.2.1 1 _ rfl
  have r2 := hb1.2.1 2 _ rfl
  have r3 := hb1.2.1 3 _ rfl
  have HV : Hid (validB 0 = true) := Lib.hid (by decide)
  clear hU1 hO1 hb1
  go_enter Tryd.func10, Tryd.ntmps10
  go_upto_region 1 with fail
  rw [← HU1.out]
  go_wp2_with (go_at_call 24; refine (valid_any _ _).mono ?_; rintro e w2 ⟨rfl, rfl⟩; rw [HV.out])
  go_ret
  exact ⟨rfl, HO.out⟩
set_option maxRecDepth 100000 in
set_option maxHeartbeats 2000000 in
theorem path_zero (w : World) (hT : Tab w) : Calls Tryd.prog 17 #[.agg #[.int .i64 0, .int .i64 0, .int .i64 0, .slice none 0 0], .int .i64 0] w fun e w' => e = .returned (.tuple #[.slice none 0 0, .int .i64 1]) ∧ On w w' := by
  obtain ⟨U1, hU1⟩ : ∃ U, U = w.alloc (.cells #[.int .i64 0, .int .i64 0, .int .i64 0, .slice none 0 0] 26) := ⟨_, rfl⟩
  have hO1 : On w U1 := by rw [hU1]; exact (On.refl hT).alloc _
  have hb1 : VB w.heap.size U1 [.int .i64 0, .int .i64 0, .int .i64 0, .slice none 0 0] := by rw [hU1]; exact vb_new _ _ _
  have HU1 := Lib.hid hU1; have HO := Lib.hid hO1
  have r0 := hb1.2.1 0 _ rfl
  have r1 := hb1.2.1 1 _ rfl
  have r2 := hb1.2.1 2 _ rfl
  have r3 := hb1.2.1 3 _ rfl
  have HV := Lib.hid (valid_zero U1 hO1.tab)
  clear hU1 hO1 hb1
  go_enter Tryd.func17, Tryd.ntmps17
  go_upto_region 1 with fail
  rw [← HU1.out]
  go_wp2_with (go_at_call 10; with_reducible refine HV.out.mono ?_; rintro e w2 ⟨rfl, hO2⟩; have HO2 := Lib.hid hO2; clear hO2)
  go_ret2
  exact ⟨rfl, HO.out.trans HO2.out⟩
end Go.Proofs.YthepmahjpejmdaaDoor

/- The document's Same of two trees. -/
namespace Go.Proofs.YthepmahjpejmdaaDoor
open Go.RowKit
set_option linter.unusedVariables false

set_option maxRecDepth 100000 in
set_option maxHeartbeats 2000000 in
theorem rsamet_yes (f H c : Int) (m : Nat) (F : Nat → List Dg) (va vb : Value) (w : World) (hT : Tab w) (hA : TR w va m F) (hB : TR w vb m F) :
    Calls Tryd.prog 9 #[.agg #[.int .i64 f, .int .i64 H, .int .i64 c, va], .agg #[.int .i64 f, .int .i64 H, .int .i64 c, vb]] w fun e w' => e = .returned (.bool true) ∧ On w w' := by
  obtain ⟨aa, ca, rfl, hm, hCA⟩ := hA
  obtain ⟨ab, cb, rfl, -, hCB⟩ := hB
  obtain ⟨w1, hw1⟩ : ∃ w1, w1 = (w.alloc (.cells #[.int .i64 f, .int .i64 H, .int .i64 c, .slice aa m ca] 26)).alloc (.cells #[.int .i64 f, .int .i64 H, .int .i64 c, .slice ab m cb] 26) := ⟨_, rfl⟩
  obtain ⟨Q, hQ⟩ : ∃ Q, Q = w.heap.size := ⟨_, rfl⟩
  have hO1 : On w w1 := by rw [hw1]; exact ((On.refl hT).alloc _).alloc _
  have hOa : On (w.alloc (.cells #[.int .i64 f, .int .i64 H, .int .i64 c, .slice aa m ca] 26)) w1 := by rw [hw1]; exact (On.refl ((On.refl hT).alloc _).tab).alloc _
  have hP : VB Q w1 [.int .i64 f, .int .i64 H, .int .i64 c, .slice aa m ca] := (by rw [hQ]; exact vb_new w #[.int .i64 f, .int .i64 H, .int .i64 c, .slice aa m ca] 26 : VB Q (w.alloc (.cells #[.int .i64 f, .int .i64 H, .int .i64 c, .slice aa m ca] 26)) _).on hOa
  have hs : (w.alloc (.cells #[.int .i64 f, .int .i64 H, .int .i64 c, .slice aa m ca] 26)).heap.size = Q + 1 := by rw [hQ]; simp
  have hR : VB (Q + 1) w1 [.int .i64 f, .int .i64 H, .int .i64 c, .slice ab m cb] := by rw [hw1, ← hs]; exact vb_new _ #[.int .i64 f, .int .i64 H, .int .i64 c, .slice ab m cb] 26
  have HP := Lib.hid hP
  have HR := Lib.hid hR
  have HO1 := Lib.hid hO1
  have HW1 := Lib.hid hw1
  have HQ := Lib.hid hQ
  have HCA := Lib.hid hCA
  have HCB := Lib.hid hCB
  clear hT hP hR hO1 hOa hw1 hs hCA hCB hQ
  go_enter Tryd.func9, Tryd.ntmps9
  go_upto_region 1 with fail
  rw [← HQ.out, ← HW1.out]
  have p0 := HP.out.2.1 0 _ rfl; have p1 := HP.out.2.1 1 _ rfl; have p2 := HP.out.2.1 2 _ rfl; have p3 := HP.out.2.1 3 _ rfl
  have q0 := HR.out.2.1 0 _ rfl; have q1 := HR.out.2.1 1 _ rfl; have q2 := HR.out.2.1 2 _ rfl; have q3 := HR.out.2.1 3 _ rfl
  go_wp2_with fail
  clear p0 p1 p2 p3 q0 q1 q2 q3
  go_loopw [5] (fun vi wr => ∃ j : Nat, j ≤ m ∧ vi = .int .i64 (j : Int) ∧ Hid (On w1 wr)) (fun vi _ => m - (intOf vi).toNat)
  case atStart => exact ⟨0, Nat.zero_le _, rfl, Lib.hid (On.refl HO1.out.tab)⟩
  case round =>
    rename World => wr
    obtain ⟨j, hj, rfl, HO⟩ := hrel
    have p3 := (HP.out.on HO.out).2.1 3 _ rfl
    have q3 := (HR.out.on HO.out).2.1 3 _ rfl
    by_cases hlt : j < m
    · have hlt' : (j : Int) < (m : Int) := by omega
      obtain ⟨b1, o1, u1, rfl, x0', hd1⟩ := HCA.out j hlt
      obtain ⟨b2, o2, u2, rfl, y0', hd2⟩ := HCB.out j hlt
      have HOW := Lib.hid (HO1.out.trans HO.out)
      have x0 := (HOW.out.cell (p := ⟨b1, o1 + j, none⟩) (cell_size x0')).trans x0'
      have y0 := (HOW.out.cell (p := ⟨b2, o2 + j, none⟩) (cell_size y0')).trans y0'
      have HEQ : Hid (∀ wx, On wr wx → Calls Tryd.prog 12 #[u1, u2] wx fun e w' => e = .returned (.bool true) ∧ On wr w') := fun wx h => by
        have h2 := requal_any (F j) (F j) u1 u2 wx h.tab (hd1.on (HOW.out.trans h)) (hd2.on (HOW.out.trans h))
        rw [decide_eq_true rfl] at h2
        exact h2.mono fun e w' ⟨he, ho⟩ => ⟨he, h.trans ho⟩
      obtain ⟨s1, t1, rfl⟩ := hd1.shape
      obtain ⟨s2, t2, rfl⟩ := hd2.shape
      generalize (F j).length = fl at x0 y0 HEQ
      clear x0' y0' hd1 hd2
      go_wp2
      refine region_keep_tail (fun wx => On wr wx) 11 (by kernel_rfl) (by kernel_rfl) (On.refl HO.out.tab).drew ?_
      simp only [List.take_succ_cons, List.take_zero, List.drop_succ_cons, List.drop_zero]
      refine quiet_start fun L9 hL9 => ?_
      refine quiet_take (v := ?kav0) hL9 (by kernel_rfl) (fun wq hwq => ?kay0) (fun L9 hL9 => ?kar0)
      case kay0 => (go_simp; try with_reducible rfl)
      try simp only [Act.put, List.setIfInBounds_toArray, List.set_cons_zero, List.set_cons_succ]
      refine quiet_take (v := ?kav1) hL9 (by kernel_rfl) (fun wq hwq => ?kay1) (fun L9 hL9 => ?kar1)
      case kay1 => (have k0 := (hwq.cell (p := ⟨Q, 3, none⟩) (cell_size p3)).trans p3; have k1 := (hwq.cell (p := ⟨Q + 1, 3, none⟩) (cell_size q3)).trans q3; have k2 := (hwq.cell (p := ⟨b1, o1 + j, none⟩) (cell_size x0)).trans x0; have k3 := (hwq.cell (p := ⟨b2, o2 + j, none⟩) (cell_size y0)).trans y0; go_simp; try with_reducible rfl)
      try simp only [Act.put, List.setIfInBounds_toArray, List.set_cons_zero, List.set_cons_succ]
      refine quiet_take (v := ?kav2) hL9 (by kernel_rfl) (fun wq hwq => ?kay2) (fun L9 hL9 => ?kar2)
      case kay2 => (go_simp; try with_reducible rfl)
      try simp only [Act.put, List.setIfInBounds_toArray, List.set_cons_zero, List.set_cons_succ]
      refine quiet_take (v := ?kav3) hL9 (by kernel_rfl) (fun wq hwq => ?kay3) (fun L9 hL9 => ?kar3)
      case kay3 => (go_simp; try with_reducible rfl)
      try simp only [Act.put, List.setIfInBounds_toArray, List.set_cons_zero, List.set_cons_succ]
      refine quiet_take (v := ?kav4) hL9 (by kernel_rfl) (fun wq hwq => ?kay4) (fun L9 hL9 => ?kar4)
      case kay4 => (have k0 := (hwq.cell (p := ⟨Q, 3, none⟩) (cell_size p3)).trans p3; have k1 := (hwq.cell (p := ⟨Q + 1, 3, none⟩) (cell_size q3)).trans q3; have k2 := (hwq.cell (p := ⟨b1, o1 + j, none⟩) (cell_size x0)).trans x0; have k3 := (hwq.cell (p := ⟨b2, o2 + j, none⟩) (cell_size y0)).trans y0; go_simp; try with_reducible rfl)
      try simp only [Act.put, List.setIfInBounds_toArray, List.set_cons_zero, List.set_cons_succ]
      refine quiet_take (v := ?kav5) hL9 (by kernel_rfl) (fun wq hwq => ?kay5) (fun L9 hL9 => ?kar5)
      case kay5 => (go_simp; try with_reducible rfl)
      try simp only [Act.put, List.setIfInBounds_toArray, List.set_cons_zero, List.set_cons_succ]
      refine quiet_take (v := ?kav6) hL9 (by kernel_rfl) (fun wq hwq => ?kay6) (fun L9 hL9 => ?kar6)
      case kay6 => (have k0 := (hwq.cell (p := ⟨Q, 3, none⟩) (cell_size p3)).trans p3; have k1 := (hwq.cell (p := ⟨Q + 1, 3, none⟩) (cell_size q3)).trans q3; have k2 := (hwq.cell (p := ⟨b1, o1 + j, none⟩) (cell_size x0)).trans x0; have k3 := (hwq.cell (p := ⟨b2, o2 + j, none⟩) (cell_size y0)).trans y0; go_simp; try with_reducible rfl)
      try simp only [Act.put, List.setIfInBounds_toArray, List.set_cons_zero, List.set_cons_succ]
      refine quiet_take (v := ?kav7) hL9 (by kernel_rfl) (fun wq hwq => ?kay7) (fun L9 hL9 => ?kar7)
      case kay7 => (go_simp; try with_reducible rfl)
      try simp only [Act.put, List.setIfInBounds_toArray, List.set_cons_zero, List.set_cons_succ]
      refine quiet_take (v := ?kav8) hL9 (by kernel_rfl) (fun wq hwq => ?kay8) (fun L9 hL9 => ?kar8)
      case kay8 => (go_simp; try with_reducible rfl)
      try simp only [Act.put, List.setIfInBounds_toArray, List.set_cons_zero, List.set_cons_succ]
      refine quiet_take (v := ?kav9) hL9 (by kernel_rfl) (fun wq hwq => ?kay9) (fun L9 hL9 => ?kar9)
      case kay9 => (have k0 := (hwq.cell (p := ⟨Q, 3, none⟩) (cell_size p3)).trans p3; have k1 := (hwq.cell (p := ⟨Q + 1, 3, none⟩) (cell_size q3)).trans q3; have k2 := (hwq.cell (p := ⟨b1, o1 + j, none⟩) (cell_size x0)).trans x0; have k3 := (hwq.cell (p := ⟨b2, o2 + j, none⟩) (cell_size y0)).trans y0; go_simp; try with_reducible rfl)
      try simp only [Act.put, List.setIfInBounds_toArray, List.set_cons_zero, List.set_cons_succ]
      refine quiet_take (v := .bool true) hL9 (by kernel_rfl) (fun wq hwq => ?kay10) (fun L9 hL9 => ?kar10)
      case kay10 => (go_simp; go_at_call 12; exact HEQ.out _ hwq)
      try simp only [Act.put, List.setIfInBounds_toArray, List.set_cons_zero, List.set_cons_succ]
      refine quiet_nil hL9 ?_
      clear hL9
      intro w6 hX6
      go_wp2
      go_roundw
      case rel => exact ⟨j + 1, by omega, by simp, Lib.hid (HO.out.trans hX6)⟩
      case measure => simp [intOf]; omega
    · obtain rfl : j = m := by omega
      go_wp2
      go_ret
      exact ⟨rfl, HO1.out.trans HO.out⟩
end Go.Proofs.YthepmahjpejmdaaDoor
