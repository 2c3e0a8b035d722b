/- Package tree: Build, where all is well: what the call returns. -/
import Derived.Test.YtnmfneeojnmebaaDoorYhdr
import Derived.Test.YtnmfneeojnmebaaDoorYw4
import Derived.Deep.RegionWith
namespace Go.Proofs.YtnmfneeojnmebaaDoor
open Go.RowKit Go.Shelf
set_option linter.unusedVariables false
attribute [local go_sem] Oper.semAt_some

theorem upward_sl (f : Int) (a : Option Addr) (n c : Nat) (w : World) :
    Calls Tryd.prog 40 #[.int .i64 f, .slice a n c] w fun e w' =>
      e = .returned (.func (.func 60) #[] #[.pointer (some ⟨w.heap.size + 1, 0, none⟩), .pointer (some ⟨w.heap.size, 0, none⟩)]) ∧ w' = (w.alloc (.cells #[.int .i64 f] 3)).alloc (.cells #[.slice a n c] 22) := by
  go_enter Tryd.func40, Tryd.ntmps40
  go_wp2
  go_ret
  exact ⟨rfl, rfl⟩
/-- A tree's four cells in a block. -/
def TBox (T : Nat) (W : World) (f h c : Int) (v : Value) : Prop := W.heap[T]? = some (.cells #[.int .i64 f, .int .i64 h, .int .i64 c, v] 26 (0, 0))
theorem TBox.lt {T : Nat} {W : World} {f h c : Int} {v : Value} (b : TBox T W f h c v) : T < W.heap.size := (Array.getElem?_eq_some_iff.1 b).1
theorem TBox.cells {T : Nat} {W : World} {f h c : Int} {v : Value} (b : TBox T W f h c v) : W.cell? ⟨T, 0, none⟩ = some (.int .i64 f) ∧ W.cell? ⟨T, 1, none⟩ = some (.int .i64 h) ∧ W.cell? ⟨T, 2, none⟩ = some (.int .i64 c) ∧ W.cell? ⟨T, 3, none⟩ = some v := by
  refine ⟨?_, ?_, ?_, ?_⟩ <;> simp [World.cell?, show W.heap[T]? = _ from b]
theorem TBox.free {T : Nat} {W : World} {f h c : Int} {v : Value} (b : TBox T W f h c v) (o : Nat) : W.frozen? ⟨T, o, none⟩ = false := by simp [World.frozen?, show W.heap[T]? = _ from b]
theorem TBox.new (W : World) (f h c : Int) (v : Value) : TBox W.heap.size (W.alloc (.cells #[.int .i64 f, .int .i64 h, .int .i64 c, v] 26)) f h c v := World.alloc_heap_new W _
theorem TBox.block {T : Nat} {W W' : World} {f h c : Int} {v : Value} (b : TBox T W f h c v) (k : W'.heap[T]? = W.heap[T]?) : TBox T W' f h c v := k.trans b
theorem TBox.on {T : Nat} {W W' : World} {f h c : Int} {v : Value} (b : TBox T W f h c v) (k : On W W') : TBox T W' f h c v := b.block (k.2.block T b.lt)
theorem TBox.set {T : Nat} {W : World} {f h c : Int} {v : Value} (b : TBox T W f h c v) (u : Value) : TBox T (W.setCell ⟨T, 3, none⟩ u) f h c u := by
  obtain ⟨hlt, hk⟩ := Array.getElem?_eq_some_iff.1 b
  show (W.heap.modify T _)[T]? = _
  rw [Array.getElem?_eq_getElem (by rw [Array.size_modify]; exact hlt), Array.getElem_modify_self, hk]
  rfl

theorem Nat.pow_right_injective_z {a b : Nat} (h : 2 ^ a = 2 ^ b) : a = b := by
  rcases Nat.lt_trichotomy a b with e | e | e
  · have := Nat.pow_lt_pow_right (a := 2) (by omega) e; omega
  · exact e
  · have := Nat.pow_lt_pow_right (a := 2) (by omega) e; omega
theorem keepsOthers_hdr {W w1 : World} {n0 T : Nat} {v v' : Value} {k : Nat} {xs : List Value} (hrow : W.ownsRow n0 22 1 v k xs) (hg : W.grownBy w1 v.ownBlock) : KeepsOthers W (w1.setCell ⟨T, 3, none⟩ v') := by
  refine (KeepsOthers.of_grownBy hg fun j o ej hj => ?_).trans (KeepsOthers.setCell _ _ _)
  rcases hrow.2 with ⟨rfl, _⟩ | ⟨g, cap, cur, rfl, _, hgb, _⟩
  · simp [Value.ownBlock] at ej
  · obtain rfl : g = j := by simpa [Value.ownBlock] using ej
    rw [hgb] at hj; cases hj; rfl
theorem ownsRow_sl {W : World} {n0 : Nat} {v : Value} {k : Nat} {xs : List Value} (h : W.ownsRow n0 22 1 v k xs) (hl : xs.length = k) : ∃ a c, v = .slice a k c := by
  rcases h.2 with ⟨rfl, h0⟩ | ⟨g, cap, cur, rfl, _⟩
  · exact ⟨_, _, by rw [show k = 0 by omega]⟩
  · exact ⟨_, _, rfl⟩
theorem grownBy_setCell3 (W : World) (b : Nat) (v : Value) : W.grownBy (W.setCell ⟨b, 3, none⟩ v) (some b) :=
  ⟨rfl, rfl, rfl, (KeepsWalks.setCell W _ v).size, fun k _ hk => Below.heap_setCell _ _ _ k (fun e => hk (by rw [e]))⟩
/-- What holds between two rounds of Build: the tree's box T, its levels, the boxes of the cap and of the result. -/
structure BI (n1 n0 T : Nat) (f K c : Int) (w : World) (pre : List Lv) (W : World) : Prop where
  tb : ∃ v, TBox T W f K c v ∧ W.ownsRow n1 22 1 v pre.length (pre.map lvV) ∧ (pre = [] → v = .slice none 0 0)
  db : ∀ x ∈ pre, LvM n1 x W
  cb : Boxed W n0 3 (.int .i64 c)
  rb : TBox (n0 + 1) W 0 0 0 (.slice none 0 0)
  bel : Below w.heap.size w W
  sz : n1 ≤ W.heap.size
theorem not_row_of {W : World} {n1 : Nat} {v : Value} {k : Nat} {xs : List Value} (h : W.ownsRow n1 22 1 v k xs) (b : Nat) (hb : b < n1) : some b ≠ v.ownBlock := by
  rcases h.2 with ⟨rfl, _⟩ | ⟨g, cap, cur, rfl, hg, _⟩
  · simp [Value.ownBlock]
  · simp [Value.ownBlock]; omega
theorem DB.hdr {B : Nat} {X Y : World} {l : List Dg} {n1 : Nat} {v : Value} {pre : List Lv} (h : DB B X l) (hl : 0 < l.length) (hg : X.grownBy Y v.ownBlock) (hr : X.ownsRow n1 22 1 v pre.length (pre.map lvV)) (h0 : pre = [] → v = .slice none 0 0) : DB B Y l := by
  refine h.kept hg.size (hg.block B h.1 ?_)
  rcases hr.2 with ⟨rfl, _⟩ | ⟨g, cap, cur, rfl, hb, hgb, h1, h2, h3, h4⟩
  · simp [Value.ownBlock]
  · intro e
    obtain rfl : B = g := by simpa [Value.ownBlock] using e
    cases pre with
    | nil => have := h0 rfl; simp at this
    | cons x xs =>
      have c := (h.2.1 0 hl).1
      have d := World.ownsRow.cellAt hr 0 (by simp)
      rw [Nat.zero_mul, d] at c
      simp at c
theorem BI.own {n1 n0 T : Nat} {f K c : Int} {w : World} (hT : T < n1) (hn : n0 + 1 < n1) (hw : w.heap.size ≤ n1) : OwnFrom n1 (BI n1 n0 T f K c w) := by
  intro pre X Y row h hg hr
  obtain ⟨v, h1, h2, h3⟩ := h.tb
  have ne : ∀ b, b < n1 → some b ≠ row := fun b hb e => by have := (hr b e.symm).1; omega
  have hnc : ∀ r, row = some r → ∃ o : Obj, X.heap[r]? = some o ∧ o.isCells = false := fun r e => (hr r e).2
  refine ⟨⟨v, h1.block (hg.block T h1.lt (ne _ hT)), World.ownsRow.kept h2 hg ?_, h3⟩, fun x hx => lvM_own n1 n1 x X Y row (h.db x hx) hg hr, h.cb.kept hg (ne _ (by omega)), h.rb.block (hg.block _ h.rb.lt (ne _ hn)), h.bel.grown hg h.bel.size (fun k e => by have := (hr k e).1; omega), Nat.le_trans h.sz hg.size⟩
  rcases h2.2 with ⟨rfl, _⟩ | ⟨g, cap, cur, rfl, hb, hgb, _⟩
  · exact .inl rfl
  · refine .inr fun e => ?_
    obtain ⟨o, ho, hc⟩ := hnc g (by simpa [Value.ownBlock] using e.symm)
    rw [hgb] at ho; cases ho; cases hc
/-- One round: the level's header is appended. -/
theorem BI.step {n1 n0 T L F : Nat} {f K c : Int} {w W w2 : World} {pre : List Lv} {x : Lv} {v v' : Value} (h : BI n1 n0 T f K c w pre W) (hx : LvM n1 x W) (hTB : TBox T W f K c v) (hrow : W.ownsRow n1 22 1 v pre.length (pre.map lvV)) (h0 : pre = [] → v = .slice none 0 0)
    (hg : W.grownBy w2 v.ownBlock) (ho : w2.ownsRow n1 22 1 v' (pre.length + 1) (pre.map lvV ++ [lvV x])) (hT : T < n1) (hn : n0 + 1 < T) (hw : w.heap.size ≤ T) (hL : L < n1) (hF : F < n1) (hLT : L ≠ T) (hFT : F ≠ T) (hw0 : 0 < w.heap.size) (hwn : w.heap.size ≤ n1) :
    TBox T w2 f K c v ∧ KeepsFrom n1 W (w2.setCell ⟨T, 3, none⟩ v') ∧ LvK L F W (w2.setCell ⟨T, 3, none⟩ v') ∧ BI n1 n0 T f K c w (pre ++ [x]) (w2.setCell ⟨T, 3, none⟩ v') := by
  have b2 : TBox T w2 f K c v := hTB.block (hg.block T hTB.lt (not_row_of hrow T hT))
  have oth : ∀ b, b ≠ T → b < n1 → b < W.heap.size → (w2.setCell ⟨T, 3, none⟩ v').heap[b]? = W.heap[b]? := fun b hb h1 h2 => (Below.heap_setCell _ _ _ _ (fun e => hb e)).trans (hg.block b h2 (not_row_of hrow b h1))
  have hdb : ∀ B l, 0 < l.length → DB B W l → DB B (w2.setCell ⟨T, 3, none⟩ v') l := fun B l hl hd => by
    refine (hd.hdr hl hg hrow h0).kept (by simp [World.setCell]) (Below.heap_setCell _ _ _ _ ?_)
    intro e
    subst e
    have c0 := (hd.2.1 0 hl).1
    rw [hTB.cells.1] at c0
    simp at c0
  have hsz := h.sz
  refine ⟨b2, (keepsOthers_hdr hrow hg).from _, ⟨by have := hg.size; simpa [World.setCell] using this, hdb, oth L hLT hL (by omega), oth F hFT hF (by omega), oth 0 (by omega) (by omega) (by omega)⟩, ⟨v', b2.set v', ?_, fun e => absurd e (by simp)⟩, ?_, ?_, ?_, ?_, ?_⟩
  · rw [List.length_append, List.map_append]
    exact ho.kept (grownBy_setCell3 w2 T v') (.inr (fun e => not_row_of ho T hT e.symm))
  · intro y hy
    rcases List.mem_append.1 hy with hy | hy
    · obtain ⟨y1, y2, y3⟩ := h.db y hy
      exact ⟨hdb _ _ y2 y1, y2, y3⟩
    · obtain rfl : y = x := by simpa using hy
      exact ⟨hdb _ _ hx.2.1 hx.1, hx.2.1, hx.2.2⟩
  · exact (oth n0 (by omega) (by omega) h.cb.lt).trans h.cb
  · exact h.rb.block (oth (n0 + 1) (by omega) (by omega) h.rb.lt)
  · exact (h.bel.grown hg h.bel.size (fun k e => by
      rcases hrow.2 with ⟨rfl, _⟩ | ⟨g, cap, cur, rfl, hb, _⟩
      · simp [Value.ownBlock] at e
      · obtain rfl : g = k := by simpa [Value.ownBlock] using e
        omega)).setCell (p := ⟨T, 3, none⟩) hw v'
  · have := hg.size
    have e : (w2.setCell ⟨T, 3, none⟩ v').heap.size = w2.heap.size := by simp [World.setCell]
    omega
theorem TBox.store {T : Nat} {W : World} {f h c : Int} {v : Value} (b : TBox T W f h c v) (f' h' c' : Int) (v' : Value) : TBox T ((((W.setCell ⟨T, 0, none⟩ (.int .i64 f')).setCell ⟨T, 1, none⟩ (.int .i64 h')).setCell ⟨T, 2, none⟩ (.int .i64 c')).setCell ⟨T, 3, none⟩ v') f' h' c' v' := by
  have step : ∀ (X : World) (cs : Array Value) (k : Nat) (u : Value), X.heap[T]? = some (.cells cs 26 (0, 0)) → (X.setCell ⟨T, k, none⟩ u).heap[T]? = some (.cells (cs.setIfInBounds k u) 26 (0, 0)) := fun X cs k u hX => by
    obtain ⟨hlt, hk⟩ := Array.getElem?_eq_some_iff.1 hX
    show (X.heap.modify T _)[T]? = _
    rw [Array.getElem?_eq_getElem (by rw [Array.size_modify]; exact hlt), Array.getElem_modify_self, hk]
    rfl
  exact step _ _ 3 v' (step _ _ 2 _ (step _ _ 1 _ (step _ _ 0 _ b)))
theorem ap_t (T : Nat) (w : World) (a b c d : Value) : Ap T w ((((w.setCell ⟨T, 0, none⟩ a).setCell ⟨T, 1, none⟩ b).setCell ⟨T, 2, none⟩ c).setCell ⟨T, 3, none⟩ d) := ((((Ap.refl _ _).setCell _ _).setCell _ _).setCell _ _).setCell _ _
theorem TM.mono {n0 n1 : Nat} {w : World} {v : Value} {m : Nat} {F : Nat → List Dg} (h : TM n1 w v m F) (k : n0 ≤ n1) : TM n0 w v m F := by
  obtain ⟨g, cap, h1, h2, h3, h4, h5⟩ := h
  refine ⟨g, cap, h1, by omega, h3, h4, fun j hj => ?_⟩
  obtain ⟨B, c, e1, e2, e3, e4⟩ := h5 j hj
  exact ⟨B, c, e1, by omega, e3, e4⟩
/-- Another block turns, below n1 or one that holds no cells. -/
theorem TM.gb {n1 : Nat} {X Y : World} {v : Value} {m : Nat} {F : Nat → List Dg} {b : Nat} (h : TM n1 X v m F) (hm : 0 < m) (hF : ∀ j, j < m → 0 < (F j).length) (hg : X.grownBy Y (some b)) (hb : b < n1 ∨ ∃ o : Obj, X.heap[b]? = some o ∧ o.isCells = false) : TM n1 Y v m F := by
  obtain ⟨g, cap, h1, h2, h3, h4, h5⟩ := h
  have ne : ∀ k u, n1 ≤ k → X.cell? ⟨k, 0, none⟩ = some u → some k ≠ some b := fun k u hk hc e => by
    obtain rfl : k = b := by simpa using e
    rcases hb with hb | ⟨o, ho, hno⟩
    · omega
    · unfold World.cell? at hc
      rw [ho] at hc
      cases o <;> simp_all [Obj.isCells]
  obtain ⟨B0, c0, e0, _⟩ := h5 0 hm
  have hgk := hg.block g h3 (ne g _ h2 e0)
  refine ⟨g, cap, h1, h2, Nat.lt_of_lt_of_le h3 hg.size, fun j => (World.frozen?_of_block (a := ⟨g, j, none⟩) hgk).trans (h4 j), fun j hj => ?_⟩
  obtain ⟨B, c, e1, e2, e3, e4⟩ := h5 j hj
  exact ⟨B, c, (World.cell?_of_block (a := ⟨g, j, none⟩) hgk).trans e1, e2, e3, e4.kept hg.size (hg.block B e4.1 (ne B _ e2 (by have := (e4.2.1 0 (hF j hj)).1; rwa [Nat.zero_mul] at this)))⟩
theorem BI.tm {n1 n0 T : Nat} {f K c : Int} {w W : World} {pre : List Lv} {fl : Int} {l : List Dg} (h : BI n1 n0 T f K c w pre W) (hok : LvOk fl l pre) (hp : 0 < pre.length) :
    ∃ g cap, TBox T W f K c (.slice (some ⟨g, 0, none⟩) pre.length cap) ∧ TM n1 W (.slice (some ⟨g, 0, none⟩) pre.length cap) pre.length (lvl fl l) ∧ ∀ j, j < pre.length → 0 < (lvl fl l j).length := by
  obtain ⟨v, hv, hr, _⟩ := h.tb
  have hat : ∀ j, j < pre.length → ∃ x, pre[j]? = some x ∧ x ∈ pre ∧ x.2.2 = lvl fl l j := fun j hj => ⟨pre[j], List.getElem?_eq_getElem hj, List.getElem_mem hj, hok j _ (List.getElem?_eq_getElem hj)⟩
  rcases hr.2 with ⟨rfl, h0⟩ | ⟨g, cap, cur, rfl, hb, hgb, h1, h2, h3, h4⟩
  · omega
  have hcell : ∀ j x, pre[j]? = some x → W.cell? ⟨g, j, none⟩ = some (lvV x) := fun j x hx => by
    have hj := (List.getElem?_eq_some_iff.1 hx).1
    have := World.ownsRow.cellAt hr j (by simpa using hj)
    rw [this, List.getElem?_map, hx]; rfl
  refine ⟨g, cap, hv, ⟨g, cap, rfl, hb, (Array.getElem?_eq_some_iff.1 hgb).1, fun j => by simp [World.frozen?, hgb], fun j hj => ?_⟩, fun j hj => ?_⟩
  · obtain ⟨x, hx, hm, hl⟩ := hat j hj
    obtain ⟨d1, d2, d3⟩ := h.db x hm
    refine ⟨x.1, x.2.1, by rw [hcell j x hx, ← hl], d3, ?_, by rw [← hl]; exact d1⟩
    intro e
    obtain ⟨y, hy, _⟩ := hat 0 hp
    have c0 := hcell 0 y hy
    have c1 := (d1.2.1 0 d2).1
    rw [e, Nat.zero_mul, c0] at c1
    simp at c1
  · obtain ⟨x, hx, hm, hl⟩ := hat j hj
    rw [← hl]; exact (h.db x hm).2.1
theorem round_append_z {P : Program} {w w' : World} {ops : Array Oper} {rest : List Oper} {o : Oper} {a : Act} {Q : Exit → Act → World → Prop} {m lo : Nat} (hgd : o.guard = none) (s x : Operand) (t u : TypeId)
    (ho : o.op = .call { callee := .builtin .append, args := #[s, x], argTypes := #[t, u] }) (vs vx v' : Value) (hs : a.eval s = vs) (hx : a.eval x = vx) (hrun : ∀ ty, (Builtin.append_ #[t, u] ty #[vs, vx]).run P w = .ok v' w')
    (h : wpListIn (Fence.wide.inRound lo) m P ops Q rest (a.put o.dst v') w') : wpListIn (Fence.wide.inRound lo) m P ops Q (o :: rest) a w :=
  wpListIn_plain hgd fun K hK => by
    refine ⟨fun _ _ => trivial, ?_⟩
    rw [Oper.semAt_eq _ _ _ (by rw [ho]; intro c h; cases h)]
    unfold execOp
    simp only [ho, resolve, invoke, builtin, Sem.run_bind, Sem.run_pure, Result.andThen_ok, List.map_toArray, List.map_cons, List.map_nil, hs, hx, hrun]
    exact hK _ _ h
set_option maxRecDepth 100000 in
set_option maxHeartbeats 2000000 in
theorem build_yes (f : Int) (l : List Dg) (v : Value) (K c : Nat) (w : World) (hT : TZ w) (hv : validB f = true) (hK : K ≤ 18) (hlen : l.length = 2 ^ K) (hc : c ≤ K) (hok : okA f l = true) (hR : DR w v l) :
    Calls Tryd.prog 13 #[.int .i64 f, v, .int .i64 (c : Int)] w fun e w' =>
      (∃ v', e = .returned (.tuple #[.agg #[.int .i64 f, .int .i64 (K : Int), .int .i64 (c : Int), v'], .int .i64 0]) ∧ TM w.heap.size w' v' (K - c + 1) (lvl f l)) ∧ On w w' := by
  obtain ⟨a, cap, rfl⟩ := hR.shape
  refine (callsIn_wide (n := 10)).1 ?_
  have HV := Lib.hid hv
  have HX : Hid (∀ w', On w w' → Calls Tryd.prog 37 #[.int .i64 (l.length : Int)] w' fun e w'' => e = .returned (.tuple #[.int .i64 (K : Int), .bool true]) ∧ w' = w'') := fun w' h => exponent_some K l.length w' (hT.on h) hK hlen
  have HP : Hid (∀ w', On w w' → Calls Tryd.prog 39 #[.int .i64 f, .slice a l.length cap] w' fun e w'' => e = .returned (.bool true) ∧ On w' w'') := fun w' h => by
    have k := proper_any f l _ w' h.tab (hR.on h)
    rw [hok] at k; exact k
  have HO2 : Hid (∀ o1 o2, On w ((w.alloc o1).alloc o2)) := fun o1 o2 => ((On.refl hT.1).alloc o1).alloc o2
  have HT := Lib.hid hT
  have HR := Lib.hid hR
  have HCB : Hid (Boxed ((w.alloc (.cells #[.int .i64 (c : Int)] 3)).alloc (.cells #[.int .i64 0, .int .i64 0, .int .i64 0, .slice none 0 0] 26)) w.heap.size 3 (.int .i64 (c : Int))) := Boxed.alloc (Boxed.new w _ _) _
  have HRB : Hid (TBox (w.heap.size + 1) ((w.alloc (.cells #[.int .i64 (c : Int)] 3)).alloc (.cells #[.int .i64 0, .int .i64 0, .int .i64 0, .slice none 0 0] 26)) 0 0 0 (.slice none 0 0)) := by
    have h := TBox.new (w.alloc (.cells #[.int .i64 (c : Int)] 3)) 0 0 0 (.slice none 0 0)
    rw [World.size_alloc] at h; exact h
  have HLEN := Lib.hid hlen
  have HOK := Lib.hid hok
  have hc0 : ¬ (c : Int) < 0 := by omega
  have hck : ¬ (K : Int) < (c : Int) := by omega
  have hcd : decide ((c : Int) < 0) = false := decide_eq_false hc0
  clear hT hv hlen hok hR
  refine callsIn_of_wp_marks Tryd.func13 rfl trivial ?_ rfl
  simp only [Tryd.ntmps13, List.size_toArray, List.length_cons, List.length_nil, Nat.reduceAdd, Nat.reduceSub, Array.replicate_succ, Array.replicate_zero, List.push_toArray, List.append_toArray, List.nil_append, List.cons_append]
  gi_wp2_with (first
    | (refine ⟨trivial, ?_⟩; gi_at_call 37; refine (callsIn_wide.2 (HX.out _ (HO2.out _ _))).mono ?_; rintro e w' ⟨rfl, rfl⟩)
    | (refine ⟨trivial, ?_⟩; gi_at_call 38; refine (callsIn_wide.2 (valid_any _ _)).mono ?_; rintro e w' ⟨rfl, rfl⟩; rw [HV.out])
    | (refine ⟨trivial, ?_⟩; gi_at_call 39; refine (callsIn_wide.2 (HP.out _ (HO2.out _ _))).mono ?_; rintro e w1 ⟨rfl, hO1⟩; have HO1 := Lib.hid hO1; have hcc := (box_on' HCB.out hO1).cell; clear hO1)
    | (refine ⟨trivial, ?_⟩; gi_at_call 40; refine (callsIn_wide.2 (upward_sl _ _ _ _ _)).mono ?_; rintro e w2 ⟨rfl, rfl⟩))
  have HB0 : Hid (On w1 (((w1.alloc (.cells #[.int .i64 f, .int .i64 (K : Int), .int .i64 (c : Int), .slice none 0 0] 26)).alloc (.cells #[.int .i64 f] 3)).alloc (.cells #[.slice a l.length cap] 22))) := (((On.refl HO1.out.tab).alloc _).alloc _).alloc _
  have HTB : Hid (TBox w1.heap.size (((w1.alloc (.cells #[.int .i64 f, .int .i64 (K : Int), .int .i64 (c : Int), .slice none 0 0] 26)).alloc (.cells #[.int .i64 f] 3)).alloc (.cells #[.slice a l.length cap] 22)) f K c (.slice none 0 0)) := (TBox.new w1 f K c (.slice none 0 0)).on (((On.refl ((On.refl HO1.out.tab).alloc _).tab).alloc _).alloc _)
  have HFB : Hid (Boxed (((w1.alloc (.cells #[.int .i64 f, .int .i64 (K : Int), .int .i64 (c : Int), .slice none 0 0] 26)).alloc (.cells #[.int .i64 f] 3)).alloc (.cells #[.slice a l.length cap] 22)) (w1.heap.size + 1) 3 (.int .i64 f)) := by
    have h := Boxed.new (w1.alloc (.cells #[.int .i64 f, .int .i64 (K : Int), .int .i64 (c : Int), .slice none 0 0] 26)) 3 (.int .i64 f)
    rw [World.size_alloc] at h; exact h.alloc _
  have HLB : Hid (Boxed (((w1.alloc (.cells #[.int .i64 f, .int .i64 (K : Int), .int .i64 (c : Int), .slice none 0 0] 26)).alloc (.cells #[.int .i64 f] 3)).alloc (.cells #[.slice a l.length cap] 22)) (w1.heap.size + 1 + 1) 22 (.slice a l.length cap)) := by
    have h := Boxed.new ((w1.alloc (.cells #[.int .i64 f, .int .i64 (K : Int), .int .i64 (c : Int), .slice none 0 0] 26)).alloc (.cells #[.int .i64 f] 3)) 22 (.slice a l.length cap)
    rw [World.size_alloc, World.size_alloc] at h; exact h
  have HSZ : Hid ((((w1.alloc (.cells #[.int .i64 f, .int .i64 (K : Int), .int .i64 (c : Int), .slice none 0 0] 26)).alloc (.cells #[.int .i64 f] 3)).alloc (.cells #[.slice a l.length cap] 22)).heap.size = w1.heap.size + 1 + 1 + 1) := by refine Lib.hid ?_; simp
  generalize (((w1.alloc (.cells #[.int .i64 f, .int .i64 (K : Int), .int .i64 (c : Int), .slice none 0 0] 26)).alloc (.cells #[.int .i64 f] 3)).alloc (.cells #[.slice a l.length cap] 22)) = W0 at *
  have HOW : Hid (On w W0) := ((HO2.out _ _).trans HO1.out).trans HB0.out
  have HCB0 := Lib.hid (box_on' (box_on' HCB.out HO1.out) HB0.out)
  have HRB0 := Lib.hid ((HRB.out.on HO1.out).on HB0.out)
  have hT2 : w.heap.size + 1 < w1.heap.size := (HRB.out.on HO1.out).lt
  obtain ⟨T, hTe⟩ : ∃ T, T = w1.heap.size := ⟨_, rfl⟩
  obtain ⟨n0, hn0⟩ : ∃ n0, n0 = w.heap.size := ⟨_, rfl⟩
  rw [← hTe] at HTB HFB HLB HSZ hT2 ⊢
  rw [← hn0] at HCB0 HRB0 hT2 ⊢
  have HN0 := Lib.hid hn0
  have hwpos := HT.out.1.size
  rw [← hn0] at hwpos
  clear hTe hn0 HB0 HO1 HCB HRB HX HP HO2 hcc
  obtain ⟨n1, hn1⟩ : ∃ n1, n1 = W0.heap.size := ⟨_, rfl⟩
  have HN1 := Lib.hid hn1
  have hn1T : n1 = T + 1 + 1 + 1 := by rw [hn1]; exact HSZ.out
  have HN1T := Lib.hid hn1T
  clear hn1 hn1T HSZ
  have HI0 : Hid (BI n1 n0 T f K c w [] W0) := ⟨⟨_, HTB.out, World.ownsRow_nil _ _ _ _, fun _ => rfl⟩, fun x hx => (by simp at hx), HCB0.out, HRB0.out, HOW.out.2, by rw [HN1.out]; exact Nat.le_refl _⟩
  refine range_mem (F := Fence.wide) (n := 10) (P := Tryd.prog) 0 rfl (by omega) (gf := 60) (lb := #[.pointer (some ⟨T + 1 + 1, 0, none⟩), .pointer (some ⟨T + 1, 0, none⟩)]) rfl trivial (enters_of Tryd.func60 (by kernel_rfl) rfl)
    (encs := fun x : Lv => #[lvV x]) (M := LvM n1) (Kp := LvK (T + 1 + 1) (T + 1)) (S := fun xs => LvOk f l xs ∧ xs.length = K + 1) (Sp := fun pre => LvOk f l pre ∧ pre.length ≤ K + 1) (C := 19)
    ?seq (fun h k => h.trans k) ?kb (fun _ => rfl) (fun pre W => BI n1 n0 T f K c w pre W ∧ ∀ x ∈ pre, x.2.2.length ≠ 2 ^ c) (fun pre W => BI n1 n0 T f K c w pre W ∧ ∃ (p : List Lv) (x : Lv), pre = p ++ [x] ∧ (∀ y ∈ p, y.2.2.length ≠ 2 ^ c) ∧ x.2.2.length = 2 ^ c)
    ?ownI ?ownX ?ownM ⟨HI0.out, fun x hx => (by simp at hx)⟩ (fun x => { tmps := #[.int .i64 f, .slice a l.length cap, .int .i64 (c : Int), undef, undef, .pointer (some ⟨n0, 0, none⟩), .pointer (some ⟨n0 + 1, 0, none⟩), .int .i64 0,
          .int .i64 (K : Int), .bool true, .pointer (some ⟨T, 0, none⟩), lvV x, .tuple #[.int .i64 (K : Int), .bool true], .slice a l.length cap, .int .i64 (l.length : Int), .tuple #[.int .i64 (K : Int), .bool true],
          .int .i64 (K : Int), .bool true, .bool true, .bool false, .bool false, .int .i64 f, .bool true, .bool false, .bool false, .bool false, .int .i64 (c : Int), .bool false, .bool false, .bool false, .int .i64 (c : Int),
          .int .i64 (K : Int), .bool false, .bool false, undef, .int .i64 f, .slice a l.length cap, .bool true, .bool false, undef, .int .i64 f, .int .i64 (K : Int), .int .i64 (c : Int),
          .agg #[.int .i64 f, .int .i64 (K : Int), .int .i64 (c : Int), .slice none 0 0], .int .i64 f, .slice a l.length cap, .func (.func 60) #[] #[.pointer (some ⟨T + 1 + 1, 0, none⟩), .pointer (some ⟨T + 1, 0, none⟩)], lvV x,
          undef, undef, undef, undef, undef, undef, undef, undef, undef, undef, undef, undef], defers := [] }) ?assign ?body ?done ?stop
  case seq =>
    intro i J Jx W hW aJ _ hY h0
    have hb : ∀ b, b < W0.heap.size → W.heap[b]? = W0.heap[b]? := fun b hb => hW.block b hb
    have h1 : T + 1 + 1 < W0.heap.size := HLB.out.lt
    have hOW : On W0 W := ⟨HOW.out.tab, hW⟩
    exact up_in 9 f l _ K hK HLEN.out (T + 1 + 1) (T + 1) i n1 J Jx W hOW.tab (HR.out.on (HOW.out.trans hOW)) (box_on' HLB.out hOW) (box_on' HFB.out hOW) (by rw [HN1.out]; exact hW.size) (Nat.lt_of_lt_of_le h1 hW.size) (Nat.lt_of_lt_of_le (by omega) hW.size) aJ hY h0
  case kb =>
    intro W i o o' hl ho hc _
    rw [← HN1.out] at hl
    have h3 := HN1T.out
    refine ⟨by simp [World.putObj], fun B l hl' hd => ?_, World.putObj_heap_other (by omega), World.putObj_heap_other (by omega), World.putObj_heap_other (by omega)⟩
    exact hd.gb hl' (grownBy_putObj' W i o') (fun r e => by cases e; exact ⟨o, ho, hc⟩)
  case ownI =>
    rw [← HN1.out]
    intro pre X Y row h hg hr
    have h3 := HN1T.out
    exact ⟨BI.own (by omega) (by omega) (by have := HN0.out; omega) pre X Y row h.1 hg hr, h.2⟩
  case ownX =>
    rw [← HN1.out]
    intro pre X Y row h hg hr
    have h3 := HN1T.out
    exact ⟨BI.own (by omega) (by omega) (by have := HN0.out; omega) pre X Y row h.1 hg hr, h.2⟩
  case ownM => exact lvM_own _ _
  case assign =>
    intro i x W k hk
    gi_wp2
    exact hk
  case body =>
    intro i pre x W ⟨hB, hnb⟩ hx hPL
    obtain ⟨v, hTv, hrow, hv0⟩ := hB.tb
    have hpl : (pre.map lvV).length = pre.length := by simp
    obtain ⟨av, cv, rfl⟩ := ownsRow_sl hrow hpl
    obtain ⟨B, cc, ls⟩ := x
    obtain ⟨v', w2, hrun, ho, hg⟩ := append_hdr (m := pre.length) hrow hpl hB.sz (by omega) (some ⟨B, 0, none⟩) ls.length cc W.heap.size rfl
    obtain ⟨gg, cg, rfl⟩ := ownsRow_succ ho
    have h3 := HN1T.out
    obtain ⟨b2, hk1, hk2, hB2⟩ := hB.step (L := T + 1 + 1) (F := T + 1) hx hTv hrow hv0 hg ho (by omega) hT2 (by have := HN0.out; omega) (by omega) (by omega) (by omega) (by omega) (by rw [← HN0.out]; exact hwpos) (by have := HN0.out; omega)
    have HB2 := Lib.hid hB2; have HK1 := Lib.hid hk1; have HK2 := Lib.hid hk2
    have hc3 := hTv.cells.2.2.2
    have hd3 := b2.cells.2.2.2
    have hf3 := b2.free 3
    have HRUN := Lib.hid hrun
    have hcc := hB2.cb.cell
    have HNB := Lib.hid hnb
    clear hTv hrow hv0 ho hg b2 hB hk1 hk2 hB2 hrun hpl h3 hnb hx
    obtain ⟨q, hqe⟩ : ∃ q, q = 2 ^ c := ⟨_, rfl⟩
    have hsh : wrap64 ((2 : Int) ^ c) = (q : Int) := by
      have h1 : 2 ^ c ≤ 2 ^ 18 := Nat.pow_le_pow_right (by omega) (by omega)
      have h2 : ((2 : Int) ^ c) = ((2 ^ c : Nat) : Int) := by simp
      rw [h2, ← hqe]
      have h3 : (2 : Nat) ^ 18 = 262144 := by decide
      unfold wrap64; omega
    have HQ := Lib.hid hqe
    clear hqe
    by_cases hq : ls.length = q
    · have HQ2 := Lib.hid hq
      have hqb : (((ls.length : Nat) : Int) == (q : Int)) = true := by simp; omega
      clear hq
      gi_wp2_with (gi_at_builtin; refine round_append_z rfl (.tmp 49) (.tmp 51) _ _ rfl _ _ _ rfl rfl HRUN.out ?_)
      exact ⟨rfl, by rw [← HN1.out]; exact HK1.out, HB2.out, _, _, rfl, HNB.out, by rw [← HQ.out]; exact HQ2.out⟩
    · have HQ2 := Lib.hid hq
      have hqb : (((ls.length : Nat) : Int) == (q : Int)) = false := by simp; omega
      clear hq
      gi_wp2_with (gi_at_builtin; refine round_append_z rfl (.tmp 49) (.tmp 51) _ _ rfl _ _ _ rfl rfl HRUN.out ?_)
      refine ⟨by rw [← HN1.out]; exact HK1.out, HK2.out, HB2.out, fun y hy => ?_⟩
      rcases List.mem_append.1 hy with hy | hy
      · exact HNB.out y hy
      · obtain rfl : y = (B, cc, ls) := by simpa using hy
        rw [← HQ.out]; exact HQ2.out
  case done =>
    rintro D xs W hD ⟨hok, hlx⟩ ⟨hB, hnb⟩ hD2
    exfalso
    have hj : K - c < xs.length := by omega
    refine hnb xs[K - c] (List.getElem_mem hj) ?_
    rw [hok (K - c) _ (List.getElem?_eq_getElem hj), lvl_len f l K HLEN.out _ (by omega), show K - (K - c) = c by omega]
  case stop =>
    rintro D pre W hD ⟨hok, hpl⟩ ⟨hB, p, x, rfl, hnb, hx⟩ hD2
    have hpK : p.length ≤ K := by rw [List.length_append] at hpl; simp at hpl; exact hpl
    have hpc : p.length = K - c := by
      have e := hok p.length x (by rw [List.getElem?_append_right (Nat.le_refl _), Nat.sub_self]; rfl)
      rw [e, lvl_len f l K HLEN.out _ hpK] at hx
      have := Nat.pow_right_injective_z hx
      omega
    have hm : (p ++ [x]).length = K - c + 1 := by rw [List.length_append, hpc]; rfl
    obtain ⟨g, cp, hTB, hTM, hpos⟩ := hB.tm hok (by rw [hm]; omega)
    rw [hm] at hTB hTM hpos
    obtain ⟨t0, t1, t2, t3⟩ := hTB.cells
    have hRB := hB.rb
    have hbel := hB.bel
    obtain ⟨r0, r1, r2, r3⟩ := hRB.cells
    have f0 := hRB.free 0; have f1 := hRB.free 1; have f2 := hRB.free 2; have f3 := hRB.free 3
    have HRB := Lib.hid hRB; have HTM := Lib.hid hTM; have HPOS := Lib.hid hpos; have HBEL := Lib.hid hbel
    have HD := Lib.hid hD; have HD2 := Lib.hid hD2
    clear hRB hTM hpos hTB hB hok hpl hnb hx hpc hm hbel hD hD2 hpK
    have h3 := HN1T.out
    have hRz : TBox (n0 + 1) ((((W.setCell ⟨n0 + 1, 0, none⟩ (.int .i64 f)).setCell ⟨n0 + 1, 1, none⟩ (.int .i64 (K : Int))).setCell ⟨n0 + 1, 2, none⟩ (.int .i64 (c : Int))).setCell ⟨n0 + 1, 3, none⟩ (.slice (some ⟨g, 0, none⟩) (K - c + 1) cp)) f K c (.slice (some ⟨g, 0, none⟩) (K - c + 1) cp) := HRB.out.store f K c (.slice (some ⟨g, 0, none⟩) (K - c + 1) cp)
    have hAP : Ap (n0 + 1) W ((((W.setCell ⟨n0 + 1, 0, none⟩ (.int .i64 f)).setCell ⟨n0 + 1, 1, none⟩ (.int .i64 (K : Int))).setCell ⟨n0 + 1, 2, none⟩ (.int .i64 (c : Int))).setCell ⟨n0 + 1, 3, none⟩ (.slice (some ⟨g, 0, none⟩) (K - c + 1) cp)) := ap_t _ _ _ _ _ _
    have hTz : TM n1 ((((W.setCell ⟨n0 + 1, 0, none⟩ (.int .i64 f)).setCell ⟨n0 + 1, 1, none⟩ (.int .i64 (K : Int))).setCell ⟨n0 + 1, 2, none⟩ (.int .i64 (c : Int))).setCell ⟨n0 + 1, 3, none⟩ (.slice (some ⟨g, 0, none⟩) (K - c + 1) cp)) (.slice (some ⟨g, 0, none⟩) (K - c + 1) cp) (K - c + 1) (lvl f l) := HTM.out.gb (by omega) HPOS.out hAP (.inl (by omega))
    have hDz : (((((W.setCell ⟨n0 + 1, 0, none⟩ (.int .i64 f)).setCell ⟨n0 + 1, 1, none⟩ (.int .i64 (K : Int))).setCell ⟨n0 + 1, 2, none⟩ (.int .i64 (c : Int))).setCell ⟨n0 + 1, 3, none⟩ (.slice (some ⟨g, 0, none⟩) (K - c + 1) cp))).heap[D]? = some (.deferred (some [])) := (hAP.block D (Array.getElem?_eq_some_iff.1 HD2.out).1 (by have := HD.out; have := HN1.out; simp; omega)).trans HD2.out
    have hBz : Below w.heap.size w ((((W.setCell ⟨n0 + 1, 0, none⟩ (.int .i64 f)).setCell ⟨n0 + 1, 1, none⟩ (.int .i64 (K : Int))).setCell ⟨n0 + 1, 2, none⟩ (.int .i64 (c : Int))).setCell ⟨n0 + 1, 3, none⟩ (.slice (some ⟨g, 0, none⟩) (K - c + 1) cp)) := HBEL.out.grown hAP HBEL.out.size (fun k e => by cases e; have := HN0.out; omega)
    have HRz := Lib.hid hRz; have HTz := Lib.hid hTz; have HDz := Lib.hid hDz; have HBz := Lib.hid hBz
    clear hRz hAP hTz hDz hBz
    gi_wp2
    generalize ((((W.setCell ⟨n0 + 1, 0, none⟩ (.int .i64 f)).setCell ⟨n0 + 1, 1, none⟩ (.int .i64 (K : Int))).setCell ⟨n0 + 1, 2, none⟩ (.int .i64 (c : Int))).setCell ⟨n0 + 1, 3, none⟩ (.slice (some ⟨g, 0, none⟩) (K - c + 1) cp)) = W5 at *
    refine ⟨by simp, .inl ⟨_, _, rfl, run_takeDeferred HDz.out, ?_⟩⟩
    have hR6 : TBox (n0 + 1) (W5.putObj D (.deferred none)) f K c (.slice (some ⟨g, 0, none⟩) (K - c + 1) cp) := HRz.out.block (World.putObj_heap_other (by have := HD.out; have := HN1.out; omega))
    obtain ⟨q0, q1, q2, q3⟩ := hR6.cells
    refine ⟨.tuple #[.agg #[.int .i64 f, .int .i64 (K : Int), .int .i64 (c : Int), (.slice (some ⟨g, 0, none⟩) (K - c + 1) cp)], .int .i64 0], ?_, ⟨_, rfl, ?_⟩, HT.out.1, ?_⟩
    · simp [results, Tryd.results13, go_sem, q0, q1, q2, q3]
    · exact (HTz.out.gb (by omega) HPOS.out (grownBy_putObj' W5 D (.deferred none)) (.inr ⟨_, HDz.out, rfl⟩)).mono (by have := HN0.out; omega)
    · exact HBz.out.trans (belowK_b (w := w) (Nat.le_refl _) _ D _ _ (by have := HD.out; have := HN1.out; have := HN0.out; omega) HDz.out rfl rfl)
end Go.Proofs.YtnmfneeojnmebaaDoor
