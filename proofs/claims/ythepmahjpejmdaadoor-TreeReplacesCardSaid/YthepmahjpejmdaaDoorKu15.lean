/- Package tree: nodes, Clone, climber and the closure that it makes: what each call returns. -/
import Derived.Test.YthepmahjpejmdaaDoorKu13
import Derived.Deep.CutBlock
import Derived.Laws.Cover3
import Derived.Test.YthepmahjpejmdaaDoorKu04
import Derived.RangeFuncBox
import Derived.Deep.RegionWith
import Derived.Test.YthepmahjpejmdaaDoorKu14
set_option linter.unusedSimpArgs false
set_option linter.unusedVariables false
/- Package tree: nodes, Clone, climber and the closure that it makes: what each call returns. -/
namespace Go.Proofs.YthepmahjpejmdaaDoor
open Go.RowKit
set_option linter.unusedVariables false

theorem ext_dg {l m : List Dg} (h : l.length = m.length) (e : ∀ j, j < m.length → l.getD j zD = m.getD j zD) : l = m := by
  refine List.ext_getElem h fun j h1 h2 => ?_
  have := e j h2
  rw [List.getD_eq_getElem?_getD, List.getD_eq_getElem?_getD, List.getElem?_eq_getElem h1, List.getElem?_eq_getElem h2] at this
  exact this
set_option maxHeartbeats 1000000 in
set_option maxRecDepth 100000 in
theorem nodes_any (f : Int) (l : List Dg) (v : Value) (w : World) (hT : Tab w) (hR : DR w v l) (hl : l.length ≤ 1000000) :
    Calls Tryd.prog 41 #[.int .i64 f, v] w fun e w' => e = .returned (.slice (some ⟨w.heap.size, 0, none⟩) (l.length / 2) (l.length / 2)) ∧ DB w.heap.size w' (upD f l) ∧ On w w' := by
  obtain ⟨a, cap, rfl⟩ := hR.shape
  obtain ⟨m, hm⟩ : ∃ m, m = l.length / 2 := ⟨_, rfl⟩
  have HU : Hid (∀ j, j < m → (upD f l).getD j zD = nodeF f (l.getD (2 * j) zD) (l.getD (2 * j + 1) zD)) := fun j hj => upD_get f l j (by omega)
  have HUL : Hid ((upD f l).length = m) := by have := upD_len f l; rw [← hm] at this; exact this
  have hdiv : (l.length : Int) / 2 = (m : Int) := by omega
  have hml : 2 * m ≤ l.length := by omega
  have hm6 : m ≤ 1000000 := by omega
  have hmk := make_dg m (by omega) w
  have HM : Hid (DB w.heap.size (w.alloc (.cells (madeCells #[.int .u64 0, .int .u64 0] (m * 2)) 36)) (List.replicate m zD)) := db_made w m _ rfl
  have HO0 : Hid (On w (w.alloc (.cells (madeCells #[.int .u64 0, .int .u64 0] (m * 2)) 36))) := (On.refl hT).alloc _
  have HR := Lib.hid hR
  have HN : Hid (∀ (j : Nat) (w' : World), On w w' → j < m → Calls Tryd.prog 36 #[.int .i64 f, .slice a l.length cap, .int .i64 (j : Int)] w' fun e w'' => e = .returned (dgV (nodeF f (l.getD (2 * j) zD) (l.getD (2 * j + 1) zD))) ∧ On w' w'') := fun j w' h hj =>
    nodeOver_any f l _ j w' h.tab (hR.on h) (by omega)
  rw [← hm]
  have hdw : IntKind.i64.wrap (m : Int) = (m : Int) := by rw [IntKind.wrap_i64]; omega
  clear hT hR hm hl
  go_enter Tryd.func41, Tryd.ntmps41
  go_wp2_with fail
  obtain ⟨B, hB⟩ : ∃ B, B = w.heap.size := ⟨_, rfl⟩
  have HB := Lib.hid hB
  rw [← hB] at HM ⊢
  clear hB hmk
  generalize (w.alloc (.cells (madeCells #[.int .u64 0, .int .u64 0] (m * 2)) 36)) = w0 at *
  go_loopw [13] (fun vi wr => ∃ (k : Nat) (o : List Dg), k ≤ m ∧ vi = .int .i64 (k : Int) ∧ Hid (o.length = m ∧ ∀ j, j < k → o.getD j zD = (upD f l).getD j zD) ∧ Hid (DB B wr o) ∧ Hid (On w wr)) (fun vi _ => m - (intOf vi).toNat)
  case atStart => exact ⟨0, _, Nat.zero_le _, rfl, ⟨by simp, fun j hj => by omega⟩, HM, HO0⟩
  case round =>
    obtain ⟨k, o, hk, rfl, HK, HD, HO⟩ := hrel
    by_cases hlt : k < m
    · have hlt' : (k : Int) < (m : Int) := by omega
      have HC := Lib.hid (HN.out k wr HO.out hlt)
      obtain ⟨X, hX⟩ : ∃ X, X = nodeF f (l.getD (2 * k) zD) (l.getD (2 * k + 1) zD) := ⟨_, rfl⟩
      rw [← hX] at HC
      have HX := Lib.hid hX
      clear hX
      go_wp2_with fail
      with_reducible refine HC.out.mono ?_
      rintro e w1 ⟨rfl, hO1⟩
      have HD1 := Lib.hid (HD.out.on hO1)
      have HO1 := Lib.hid (HO.out.trans hO1)
      obtain ⟨c0, c1⟩ := HD1.out.2.1 k (by rw [HK.out.1]; exact hlt)
      have f0 := HD1.out.2.2 (k * 2)
      have f1 := HD1.out.2.2 (k * 2 + 1)
      have c1' : (w1.setCell ⟨B, k * 2, none⟩ (.int .u64 ((X.1 : Nat) : Int))).cell? ⟨B, k * 2 + 1, none⟩ = _ := (World.cell?_setCell_other (h := fun e' => by have := congrArg Addr.off e'; simp at this) ..).trans c1
      have HD2 := Lib.hid (HD1.out.set k X (by rw [HK.out.1]; exact hlt))
      have HO2 : Hid (On w ((w1.setCell ⟨B, k * 2, none⟩ (.int .u64 ((X.1 : Nat) : Int))).setCell ⟨B, k * 2 + 1, none⟩ (.int .u64 ((X.2 : Nat) : Int)))) := (HO1.out.setCell (by rw [← HB.out]; exact Nat.le_refl _) _).setCell (by rw [← HB.out]; exact Nat.le_refl _) _
      have HK2 : Hid ((o.set k X).length = m ∧ ∀ j, j < k + 1 → (o.set k X).getD j zD = (upD f l).getD j zD) := ⟨by rw [List.length_set]; exact HK.out.1, fun j hj => by
        rw [getD_setD o k X j (by rw [HK.out.1]; exact hlt)]
        by_cases e : j = k
        · subst e; rw [if_pos rfl, HU.out j hlt]; exact HX.out
        · rw [if_neg e]; exact HK.out.2 j (by omega)⟩
      clear HC HD HO HK HX hO1
      go_wp2
      go_roundw
      case rel => exact ⟨k + 1, _, by omega, by simp, HK2, HD2, HO2⟩
      case measure => simp [intOf]; omega
    · obtain rfl : k = m := by omega
      have HE : Hid (DB B wr (upD f l)) := HD.out.eq (ext_dg (l := o) (m := upD f l) (by rw [HK.out.1, HUL.out]) (fun j hj => HK.out.2 j (by rw [HUL.out] at hj; exact hj)))
      clear HK HD
      go_wp2
      go_ret
      rw [← HB.out]
      exact ⟨rfl, HE.out, HO.out⟩
set_option maxHeartbeats 1000000 in
set_option maxRecDepth 100000 in
theorem clone_any (l : List Dg) (v : Value) (w : World) (hT : Tab w) (hR : DR w v l) (h0 : 0 < l.length) (hl : l.length ≤ 1000000) :
    Calls Tryd.prog 31 #[v] w fun e w' => (∃ B c, e = .returned (.slice (some ⟨B, 0, none⟩) l.length c) ∧ w.heap.size ≤ B ∧ DB B w' l) ∧ On w w' := by
  obtain ⟨a, cap, rfl⟩ := hR.shape
  obtain ⟨b, off, rfl, -⟩ := hR.cells 0 h0
  have HT := Lib.hid hT
  have HR : Hid (∀ o, ∃ c' w', (∀ ty, (Builtin.append_ #[22, 22] ty #[.slice (some ⟨w.heap.size, 0, none⟩) 0 0, .slice (some ⟨b, off, none⟩) l.length cap]).run Tryd.prog (w.alloc o) = .ok (.slice (some ⟨(w.alloc o).heap.size, 0, none⟩) l.length c') w') ∧
      DB (w.alloc o).heap.size w' l ∧ On (w.alloc o) w') := fun o => clone_run (w.alloc o) ((On.refl hT).alloc o).tab b off cap l (hR.on ((On.refl hT).alloc o)) h0 (by omega) _
  clear hT hR h0 hl
  have hne : (binOp BinOp.eql 22 (.slice (some ⟨b, off, none⟩) l.length cap) (.slice none 0 0)).run Tryd.prog w = .ok (.bool false) w := by
    simp only [binOp]
    simp [run_equal_slice_nil w _ _ (some ⟨b, off, none⟩) l.length cap Tryd.underlying22]
  go_enter Tryd.func31, Tryd.ntmps31
  obtain ⟨c', w', hrun, hD, hO⟩ := HR.out (.cells #[] 36)
  have HRUN := Lib.hid hrun
  have HD := Lib.hid hD
  have HO := Lib.hid hO
  have HO0 : Hid (On w (w.alloc (.cells #[] 36))) := (On.refl HT.out).alloc _
  clear hrun hD hO HR
  go_wp2_with (at_builtin; refine wp_append2 rfl (.tmp 5) (.tmp 6) _ _ rfl _ _ _ rfl rfl HRUN.out ?_)
  go_ret
  exact ⟨⟨_, _, rfl, by simp, by simpa using HD.out⟩, HO0.out.trans HO.out⟩

/-- All blocks of w but X and I are as they were. -/
structure K2 (X I : Nat) (w w' : World) : Prop where
  os : w'.os = w.os
  tape : w'.tape = w.tape
  output : w'.output = w.output
  size : w.heap.size ≤ w'.heap.size
  block : ∀ k, k < w.heap.size → k ≠ X → k ≠ I → w'.heap[k]? = w.heap[k]?
theorem K2.refl (X I : Nat) (w : World) : K2 X I w w := ⟨rfl, rfl, rfl, Nat.le_refl _, fun _ _ _ _ => rfl⟩
theorem K2.trans {X I : Nat} {u v w : World} (h : K2 X I u v) (k : K2 X I v w) : K2 X I u w :=
  ⟨k.os.trans h.os, k.tape.trans h.tape, k.output.trans h.output, Nat.le_trans h.size k.size, fun i hi h1 h2 => (k.block i (Nat.lt_of_lt_of_le hi h.size) h1 h2).trans (h.block i hi h1 h2)⟩
theorem K2.on {X I : Nat} {u v w : World} (h : K2 X I u v) (k : On v w) : K2 X I u w :=
  h.trans ⟨k.2.os, k.2.tape, k.2.output, k.2.size, fun i hi _ _ => k.2.block i hi⟩
theorem K2.left {X I : Nat} {w w' : World} (h : K2 X I w w') (o : Nat) (u : Value) : K2 X I w (w'.setCell ⟨X, o, none⟩ u) :=
  h.trans ⟨rfl, rfl, rfl, by simp [World.setCell], fun k _ hb _ => Below.heap_setCell _ _ _ _ (fun e => hb (by rw [e]))⟩
theorem K2.right {X I : Nat} {w w' : World} (h : K2 X I w w') (o : Nat) (u : Value) : K2 X I w (w'.setCell ⟨I, o, none⟩ u) :=
  h.trans ⟨rfl, rfl, rfl, by simp [World.setCell], fun k _ _ hb => Below.heap_setCell _ _ _ _ (fun e => hb (by rw [e]))⟩
theorem K2.new {X I : Nat} {w w' : World} (h : K2 X I w w') (p : Addr) (hp : w.heap.size ≤ p.block) (u : Value) : K2 X I w (w'.setCell p u) :=
  ⟨h.os, h.tape, h.output, by have := h.size; simpa [World.setCell] using this, fun k hk h1 h2 => (Below.heap_setCell _ _ _ _ (fun e => by subst e; omega)).trans (h.block k hk h1 h2)⟩
theorem On.k2 {X I : Nat} {W w w' : World} (h : On W w) (hX : W.heap.size ≤ X) (hI : W.heap.size ≤ I) (k : K2 X I w w') : On W w' :=
  ⟨h.1, h.2.trans ⟨k.os, k.tape, k.output, k.size, fun i hi => k.block i (Nat.lt_of_lt_of_le hi h.2.size) (by omega) (by omega)⟩⟩
theorem Blk.k2 {B X I : Nat} {w w' : World} {l : List Nat} (h : Blk B w l) (k : K2 X I w w') (h1 : B ≠ X) (h2 : B ≠ I) : Blk B w' l := h.kept k.size (k.block B h.1 h1 h2)
theorem box_k2 {B X I : Nat} {w w' : World} {t : TypeId} {v : Value} (h : Boxed w B t v) (k : K2 X I w w') (h1 : B ≠ X) (h2 : B ≠ I) : Boxed w' B t v := (k.block B h.lt h1 h2).trans h
theorem box_on' {W W' : World} {B : Nat} {t : TypeId} {v : Value} (h : Boxed W B t v) (k : On W W') : Boxed W' B t v := (k.2.block B h.lt).trans h
/-- What a climber holds: the digest in X, the place in I, the field in F. -/
structure Cb (X I F : Nat) (f : Int) (i : Nat) (x : Dg) (w : World) : Prop where
  bx : Blk X w [x.1, x.2]
  bi : Boxed w I 3 (.int .i64 (i : Int))
  bf : Boxed w F 3 (.int .i64 f)
  xi : X ≠ I
  xf : X ≠ F
  fi : I ≠ F
theorem Cb.on {X I F : Nat} {f : Int} {i : Nat} {x : Dg} {w w' : World} (h : Cb X I F f i x w) (k : On w w') : Cb X I F f i x w' := ⟨h.bx.on k, box_on' h.bi k, box_on' h.bf k, h.xi, h.xf, h.fi⟩
theorem Cb.k2 {X I F Y J : Nat} {f : Int} {i : Nat} {x : Dg} {w w' : World} (h : Cb X I F f i x w) (k : K2 Y J w w') (h1 : X ≠ Y) (h2 : X ≠ J) (h3 : I ≠ Y) (h4 : I ≠ J) (h5 : F ≠ Y) (h6 : F ≠ J) : Cb X I F f i x w' :=
  ⟨h.bx.k2 k h1 h2, box_k2 h.bi k h3 h4, box_k2 h.bf k h5 h6, h.xi, h.xf, h.fi⟩
theorem Cb.ap {X I F T : Nat} {f : Int} {i : Nat} {x : Dg} {w w' : World} (h : Cb X I F f i x w) (k : Ap T w w') (h1 : X ≠ T) (h2 : I ≠ T) (h3 : F ≠ T) : Cb X I F f i x w' :=
  ⟨h.bx.ap k h1, h.bi.kept k (by simpa using h2), h.bf.kept k (by simpa using h3), h.xi, h.xf, h.fi⟩
theorem ap2 (T : Nat) (w : World) (u v : Value) : Ap T w ((w.setCell ⟨T, 0, none⟩ u).setCell ⟨T, 1, none⟩ v) := ((Ap.refl _ _).setCell _ _).setCell _ _
/-- A pair as four numbers. -/
def pst (P : Dg × Dg) : St := ⟨P.1.1, P.1.2, P.2.1, P.2.2⟩
abbrev prV (P : Dg × Dg) : Value := .agg #[.int .u64 ((P.1.1 : Nat) : Int), .int .u64 ((P.1.2 : Nat) : Int), .int .u64 ((P.2.1 : Nat) : Int), .int .u64 ((P.2.2 : Nat) : Int)]
theorem climber_any (f : Int) (i : Int) (x : Dg) (w : World) :
    Calls Tryd.prog 50 #[.int .i64 f, .int .i64 i, dgV x] w fun e w' =>
      e = .returned (.func (.func 60) #[] #[.pointer (some ⟨w.heap.size + 1 + 1, 0, none⟩), .pointer (some ⟨w.heap.size + 1, 0, none⟩), .pointer (some ⟨w.heap.size, 0, none⟩)]) ∧
      w' = ((w.alloc (.cells #[.int .i64 f] 3)).alloc (.cells #[.int .i64 i] 3)).alloc (.cells #[.int .u64 ((x.1 : Nat) : Int), .int .u64 ((x.2 : Nat) : Int)] 36) := by
  go_enter Tryd.func50, Tryd.ntmps50
  go_wp2
  go_ret
  exact ⟨by simp, rfl⟩
theorem cb_new (f : Int) (i : Nat) (x : Dg) (w : World) (F : Nat) (hF : F = w.heap.size) : Cb (F + 1 + 1) (F + 1) F f i x (((w.alloc (.cells #[.int .i64 f] 3)).alloc (.cells #[.int .i64 (i : Int)] 3)).alloc (.cells #[.int .u64 ((x.1 : Nat) : Int), .int .u64 ((x.2 : Nat) : Int)] 36)) := by
  subst hF
  refine ⟨?_, ?_, ?_, by omega, by omega, by omega⟩
  · have := blk_new2 ((w.alloc (.cells #[.int .i64 f] 3)).alloc (.cells #[.int .i64 (i : Int)] 3)) x.1 x.2 36
    simpa using this
  · have := Boxed.new (w.alloc (.cells #[.int .i64 f] 3)) 3 (.int .i64 (i : Int))
    exact Boxed.alloc (by simpa using this) _
  · exact Boxed.alloc (Boxed.alloc (Boxed.new w 3 (.int .i64 f)) _) _
/-- The boxes that the closure lays. -/
theorem c1_new (w : World) (hT : Tab w) (p : Dg) (t t' t'' : TypeId) : ∃ u, u = ((w.alloc (.cells #[.int .u64 ((p.1 : Nat) : Int), .int .u64 ((p.2 : Nat) : Int)] t)).alloc (.cells #[.int .u64 0, .int .u64 0, .int .u64 0, .int .u64 0] t')).alloc (.cells #[.int .u64 0, .int .u64 0] t'') ∧
    Blk w.heap.size u [p.1, p.2] ∧ Blk (w.heap.size + 1) u (fl4 (ix ⟨0, 0, 0, 0⟩)) ∧ Blk (w.heap.size + 1 + 1) u [0, 0] ∧ On w u := by
  refine ⟨_, rfl, ?_, ?_, ?_, (((On.refl hT).alloc _).alloc _).alloc _⟩
  · exact ((blk_new2 w p.1 p.2 t).on ((On.refl ((On.refl hT).alloc _).tab).alloc _)).on ((On.refl (((On.refl hT).alloc _).alloc _).tab).alloc _)
  · have := (blk_new4 (w.alloc (.cells #[.int .u64 ((p.1 : Nat) : Int), .int .u64 ((p.2 : Nat) : Int)] t)) 0 0 0 0 t').on ((On.refl (((On.refl hT).alloc _).tab.of_cells (w := (w.alloc (.cells #[.int .u64 ((p.1 : Nat) : Int), .int .u64 ((p.2 : Nat) : Int)] t)).alloc (.cells #[.int .u64 0, .int .u64 0, .int .u64 0, .int .u64 0] t')) fun o => ((On.refl ((On.refl hT).alloc _).tab).alloc _).cell (p := ⟨0, o, none⟩) ((On.refl hT).alloc _).tab.size)).alloc (.cells #[.int .u64 0, .int .u64 0] t''))
    simpa using this
  · have := blk_new2 ((w.alloc (.cells #[.int .u64 ((p.1 : Nat) : Int), .int .u64 ((p.2 : Nat) : Int)] t)).alloc (.cells #[.int .u64 0, .int .u64 0, .int .u64 0, .int .u64 0] t')) 0 0 t''
    simpa using this
theorem prD_odd {i : Nat} (h : i % 2 = 1) (x p : Dg) : prD i x p = (p, x) := if_pos h
theorem prD_even {i : Nat} (h : i % 2 = 0) (x p : Dg) : prD i x p = (x, p) := if_neg (by omega)
theorem prD_sm {i : Nat} {x p : Dg} (hx : SmD x) (hp : SmD p) : SmD (prD i x p).1 ∧ SmD (prD i x p).2 := by
  unfold prD; split
  · exact ⟨hp, hx⟩
  · exact ⟨hx, hp⟩
theorem K2.ap {X I Q : Nat} {u v w : World} (h : K2 X I u v) (k : Ap Q v w) (hQ : u.heap.size ≤ Q) : K2 X I u w :=
  ⟨k.os.trans h.os, k.tape.trans h.tape, k.output.trans h.output, Nat.le_trans h.size k.size, fun i hi h1 h2 => (k.block i (Nat.lt_of_lt_of_le hi h.size) (by simp; omega)).trans (h.block i hi h1 h2)⟩
set_option maxHeartbeats 1000000 in
set_option maxRecDepth 100000 in
theorem climb1_even (X I F : Nat) (f : Int) (i : Nat) (x p D : Dg) (hD : nodeF f x p = D) (w : World) (hT : Tab w) (hC : Cb X I F f i x w) (hx : SmD x) (hp : SmD p) (hi : i ≤ 9223372036854775807) (hX0 : 0 < X) (hI0 : 0 < I) (hpar : i % 2 = 0) :
    Calls Tryd.prog 60 #[dgV p, .pointer (some ⟨X, 0, none⟩), .pointer (some ⟨I, 0, none⟩), .pointer (some ⟨F, 0, none⟩)] w fun e w' =>
      e = .returned (.tuple #[prV (x, p), dgV D]) ∧ Cb X I F f (i / 2) D w' ∧ K2 X I w w' := by
  obtain ⟨u, hu, hp0, hr0, hz0, hO0⟩ := c1_new w hT p 36 81 36
  have HU := Lib.hid hu
  have HP := Lib.hid hp0
  have HR := Lib.hid hr0
  have HZ := Lib.hid hz0
  have HO := Lib.hid hO0
  have HC := Lib.hid (hC.on hO0)
  have HK : Hid (K2 X I w u) := (K2.refl X I w).on hO0
  have HN : Hid (∀ w', Tab w' → Calls Tryd.prog 46 #[.int .i64 f, dgV x, dgV p] w' fun e w'' => e = .returned (dgV D) ∧ On w' w'') := fun w' h => node_dgE f x p D w' h hx hp hD
  obtain ⟨x0, x1⟩ := HC.out.bx.cells2
  obtain ⟨p0, p1⟩ := HP.out.cells2
  have hX1 : X < w.heap.size := hC.bx.1
  have hI1 : I < w.heap.size := hC.bi.lt
  have hF1 : F < w.heap.size := hC.bf.lt
  have hXI := hC.xi
  have hXF := hC.xf
  have hIF := hC.fi
  have hq2 : ((i : Int)) / 2 = ((i / 2 : Nat) : Int) := by omega
  have hrem : (i : Int) % 2 = 0 := by omega
  generalize hj : i / 2 = j at *
  have hiw : IntKind.i64.wrap (j : Int) = (j : Int) := by rw [IntKind.wrap_i64]; omega
  clear hu hp0 hr0 hz0 hO0 hC hD hx hp hpar hj hi hT
  go_enter Tryd.func60, Tryd.ntmps60
  go_upto_region 1 with fail
  rw [← HU.out]
  go_upto_region 2 with fail
  have HQ := Lib.hid (blk_new4 u x.1 x.2 p.1 p.2 81)
  have HO2 : Hid (On u (u.alloc (.cells #[.int .u64 ((x.1 : Nat) : Int), .int .u64 ((x.2 : Nat) : Int), .int .u64 ((p.1 : Nat) : Int), .int .u64 ((p.2 : Nat) : Int)] 81))) := (On.refl HO.out.tab).alloc _
  generalize hu2 : u.alloc (.cells #[.int .u64 ((x.1 : Nat) : Int), .int .u64 ((x.2 : Nat) : Int), .int .u64 ((p.1 : Nat) : Int), .int .u64 ((p.2 : Nat) : Int)] 81) = u2 at *
  clear hu2 x0 x1 p0 p1
  have HP2 := Lib.hid (HP.out.on HO2.out)
  have HR2 := Lib.hid (HR.out.on HO2.out)
  have HZ2 := Lib.hid (HZ.out.on HO2.out)
  have HC2 := Lib.hid (HC.out.on HO2.out)
  have HK2 := Lib.hid (HK.out.on HO2.out)
  have HT2 : Hid (Tab u2) := HO2.out.tab
  have hwu : w.heap.size + 1 + 1 < u.heap.size := HZ.out.1
  generalize u.heap.size = Q at *
  clear HP HR HZ HC HK HO HO2 HU u
  obtain ⟨x0, x1⟩ := HC2.out.bx.cells2
  obtain ⟨p0, p1⟩ := HP2.out.cells2
  have hic := HC2.out.bi.cell
  go_upto_region 4 with fail
  have HQ4 : Hid (Blk Q u2 (fl4 (ix (pst (x, p))))) := HQ.out
  have HR3 := HR2
  have HZ3 := HZ2
  have HC3 := HC2
  have HK3 := HK2
  have HT3 := HT2
  clear HQ HP2 HR2 HZ2 HC2 HK2 HT2 x0 x1 p0 p1 hic
  generalize u2 = u3 at *
  have hic := HC3.out.bi.cell
  have hfi := HC3.out.bi.frozen
  go_upto_region 5 with fail
  have HA : Hid (Ap I u3 (u3.setCell ⟨I, 0, none⟩ (.int .i64 (j : Int)))) := (Ap.refl _ _).setCell _ _
  have HBI := Lib.hid (HC3.out.bi.set (.int .i64 (j : Int)))
  have HK4 := Lib.hid (HK3.out.right 0 (.int .i64 (j : Int)))
  generalize hu4 : u3.setCell ⟨I, 0, none⟩ (.int .i64 (j : Int)) = u4 at *
  clear hu4 hic hfi
  have HC4 : Hid (Cb X I F f j x u4) := ⟨HC3.out.bx.ap HA.out hXI, HBI.out, HC3.out.bf.kept HA.out (by simp; omega), hXI, hXF, hIF⟩
  have HT4 : Hid (Tab u4) := HT3.out.ap HA.out hI0
  have HQ5 := Lib.hid (HQ4.out.ap HA.out (by omega))
  have HR4 := Lib.hid (HR3.out.ap HA.out (by omega))
  have HZ4 := Lib.hid (HZ3.out.ap HA.out (by omega))
  clear HA HBI HC3 HK3 HT3 HQ4 HR3 HZ3
  have hfc := HC4.out.bf.cell
  obtain ⟨q0, q1, q2, q3⟩ := HQ5.out.cells4
  simp only [pst] at q0 q1 q2 q3
  go_upto_region 6 with (go_at_call 46; with_reducible refine (HN.out _ HT4.out).mono ?_; rintro e w5 ⟨rfl, hO5⟩; have HC5 := Lib.hid (HC4.out.on hO5); have HK5 := Lib.hid (HK4.out.on hO5); have HQ6 := Lib.hid (HQ5.out.on hO5); have HR5 := Lib.hid (HR4.out.on hO5); have HZ5 := Lib.hid (HZ4.out.on hO5); clear hO5 q0 q1 q2 q3 hfc; obtain ⟨y0, y1⟩ := HC5.out.bx.cells2; have e0 := HC5.out.bx.free 0; have e1 := HC5.out.bx.free 1)
  have HX6 := Lib.hid (HC5.out.bx.store2 D.1 D.2)
  have HA : Hid (Ap X w5 ((w5.setCell ⟨X, 0, none⟩ (.int .u64 ((D.1 : Nat) : Int))).setCell ⟨X, 1, none⟩ (.int .u64 ((D.2 : Nat) : Int)))) := ((Ap.refl _ _).setCell _ _).setCell _ _
  have HK6 := Lib.hid ((HK5.out.left 0 (.int .u64 ((D.1 : Nat) : Int))).left 1 (.int .u64 ((D.2 : Nat) : Int)))
  generalize hu6 : (w5.setCell ⟨X, 0, none⟩ (.int .u64 ((D.1 : Nat) : Int))).setCell ⟨X, 1, none⟩ (.int .u64 ((D.2 : Nat) : Int)) = u6 at *
  clear hu6 y0 y1 e0 e1
  have HC6 : Hid (Cb X I F f j D u6) := ⟨HX6.out, HC5.out.bi.kept HA.out (by simp; omega), HC5.out.bf.kept HA.out (by simp; omega), hXI, hXF, hIF⟩
  have HQ7 := Lib.hid (HQ6.out.ap HA.out (by omega))
  have HR6 := Lib.hid (HR5.out.ap HA.out (by omega))
  have HZ6 := Lib.hid (HZ5.out.ap HA.out (by omega))
  clear HA HX6 HC5 HK5 HQ6 HR5 HZ5 HN HC4 HK4 HQ5 HR4 HZ4 HT4
  obtain ⟨y0, y1⟩ := HC6.out.bx.cells2
  obtain ⟨q0, q1, q2, q3⟩ := HQ7.out.cells4
  simp only [pst] at q0 q1 q2 q3
  have HDR : Hid (∀ n, u6.drewN n = u6.drewN n) := fun n => rfl
  obtain ⟨r0, r1, r2, r3⟩ := HR6.out.cells4
  simp only [ix] at r0 r1 r2 r3
  obtain ⟨g0, g1, g2, g3⟩ := HR6.out.free4
  obtain ⟨z0, z1⟩ := HZ6.out.cells2
  have k0 := HZ6.out.free 0
  have k1 := HZ6.out.free 1
  have HR8 := Lib.hid (HR6.out.store4 (pst (x, p)))
  have HZ8 := Lib.hid (HZ6.out.store2 D.1 D.2)
  obtain ⟨zr0, zr1⟩ := (HZ6.out.other4 (C := w.heap.size + 1) (by omega) (.int .u64 ((x.1 : Nat) : Int)) (.int .u64 ((x.2 : Nat) : Int)) (.int .u64 ((p.1 : Nat) : Int)) (.int .u64 ((p.2 : Nat) : Int))).cells2
  have kr0 := (HZ6.out.other4 (C := w.heap.size + 1) (by omega) (.int .u64 ((x.1 : Nat) : Int)) (.int .u64 ((x.2 : Nat) : Int)) (.int .u64 ((p.1 : Nat) : Int)) (.int .u64 ((p.2 : Nat) : Int))).free 0
  have kr1 := (HZ6.out.other4 (C := w.heap.size + 1) (by omega) (.int .u64 ((x.1 : Nat) : Int)) (.int .u64 ((x.2 : Nat) : Int)) (.int .u64 ((p.1 : Nat) : Int)) (.int .u64 ((p.2 : Nat) : Int))).free 1
  have HR9 := Lib.hid ((HR8.out.other ⟨w.heap.size + 1 + 1, 0, none⟩ (by simp) (.int .u64 ((D.1 : Nat) : Int))).other ⟨w.heap.size + 1 + 1, 1, none⟩ (by simp) (.int .u64 ((D.2 : Nat) : Int)))
  have HZ9 := Lib.hid ((HZ6.out.other4 (C := w.heap.size + 1) (by omega) (.int .u64 ((x.1 : Nat) : Int)) (.int .u64 ((x.2 : Nat) : Int)) (.int .u64 ((p.1 : Nat) : Int)) (.int .u64 ((p.2 : Nat) : Int))).store2 D.1 D.2)
  go_region
  simp only [pst] at HR9 HR8
  have HC9 := Lib.hid ((((HC6.out.bx.other4 (C := w.heap.size + 1) (by omega) (.int .u64 ((x.1 : Nat) : Int)) (.int .u64 ((x.2 : Nat) : Int)) (.int .u64 ((p.1 : Nat) : Int)) (.int .u64 ((p.2 : Nat) : Int))).other ⟨w.heap.size + 1 + 1, 0, none⟩ (by simp; omega) (.int .u64 ((D.1 : Nat) : Int))).other ⟨w.heap.size + 1 + 1, 1, none⟩ (by simp; omega) (.int .u64 ((D.2 : Nat) : Int))))
  have hbo : ∀ {B : Nat} {t : TypeId} {v : Value}, Boxed u6 B t v → B < w.heap.size → Boxed (((((((u6).setCell ⟨w.heap.size + 1, 0, none⟩ (.int .u64 ((x.1 : Nat) : Int))).setCell ⟨w.heap.size + 1, 1, none⟩ (.int .u64 ((x.2 : Nat) : Int))).setCell ⟨w.heap.size + 1, 2, none⟩ (.int .u64 ((p.1 : Nat) : Int))).setCell ⟨w.heap.size + 1, 3, none⟩ (.int .u64 ((p.2 : Nat) : Int))).setCell ⟨w.heap.size + 1 + 1, 0, none⟩ (.int .u64 ((D.1 : Nat) : Int))).setCell ⟨w.heap.size + 1 + 1, 1, none⟩ (.int .u64 ((D.2 : Nat) : Int))) B t v := fun h hB => by
    refine (Below.heap_setCell _ _ _ _ (by simp; omega)).trans ((Below.heap_setCell _ _ _ _ (by simp; omega)).trans ?_)
    refine (Below.heap_setCell _ _ _ _ (by simp; omega)).trans ((Below.heap_setCell _ _ _ _ (by simp; omega)).trans ?_)
    exact (Below.heap_setCell _ _ _ _ (by simp; omega)).trans ((Below.heap_setCell _ _ _ _ (by simp; omega)).trans h)
  have HBI9 := Lib.hid (hbo HC6.out.bi hI1)
  have HBF9 := Lib.hid (hbo HC6.out.bf hF1)
  have HK9 : Hid (K2 X I w (((((((u6).setCell ⟨w.heap.size + 1, 0, none⟩ (.int .u64 ((x.1 : Nat) : Int))).setCell ⟨w.heap.size + 1, 1, none⟩ (.int .u64 ((x.2 : Nat) : Int))).setCell ⟨w.heap.size + 1, 2, none⟩ (.int .u64 ((p.1 : Nat) : Int))).setCell ⟨w.heap.size + 1, 3, none⟩ (.int .u64 ((p.2 : Nat) : Int))).setCell ⟨w.heap.size + 1 + 1, 0, none⟩ (.int .u64 ((D.1 : Nat) : Int))).setCell ⟨w.heap.size + 1 + 1, 1, none⟩ (.int .u64 ((D.2 : Nat) : Int)))) := (((((HK6.out.new ⟨w.heap.size + 1, 0, none⟩ (by simp) _).new ⟨w.heap.size + 1, 1, none⟩ (by simp) _).new ⟨w.heap.size + 1, 2, none⟩ (by simp) _).new ⟨w.heap.size + 1, 3, none⟩ (by simp) _).new ⟨w.heap.size + 1 + 1, 0, none⟩ (by simp; omega) _).new ⟨w.heap.size + 1 + 1, 1, none⟩ (by simp; omega) _
  clear hbo HC6 HK6 HR6 HZ6 HR8 HZ8 z0 z1 zr0 zr1 k0 k1 kr0 kr1 r0 r1 r2 r3 g0 g1 g2 g3 y0 y1 q0 q1 q2 q3 HDR HQ7
  generalize hu8 : (((((((u6).setCell ⟨w.heap.size + 1, 0, none⟩ (.int .u64 ((x.1 : Nat) : Int))).setCell ⟨w.heap.size + 1, 1, none⟩ (.int .u64 ((x.2 : Nat) : Int))).setCell ⟨w.heap.size + 1, 2, none⟩ (.int .u64 ((p.1 : Nat) : Int))).setCell ⟨w.heap.size + 1, 3, none⟩ (.int .u64 ((p.2 : Nat) : Int))).setCell ⟨w.heap.size + 1 + 1, 0, none⟩ (.int .u64 ((D.1 : Nat) : Int))).setCell ⟨w.heap.size + 1 + 1, 1, none⟩ (.int .u64 ((D.2 : Nat) : Int))) = u8 at *
  clear hu8
  have r0 : u8.drew.cell? ⟨w.heap.size + 1, 0, none⟩ = _ := HR9.out.at4 0 (by omega)
  have r1 : u8.drew.cell? ⟨w.heap.size + 1, 1, none⟩ = _ := HR9.out.at4 1 (by omega)
  have r2 : u8.drew.cell? ⟨w.heap.size + 1, 2, none⟩ = _ := HR9.out.at4 2 (by omega)
  have r3 : u8.drew.cell? ⟨w.heap.size + 1, 3, none⟩ = _ := HR9.out.at4 3 (by omega)
  simp only [ix] at r0 r1 r2 r3
  have z0 : u8.drew.cell? ⟨w.heap.size + 1 + 1, 0, none⟩ = _ := HZ9.out.cells2.1
  have z1 : u8.drew.cell? ⟨w.heap.size + 1 + 1, 1, none⟩ = _ := HZ9.out.cells2.2
  go_wp2
  refine bodyPost_ret (v := .tuple #[prV (x, p), dgV D]) (by simp [results, Tryd.results60, go_sem, r0, r1, r2, r3, z0, z1]; try rfl) rfl ?_
  exact ⟨rfl, ⟨HC9.out, HBI9.out, HBF9.out, hXI, hXF, hIF⟩, HK9.out.trans ⟨rfl, rfl, rfl, Nat.le_refl _, fun _ _ _ _ => rfl⟩⟩
set_option maxHeartbeats 1000000 in
set_option maxRecDepth 100000 in
theorem climb1_odd (X I F : Nat) (f : Int) (i : Nat) (x p D : Dg) (hD : nodeF f p x = D) (w : World) (hT : Tab w) (hC : Cb X I F f i x w) (hx : SmD x) (hp : SmD p) (hi : i ≤ 9223372036854775807) (hX0 : 0 < X) (hI0 : 0 < I) (hpar : i % 2 = 1) :
    Calls Tryd.prog 60 #[dgV p, .pointer (some ⟨X, 0, none⟩), .pointer (some ⟨I, 0, none⟩), .pointer (some ⟨F, 0, none⟩)] w fun e w' =>
      e = .returned (.tuple #[prV (p, x), dgV D]) ∧ Cb X I F f (i / 2) D w' ∧ K2 X I w w' := by
  obtain ⟨u, hu, hp0, hr0, hz0, hO0⟩ := c1_new w hT p 36 81 36
  have HU := Lib.hid hu
  have HP := Lib.hid hp0
  have HR := Lib.hid hr0
  have HZ := Lib.hid hz0
  have HO := Lib.hid hO0
  have HC := Lib.hid (hC.on hO0)
  have HK : Hid (K2 X I w u) := (K2.refl X I w).on hO0
  have HN : Hid (∀ w', Tab w' → Calls Tryd.prog 46 #[.int .i64 f, dgV p, dgV x] w' fun e w'' => e = .returned (dgV D) ∧ On w' w'') := fun w' h => node_dgE f p x D w' h hp hx hD
  obtain ⟨x0, x1⟩ := HC.out.bx.cells2
  obtain ⟨p0, p1⟩ := HP.out.cells2
  have hX1 : X < w.heap.size := hC.bx.1
  have hI1 : I < w.heap.size := hC.bi.lt
  have hF1 : F < w.heap.size := hC.bf.lt
  have hXI := hC.xi
  have hXF := hC.xf
  have hIF := hC.fi
  have hq2 : ((i : Int)) / 2 = ((i / 2 : Nat) : Int) := by omega
  have hrem : (i : Int) % 2 = 1 := by omega
  generalize hj : i / 2 = j at *
  have hiw : IntKind.i64.wrap (j : Int) = (j : Int) := by rw [IntKind.wrap_i64]; omega
  clear hu hp0 hr0 hz0 hO0 hC hD hx hp hpar hj hi hT
  go_enter Tryd.func60, Tryd.ntmps60
  go_upto_region 1 with fail
  rw [← HU.out]
  go_upto_region 2 with fail
  have HQ := Lib.hid (blk_new4 u x.1 x.2 p.1 p.2 81)
  have HO2 : Hid (On u (u.alloc (.cells #[.int .u64 ((x.1 : Nat) : Int), .int .u64 ((x.2 : Nat) : Int), .int .u64 ((p.1 : Nat) : Int), .int .u64 ((p.2 : Nat) : Int)] 81))) := (On.refl HO.out.tab).alloc _
  generalize hu2 : u.alloc (.cells #[.int .u64 ((x.1 : Nat) : Int), .int .u64 ((x.2 : Nat) : Int), .int .u64 ((p.1 : Nat) : Int), .int .u64 ((p.2 : Nat) : Int)] 81) = u2 at *
  clear hu2 x0 x1 p0 p1
  have HP2 := Lib.hid (HP.out.on HO2.out)
  have HR2 := Lib.hid (HR.out.on HO2.out)
  have HZ2 := Lib.hid (HZ.out.on HO2.out)
  have HC2 := Lib.hid (HC.out.on HO2.out)
  have HK2 := Lib.hid (HK.out.on HO2.out)
  have HT2 : Hid (Tab u2) := HO2.out.tab
  have hwu : w.heap.size + 1 + 1 < u.heap.size := HZ.out.1
  generalize u.heap.size = Q at *
  clear HP HR HZ HC HK HO HO2 HU u
  obtain ⟨x0, x1⟩ := HC2.out.bx.cells2
  obtain ⟨p0, p1⟩ := HP2.out.cells2
  have hic := HC2.out.bi.cell
  have HQ3 := Lib.hid (HQ.out.store4 (pst (p, x)))
  obtain ⟨q0, q1, q2, q3⟩ := HQ.out.cells4
  obtain ⟨g0, g1, g2, g3⟩ := HQ.out.free4
  go_upto_region 4 with fail
  have HR3 := Lib.hid (HR2.out.other4 (C := Q) (by omega) (.int .u64 ((p.1 : Nat) : Int)) (.int .u64 ((p.2 : Nat) : Int)) (.int .u64 ((x.1 : Nat) : Int)) (.int .u64 ((x.2 : Nat) : Int)))
  have HZ3 := Lib.hid (HZ2.out.other4 (C := Q) (by omega) (.int .u64 ((p.1 : Nat) : Int)) (.int .u64 ((p.2 : Nat) : Int)) (.int .u64 ((x.1 : Nat) : Int)) (.int .u64 ((x.2 : Nat) : Int)))
  have HA : Hid (Ap Q u2 ((((u2.setCell ⟨Q, 0, none⟩ (.int .u64 ((p.1 : Nat) : Int))).setCell ⟨Q, 1, none⟩ (.int .u64 ((p.2 : Nat) : Int))).setCell ⟨Q, 2, none⟩ (.int .u64 ((x.1 : Nat) : Int))).setCell ⟨Q, 3, none⟩ (.int .u64 ((x.2 : Nat) : Int)))) := ((((Ap.refl _ _).setCell _ _).setCell _ _).setCell _ _).setCell _ _
  have HQ4 : Hid (Blk Q ((((u2.setCell ⟨Q, 0, none⟩ (.int .u64 ((p.1 : Nat) : Int))).setCell ⟨Q, 1, none⟩ (.int .u64 ((p.2 : Nat) : Int))).setCell ⟨Q, 2, none⟩ (.int .u64 ((x.1 : Nat) : Int))).setCell ⟨Q, 3, none⟩ (.int .u64 ((x.2 : Nat) : Int))) (fl4 (ix (pst (p, x))))) := HQ3.out
  clear HQ3
  generalize hu3 : ((((u2.setCell ⟨Q, 0, none⟩ (.int .u64 ((p.1 : Nat) : Int))).setCell ⟨Q, 1, none⟩ (.int .u64 ((p.2 : Nat) : Int))).setCell ⟨Q, 2, none⟩ (.int .u64 ((x.1 : Nat) : Int))).setCell ⟨Q, 3, none⟩ (.int .u64 ((x.2 : Nat) : Int))) = u3 at *
  clear hu3 x0 x1 p0 p1 hic q0 q1 q2 q3 g0 g1 g2 g3
  have HC3 : Hid (Cb X I F f i x u3) := ⟨HC2.out.bx.ap HA.out (by omega), HC2.out.bi.kept HA.out (by simp; omega), HC2.out.bf.kept HA.out (by simp; omega), hXI, hXF, hIF⟩
  have HK3 : Hid (K2 X I w u3) := HK2.out.ap HA.out (by omega)
  have HT3 : Hid (Tab u3) := HT2.out.ap HA.out (by omega)
  clear HA HQ HP2 HR2 HZ2 HC2 HK2 HT2
  have hic := HC3.out.bi.cell
  have hfi := HC3.out.bi.frozen
  go_upto_region 5 with fail
  have HA : Hid (Ap I u3 (u3.setCell ⟨I, 0, none⟩ (.int .i64 (j : Int)))) := (Ap.refl _ _).setCell _ _
  have HBI := Lib.hid (HC3.out.bi.set (.int .i64 (j : Int)))
  have HK4 := Lib.hid (HK3.out.right 0 (.int .i64 (j : Int)))
  generalize hu4 : u3.setCell ⟨I, 0, none⟩ (.int .i64 (j : Int)) = u4 at *
  clear hu4 hic hfi
  have HC4 : Hid (Cb X I F f j x u4) := ⟨HC3.out.bx.ap HA.out hXI, HBI.out, HC3.out.bf.kept HA.out (by simp; omega), hXI, hXF, hIF⟩
  have HT4 : Hid (Tab u4) := HT3.out.ap HA.out hI0
  have HQ5 := Lib.hid (HQ4.out.ap HA.out (by omega))
  have HR4 := Lib.hid (HR3.out.ap HA.out (by omega))
  have HZ4 := Lib.hid (HZ3.out.ap HA.out (by omega))
  clear HA HBI HC3 HK3 HT3 HQ4 HR3 HZ3
  have hfc := HC4.out.bf.cell
  obtain ⟨q0, q1, q2, q3⟩ := HQ5.out.cells4
  simp only [pst] at q0 q1 q2 q3
  go_upto_region 6 with (go_at_call 46; with_reducible refine (HN.out _ HT4.out).mono ?_; rintro e w5 ⟨rfl, hO5⟩; have HC5 := Lib.hid (HC4.out.on hO5); have HK5 := Lib.hid (HK4.out.on hO5); have HQ6 := Lib.hid (HQ5.out.on hO5); have HR5 := Lib.hid (HR4.out.on hO5); have HZ5 := Lib.hid (HZ4.out.on hO5); clear hO5 q0 q1 q2 q3 hfc; obtain ⟨y0, y1⟩ := HC5.out.bx.cells2; have e0 := HC5.out.bx.free 0; have e1 := HC5.out.bx.free 1)
  have HX6 := Lib.hid (HC5.out.bx.store2 D.1 D.2)
  have HA : Hid (Ap X w5 ((w5.setCell ⟨X, 0, none⟩ (.int .u64 ((D.1 : Nat) : Int))).setCell ⟨X, 1, none⟩ (.int .u64 ((D.2 : Nat) : Int)))) := ((Ap.refl _ _).setCell _ _).setCell _ _
  have HK6 := Lib.hid ((HK5.out.left 0 (.int .u64 ((D.1 : Nat) : Int))).left 1 (.int .u64 ((D.2 : Nat) : Int)))
  generalize hu6 : (w5.setCell ⟨X, 0, none⟩ (.int .u64 ((D.1 : Nat) : Int))).setCell ⟨X, 1, none⟩ (.int .u64 ((D.2 : Nat) : Int)) = u6 at *
  clear hu6 y0 y1 e0 e1
  have HC6 : Hid (Cb X I F f j D u6) := ⟨HX6.out, HC5.out.bi.kept HA.out (by simp; omega), HC5.out.bf.kept HA.out (by simp; omega), hXI, hXF, hIF⟩
  have HQ7 := Lib.hid (HQ6.out.ap HA.out (by omega))
  have HR6 := Lib.hid (HR5.out.ap HA.out (by omega))
  have HZ6 := Lib.hid (HZ5.out.ap HA.out (by omega))
  clear HA HX6 HC5 HK5 HQ6 HR5 HZ5 HN HC4 HK4 HQ5 HR4 HZ4 HT4
  obtain ⟨y0, y1⟩ := HC6.out.bx.cells2
  obtain ⟨q0, q1, q2, q3⟩ := HQ7.out.cells4
  simp only [pst] at q0 q1 q2 q3
  have HDR : Hid (∀ n, u6.drewN n = u6.drewN n) := fun n => rfl
  obtain ⟨r0, r1, r2, r3⟩ := HR6.out.cells4
  simp only [ix] at r0 r1 r2 r3
  obtain ⟨g0, g1, g2, g3⟩ := HR6.out.free4
  obtain ⟨z0, z1⟩ := HZ6.out.cells2
  have k0 := HZ6.out.free 0
  have k1 := HZ6.out.free 1
  have HR8 := Lib.hid (HR6.out.store4 (pst (p, x)))
  have HZ8 := Lib.hid (HZ6.out.store2 D.1 D.2)
  obtain ⟨zr0, zr1⟩ := (HZ6.out.other4 (C := w.heap.size + 1) (by omega) (.int .u64 ((p.1 : Nat) : Int)) (.int .u64 ((p.2 : Nat) : Int)) (.int .u64 ((x.1 : Nat) : Int)) (.int .u64 ((x.2 : Nat) : Int))).cells2
  have kr0 := (HZ6.out.other4 (C := w.heap.size + 1) (by omega) (.int .u64 ((p.1 : Nat) : Int)) (.int .u64 ((p.2 : Nat) : Int)) (.int .u64 ((x.1 : Nat) : Int)) (.int .u64 ((x.2 : Nat) : Int))).free 0
  have kr1 := (HZ6.out.other4 (C := w.heap.size + 1) (by omega) (.int .u64 ((p.1 : Nat) : Int)) (.int .u64 ((p.2 : Nat) : Int)) (.int .u64 ((x.1 : Nat) : Int)) (.int .u64 ((x.2 : Nat) : Int))).free 1
  have HR9 := Lib.hid ((HR8.out.other ⟨w.heap.size + 1 + 1, 0, none⟩ (by simp) (.int .u64 ((D.1 : Nat) : Int))).other ⟨w.heap.size + 1 + 1, 1, none⟩ (by simp) (.int .u64 ((D.2 : Nat) : Int)))
  have HZ9 := Lib.hid ((HZ6.out.other4 (C := w.heap.size + 1) (by omega) (.int .u64 ((p.1 : Nat) : Int)) (.int .u64 ((p.2 : Nat) : Int)) (.int .u64 ((x.1 : Nat) : Int)) (.int .u64 ((x.2 : Nat) : Int))).store2 D.1 D.2)
  go_region
  simp only [pst] at HR9 HR8
  have HC9 := Lib.hid ((((HC6.out.bx.other4 (C := w.heap.size + 1) (by omega) (.int .u64 ((p.1 : Nat) : Int)) (.int .u64 ((p.2 : Nat) : Int)) (.int .u64 ((x.1 : Nat) : Int)) (.int .u64 ((x.2 : Nat) : Int))).other ⟨w.heap.size + 1 + 1, 0, none⟩ (by simp; omega) (.int .u64 ((D.1 : Nat) : Int))).other ⟨w.heap.size + 1 + 1, 1, none⟩ (by simp; omega) (.int .u64 ((D.2 : Nat) : Int))))
  have hbo : ∀ {B : Nat} {t : TypeId} {v : Value}, Boxed u6 B t v → B < w.heap.size → Boxed (((((((u6).setCell ⟨w.heap.size + 1, 0, none⟩ (.int .u64 ((p.1 : Nat) : Int))).setCell ⟨w.heap.size + 1, 1, none⟩ (.int .u64 ((p.2 : Nat) : Int))).setCell ⟨w.heap.size + 1, 2, none⟩ (.int .u64 ((x.1 : Nat) : Int))).setCell ⟨w.heap.size + 1, 3, none⟩ (.int .u64 ((x.2 : Nat) : Int))).setCell ⟨w.heap.size + 1 + 1, 0, none⟩ (.int .u64 ((D.1 : Nat) : Int))).setCell ⟨w.heap.size + 1 + 1, 1, none⟩ (.int .u64 ((D.2 : Nat) : Int))) B t v := fun h hB => by
    refine (Below.heap_setCell _ _ _ _ (by simp; omega)).trans ((Below.heap_setCell _ _ _ _ (by simp; omega)).trans ?_)
    refine (Below.heap_setCell _ _ _ _ (by simp; omega)).trans ((Below.heap_setCell _ _ _ _ (by simp; omega)).trans ?_)
    exact (Below.heap_setCell _ _ _ _ (by simp; omega)).trans ((Below.heap_setCell _ _ _ _ (by simp; omega)).trans h)
  have HBI9 := Lib.hid (hbo HC6.out.bi hI1)
  have HBF9 := Lib.hid (hbo HC6.out.bf hF1)
  have HK9 : Hid (K2 X I w (((((((u6).setCell ⟨w.heap.size + 1, 0, none⟩ (.int .u64 ((p.1 : Nat) : Int))).setCell ⟨w.heap.size + 1, 1, none⟩ (.int .u64 ((p.2 : Nat) : Int))).setCell ⟨w.heap.size + 1, 2, none⟩ (.int .u64 ((x.1 : Nat) : Int))).setCell ⟨w.heap.size + 1, 3, none⟩ (.int .u64 ((x.2 : Nat) : Int))).setCell ⟨w.heap.size + 1 + 1, 0, none⟩ (.int .u64 ((D.1 : Nat) : Int))).setCell ⟨w.heap.size + 1 + 1, 1, none⟩ (.int .u64 ((D.2 : Nat) : Int)))) := (((((HK6.out.new ⟨w.heap.size + 1, 0, none⟩ (by simp) _).new ⟨w.heap.size + 1, 1, none⟩ (by simp) _).new ⟨w.heap.size + 1, 2, none⟩ (by simp) _).new ⟨w.heap.size + 1, 3, none⟩ (by simp) _).new ⟨w.heap.size + 1 + 1, 0, none⟩ (by simp; omega) _).new ⟨w.heap.size + 1 + 1, 1, none⟩ (by simp; omega) _
  clear hbo HC6 HK6 HR6 HZ6 HR8 HZ8 z0 z1 zr0 zr1 k0 k1 kr0 kr1 r0 r1 r2 r3 g0 g1 g2 g3 y0 y1 q0 q1 q2 q3 HDR HQ7
  generalize hu8 : (((((((u6).setCell ⟨w.heap.size + 1, 0, none⟩ (.int .u64 ((p.1 : Nat) : Int))).setCell ⟨w.heap.size + 1, 1, none⟩ (.int .u64 ((p.2 : Nat) : Int))).setCell ⟨w.heap.size + 1, 2, none⟩ (.int .u64 ((x.1 : Nat) : Int))).setCell ⟨w.heap.size + 1, 3, none⟩ (.int .u64 ((x.2 : Nat) : Int))).setCell ⟨w.heap.size + 1 + 1, 0, none⟩ (.int .u64 ((D.1 : Nat) : Int))).setCell ⟨w.heap.size + 1 + 1, 1, none⟩ (.int .u64 ((D.2 : Nat) : Int))) = u8 at *
  clear hu8
  have r0 : u8.drew.cell? ⟨w.heap.size + 1, 0, none⟩ = _ := HR9.out.at4 0 (by omega)
  have r1 : u8.drew.cell? ⟨w.heap.size + 1, 1, none⟩ = _ := HR9.out.at4 1 (by omega)
  have r2 : u8.drew.cell? ⟨w.heap.size + 1, 2, none⟩ = _ := HR9.out.at4 2 (by omega)
  have r3 : u8.drew.cell? ⟨w.heap.size + 1, 3, none⟩ = _ := HR9.out.at4 3 (by omega)
  simp only [ix] at r0 r1 r2 r3
  have z0 : u8.drew.cell? ⟨w.heap.size + 1 + 1, 0, none⟩ = _ := HZ9.out.cells2.1
  have z1 : u8.drew.cell? ⟨w.heap.size + 1 + 1, 1, none⟩ = _ := HZ9.out.cells2.2
  go_wp2
  refine bodyPost_ret (v := .tuple #[prV (p, x), dgV D]) (by simp [results, Tryd.results60, go_sem, r0, r1, r2, r3, z0, z1]; try rfl) rfl ?_
  exact ⟨rfl, ⟨HC9.out, HBI9.out, HBF9.out, hXI, hXF, hIF⟩, HK9.out.trans ⟨rfl, rfl, rfl, Nat.le_refl _, fun _ _ _ _ => rfl⟩⟩
theorem climb1_any (X I F : Nat) (f : Int) (i : Nat) (x p : Dg) (w : World) (hT : Tab w) (hC : Cb X I F f i x w) (hx : SmD x) (hp : SmD p) (hi : i ≤ 9223372036854775807) (hX0 : 0 < X) (hI0 : 0 < I) :
    Calls Tryd.prog 60 #[dgV p, .pointer (some ⟨X, 0, none⟩), .pointer (some ⟨I, 0, none⟩), .pointer (some ⟨F, 0, none⟩)] w fun e w' =>
      e = .returned (.tuple #[prV (prD i x p), dgV (nodeF f (prD i x p).1 (prD i x p).2)]) ∧ Cb X I F f (i / 2) (nodeF f (prD i x p).1 (prD i x p).2) w' ∧ K2 X I w w' := by
  rcases Nat.mod_two_eq_zero_or_one i with h | h
  · rw [prD_even h]; exact climb1_even X I F f i x p _ rfl w hT hC hx hp hi hX0 hI0 h
  · rw [prD_odd h]; exact climb1_odd X I F f i x p _ rfl w hT hC hx hp hi hX0 hI0 h
end Go.Proofs.YthepmahjpejmdaaDoor

/- Package tree: isOpening, Climb: what each call returns. -/
namespace Go.Proofs.YthepmahjpejmdaaDoor
open Go.RowKit
set_option linter.unusedVariables false

/-- An opening that can be climbed from. -/
def opnB (f i : Int) (x : Dg) (p : List Dg) : Bool := validB f && (decide (0 ≤ i) && (decide (p.length ≤ 18) && (okD f x && okA f p)))
theorem one_dg (w : World) (hT : Tab w) (x : Dg) (hx : SmD x) : DR (w.alloc (.cells #[.int .u64 ((x.1 : Nat) : Int), .int .u64 ((x.2 : Nat) : Int)] 36)) (.slice (some ⟨w.heap.size, 0, none⟩) 1 1) [x] :=
  (dbox_new w x 36).reads (by
    intro i hi
    have h0 : i = 0 := by simp at hi; omega
    subst h0; exact hx) (by simp) 1
set_option maxHeartbeats 1000000 in
set_option maxRecDepth 100000 in
theorem isOpening_any (f i : Int) (x : Dg) (p : List Dg) (v : Value) (w : World) (hT : Tab w) (hx : SmD x) (hR : DR w v p) :
    Calls Tryd.prog 44 #[.int .i64 f, .int .i64 i, dgV x, v] w fun e w' => e = .returned (.bool (opnB f i x p)) ∧ On w w' := by
  obtain ⟨a, cap, rfl⟩ := hR.shape
  have HT := Lib.hid hT
  have HR := Lib.hid hR
  obtain ⟨u, hu⟩ : ∃ u, u = w.alloc (.cells #[.int .u64 ((x.1 : Nat) : Int), .int .u64 ((x.2 : Nat) : Int)] 36) := ⟨_, rfl⟩
  have HU := Lib.hid hu
  have HO : Hid (On w u) := by refine Lib.hid ?_; rw [hu]; exact (On.refl hT).alloc _
  have HB : Hid (Blk w.heap.size u [x.1, x.2]) := by refine Lib.hid ?_; rw [hu]; exact blk_new2 w _ _ _
  have HP1 : Hid (Calls Tryd.prog 25 #[.int .i64 f, .slice (some ⟨u.heap.size, 0, none⟩) 1 1] (u.alloc (.cells #[.int .u64 ((x.1 : Nat) : Int), .int .u64 ((x.2 : Nat) : Int)] 36)) fun e w'' => e = .returned (.bool (okD f x)) ∧ On (u.alloc (.cells #[.int .u64 ((x.1 : Nat) : Int), .int .u64 ((x.2 : Nat) : Int)] 36)) w'') := by
    have h := proper_any f [x] _ _ ((On.refl HO.out.tab).alloc _).tab (one_dg u HO.out.tab x hx)
    have e : okA f [x] = okD f x := by unfold okA; simp
    rw [e] at h; exact h
  have HP2 : Hid (∀ w', On u w' → Calls Tryd.prog 25 #[.int .i64 f, .slice a p.length cap] w' fun e w'' => e = .returned (.bool (okA f p)) ∧ On w' w'') := fun w' h => proper_any f p _ w' h.tab ((HR.out.on HO.out).on h)
  have hL := hR.2.1
  obtain ⟨x0, x1⟩ := HB.out.cells2
  clear hT hR hx hu
  unfold opnB
  cases hv : validB f
  · have HV := Lib.hid hv; clear hv
    go_enter Tryd.func44, Tryd.ntmps44
    go_upto_region 1 with fail
    rw [← HU.out]
    go_wp2_with (first
      | (go_at_call 24; refine (valid_any _ _).mono ?_; rintro e w' ⟨rfl, rfl⟩; rw [HV.out]))
    go_ret
    exact ⟨rfl, HO.out⟩
  have HV := Lib.hid hv; clear hv
  by_cases hi : 0 ≤ i
  rotate_left
  · have hd : decide (0 ≤ i) = false := decide_eq_false hi
    have hi2 : i < 0 := by omega
    rw [hd]
    clear hd hi
    go_enter Tryd.func44, Tryd.ntmps44
    go_upto_region 1 with fail
    rw [← HU.out]
    go_wp2_with (first
      | (go_at_call 24; refine (valid_any _ _).mono ?_; rintro e w' ⟨rfl, rfl⟩; rw [HV.out]))
    go_ret
    exact ⟨rfl, HO.out⟩
  have hd : decide (0 ≤ i) = true := decide_eq_true hi
  rw [hd]
  clear hd
  by_cases hl : p.length ≤ 18
  rotate_left
  · have hd : decide (p.length ≤ 18) = false := decide_eq_false hl
    have hl2 : ¬ (p.length : Int) ≤ 18 := by omega
    rw [hd]
    clear hd hl
    go_enter Tryd.func44, Tryd.ntmps44
    go_upto_region 1 with fail
    rw [← HU.out]
    go_wp2_with (first
      | (go_at_call 24; refine (valid_any _ _).mono ?_; rintro e w' ⟨rfl, rfl⟩; rw [HV.out]))
    go_ret
    exact ⟨rfl, HO.out⟩
  have hd : decide (p.length ≤ 18) = true := decide_eq_true hl
  have hl2 : (p.length : Int) ≤ 18 := by omega
  rw [hd]
  clear hd hl
  cases hox : okD f x
  · rw [hox] at HP1; clear hox
    go_enter Tryd.func44, Tryd.ntmps44
    go_upto_region 1 with fail
    rw [← HU.out]
    go_wp2_with (first
      | (go_at_call 24; refine (valid_any _ _).mono ?_; rintro e w' ⟨rfl, rfl⟩; rw [HV.out])
      | (go_at_call 25; (with_reducible refine HP1.out.mono ?_); rintro e w1 ⟨rfl, hO1⟩; have HO1 : Hid (On u w1) := ((On.refl HO.out.tab).alloc _).trans hO1; clear hO1))
    go_ret
    exact ⟨rfl, HO.out.trans HO1.out⟩
  · rw [hox] at HP1; clear hox
    go_enter Tryd.func44, Tryd.ntmps44
    go_upto_region 1 with fail
    rw [← HU.out]
    go_wp2_with (first
      | (go_at_call 24; refine (valid_any _ _).mono ?_; rintro e w' ⟨rfl, rfl⟩; rw [HV.out])
      | (go_at_call 25; (with_reducible refine HP1.out.mono ?_); rintro e w1 ⟨rfl, hO1⟩; have HO1 : Hid (On u w1) := ((On.refl HO.out.tab).alloc _).trans hO1; clear hO1)
      | (go_at_call 25; (with_reducible refine (HP2.out _ HO1.out).mono ?_); rintro e w2 ⟨rfl, hO2⟩; have HO2 : Hid (On u w2) := HO1.out.trans hO2; clear hO2))
    go_ret
    exact ⟨by simp, HO.out.trans HO2.out⟩

theorem box2d_z {w : World} (hT : Tab w) (x : Dg) : ∃ W0, W0 = (w.alloc (.cells #[.int .u64 ((x.1 : Nat) : Int), .int .u64 ((x.2 : Nat) : Int)] 36)).alloc (.cells #[.int .u64 0, .int .u64 0] 36) ∧
    Blk w.heap.size W0 [x.1, x.2] ∧ Blk (w.heap.size + 1) W0 [0, 0] ∧ On w W0 := by
  refine ⟨_, rfl, ?_, ?_, ?_⟩
  · exact (blk_new2 w x.1 x.2 _).on ((On.refl ((On.refl hT).alloc _).tab).alloc _)
  · have := blk_new2 (w.alloc (.cells #[.int .u64 ((x.1 : Nat) : Int), .int .u64 ((x.2 : Nat) : Int)] 36)) 0 0 36
    simpa using this
  · exact ((On.refl hT).alloc _).alloc _
set_option maxHeartbeats 1000000 in
set_option maxRecDepth 100000 in
theorem climb_no (f i : Int) (x : Dg) (p : List Dg) (v : Value) (w : World) (hT : Tab w) (hx : SmD x) (hR : DR w v p) (hno : opnB f i x p = false) :
    Calls Tryd.prog 45 #[.int .i64 f, .int .i64 i, dgV x, v] w fun e w' => e = .returned (dgV zD) ∧ On w w' := by
  obtain ⟨a, cap, rfl⟩ := hR.shape
  obtain ⟨u, hu, hB⟩ := box2d_z hT x
  have HU := Lib.hid hu
  have HB := Lib.hid hB
  have HIO : Hid (Calls Tryd.prog 44 #[.int .i64 f, .int .i64 i, dgV x, .slice a p.length cap] u fun e w' => e = .returned (.bool false) ∧ On u w') := by
    have h := isOpening_any f i x p _ u hB.2.2.tab hx (hR.on hB.2.2)
    rw [hno] at h; exact h
  obtain ⟨x0, x1⟩ := HB.out.1.cells2
  clear hu hB hT hx hR hno
  go_enter Tryd.func45, Tryd.ntmps45
  go_upto_region 1 with fail
  rw [← HU.out]
  go_wp2_with fail
  with_reducible refine HIO.out.mono ?_
  rintro e w1 ⟨rfl, hO1⟩
  have HR1 := Lib.hid (HB.out.2.1.on hO1)
  have HO1 := Lib.hid (HB.out.2.2.trans hO1)
  clear hO1 x0 x1
  obtain ⟨r0, r1⟩ := HR1.out.cells2
  have f0 := HR1.out.free 0
  have f1 := HR1.out.free 1
  have HP := Lib.hid HR1.out.zero2
  go_wp2
  obtain ⟨p0, p1⟩ := HP.out
  refine bodyPost_ret (v := .agg #[.int .u64 0, .int .u64 0]) (by simp [results, Tryd.results45, go_sem, p0, p1]; try rfl) rfl ?_
  exact ⟨rfl, HO1.out.store2 (by omega) _ _⟩

theorem opnB_parts {f i : Int} {x : Dg} {p : List Dg} (h : opnB f i x p = true) : validB f = true ∧ p.length ≤ 18 ∧ okD f x = true ∧ okA f p = true := by
  unfold opnB at h
  simp only [Bool.and_eq_true, decide_eq_true_eq] at h
  exact ⟨h.1, h.2.2.1, h.2.2.2.1, h.2.2.2.2⟩
set_option maxHeartbeats 1000000 in
set_option maxRecDepth 100000 in
theorem climb_yes (f : Int) (i : Nat) (x : Dg) (p : List Dg) (v : Value) (w : World) (hT : Tab w) (hR : DR w v p) (hi : i ≤ 9223372036854775807) (hyes : opnB f (i : Int) x p = true) :
    Calls Tryd.prog 45 #[.int .i64 f, .int .i64 (i : Int), dgV x, v] w fun e w' => e = .returned (dgV (clF f i x p p.length)) ∧ On w w' := by
  obtain ⟨a, cap, rfl⟩ := hR.shape
  obtain ⟨hv, hpl, hx, hpo⟩ := opnB_parts hyes
  have hxs := okD_sm hx
  obtain ⟨u, hu, hB⟩ := box2d_z hT x
  have HU := Lib.hid hu
  have HB := Lib.hid hB
  have HIO : Hid (Calls Tryd.prog 44 #[.int .i64 f, .int .i64 (i : Int), dgV x, .slice a p.length cap] u fun e w' => e = .returned (.bool true) ∧ On u w') := by
    have h := isOpening_any f i x p _ u hB.2.2.tab hxs (hR.on hB.2.2)
    rw [hyes] at h; exact h
  have HR := Lib.hid (hR.on hB.2.2)
  obtain ⟨x0, x1⟩ := HB.out.1.cells2
  clear hu hB hT hR hyes
  go_enter Tryd.func45, Tryd.ntmps45
  go_upto_region 1 with fail
  rw [← HU.out]
  go_wp2_with fail
  with_reducible refine HIO.out.mono ?_
  rintro e w1 ⟨rfl, hO1⟩
  have HR1 := Lib.hid (HB.out.2.1.on hO1)
  have HL1 := Lib.hid (HB.out.1.on hO1)
  have HP1 := Lib.hid (HR.out.on hO1)
  have HO1 := Lib.hid (HB.out.2.2.trans hO1)
  clear hO1 x0 x1 HIO HR HB HU
  obtain ⟨x0, x1⟩ := HL1.out.cells2
  go_upto_region 3 with fail
  refine region_head_tail (S := fun wq => On w1 wq) 7 (by kernel_rfl) (by kernel_rfl) ?_
  have hSd : On w1 w1.drew := (On.refl HO1.out.tab).drew
  refine HeadG.take (i := 0) (v := ?hdv1x0) rfl (by kernel_rfl) (by kernel_rfl) (by kernel_rfl) (by kernel_rfl) (by kernel_rfl) (by kernel_rfl) (by kernel_rfl) (fun _ _ _ h => h) (Or.inl ⟨by rfl, ?hdy1x0⟩) hSd ?hdr1x0
  case hdy1x0 => (intro w' hSw; obtain ⟨x0, x1⟩ := (HL1.out.on hSw).cells2; go_simp; try with_reducible rfl)
  try simp only [Act.put, List.setIfInBounds_toArray, List.set_cons_zero, List.set_cons_succ]
  refine HeadG.take (i := 1) (v := ?hdv2x1) rfl (by kernel_rfl) (by kernel_rfl) (by kernel_rfl) (by kernel_rfl) (by kernel_rfl) (by kernel_rfl) (by kernel_rfl) (fun _ _ _ h => h) (Or.inl ⟨by rfl, ?hdy2x1⟩) hSd ?hdr2x1
  case hdy2x1 => (intro w' hSw; obtain ⟨x0, x1⟩ := (HL1.out.on hSw).cells2; go_simp; try with_reducible rfl)
  try simp only [Act.put, List.setIfInBounds_toArray, List.set_cons_zero, List.set_cons_succ]
  refine HeadG.take (i := 2) (v := ?hdv3x2) rfl (by kernel_rfl) (by kernel_rfl) (by kernel_rfl) (by kernel_rfl) (by kernel_rfl) (by kernel_rfl) (by kernel_rfl) (fun _ _ _ h => h) (Or.inl ⟨by rfl, ?hdy3x2⟩) hSd ?hdr3x2
  case hdy3x2 => (intro w' hSw; obtain ⟨x0, x1⟩ := (HL1.out.on hSw).cells2; go_simp; try with_reducible rfl)
  try simp only [Act.put, List.setIfInBounds_toArray, List.set_cons_zero, List.set_cons_succ]
  refine HeadG.take (i := 4) (v := ?hdv4x4) rfl (by kernel_rfl) (by kernel_rfl) (by kernel_rfl) (by kernel_rfl) (by kernel_rfl) (by kernel_rfl) (by kernel_rfl) (fun _ _ _ h => h) (Or.inl ⟨by rfl, ?hdy4x4⟩) hSd ?hdr4x4
  case hdy4x4 => (intro w' hSw; obtain ⟨x0, x1⟩ := (HL1.out.on hSw).cells2; go_simp; try with_reducible rfl)
  try simp only [Act.put, List.setIfInBounds_toArray, List.set_cons_zero, List.set_cons_succ]
  refine HeadG.fork2 (i := 3) (j := 5) rfl rfl (by kernel_rfl) (by kernel_rfl) (by kernel_rfl) (fun K9 hK9 => ?_) (fun K9 hK9 => ?_)
  · go_simp
    go_at_call 50
    refine (climber_any _ _ _ _).mono ?_
    rintro e w' ⟨rfl, rfl⟩
    refine hK9.out _ _ ((((On.refl HO1.out.tab).drew.alloc _).alloc _).alloc _) ?_
    clear hK9 K9
    try simp only [Act.put, List.setIfInBounds_toArray, List.set_cons_zero, List.set_cons_succ]
    refine HeadG.one (i := 5) rfl (by kernel_rfl) (by kernel_rfl) (fun K9 hK9 => ?_)
    go_simp
    refine hK9.out _ _ (((((On.refl HO1.out.tab).drew.alloc _).alloc _).alloc _).alloc _) ?_
    clear hK9 K9
    try simp only [Act.put, List.setIfInBounds_toArray, List.set_cons_zero, List.set_cons_succ]
    refine HeadG.one (i := 6) rfl (by kernel_rfl) (by kernel_rfl) (fun K9 hK9 => ?_)
    go_simp
    refine hK9.out _ _ (((((On.refl HO1.out.tab).drew.alloc _).alloc _).alloc _).alloc _) ?_
    clear hK9 K9
    try simp only [Act.put, List.setIfInBounds_toArray, List.set_cons_zero, List.set_cons_succ]
    refine HeadG.last (i := 7) rfl (by kernel_rfl) (by kernel_rfl) (by kernel_rfl) (fun K9 hK9 => ?_)
    go_simp
    refine hK9.out _ _ ?_
    clear hK9 K9
    try simp only [Act.put, List.setIfInBounds_toArray, List.set_cons_zero, List.set_cons_succ]
    have HOa : Hid (On w1 (((((w1.alloc (.cells #[.int .i64 f] 3)).alloc (.cells #[.int .i64 (i : Int)] 3)).alloc (.cells #[.int .u64 ((x.1 : Nat) : Int), .int .u64 ((x.2 : Nat) : Int)] 36)).alloc (.cells #[.int .u64 ((x.1 : Nat) : Int), .int .u64 ((x.2 : Nat) : Int)] 36)).drew)) := ((((On.refl HO1.out.tab).alloc _).alloc _).alloc _).alloc _ |>.drew
    have HCa : Hid (Cb (w1.heap.size + 1 + 1) (w1.heap.size + 1) w1.heap.size f i x (((((w1.alloc (.cells #[.int .i64 f] 3)).alloc (.cells #[.int .i64 (i : Int)] 3)).alloc (.cells #[.int .u64 ((x.1 : Nat) : Int), .int .u64 ((x.2 : Nat) : Int)] 36)).alloc (.cells #[.int .u64 ((x.1 : Nat) : Int), .int .u64 ((x.2 : Nat) : Int)] 36)).drew)) := ((cb_new f i x w1 _ rfl).on ((On.refl ((((On.refl HO1.out.tab).alloc _).alloc _).alloc _).tab).alloc (.cells #[.int .u64 ((x.1 : Nat) : Int), .int .u64 ((x.2 : Nat) : Int)] 36))).on (On.refl (((((On.refl HO1.out.tab).alloc _).alloc _).alloc _).alloc _).tab).drew
    have HTa : Hid (Blk (w1.heap.size + 1 + 1 + 1) (((((w1.alloc (.cells #[.int .i64 f] 3)).alloc (.cells #[.int .i64 (i : Int)] 3)).alloc (.cells #[.int .u64 ((x.1 : Nat) : Int), .int .u64 ((x.2 : Nat) : Int)] 36)).alloc (.cells #[.int .u64 ((x.1 : Nat) : Int), .int .u64 ((x.2 : Nat) : Int)] 36)).drew) [x.1, x.2]) := by have h := blk_new2 (((w1.alloc (.cells #[.int .i64 f] 3)).alloc (.cells #[.int .i64 (i : Int)] 3)).alloc (.cells #[.int .u64 ((x.1 : Nat) : Int), .int .u64 ((x.2 : Nat) : Int)] 36)) x.1 x.2 36; have h2 : Blk (w1.heap.size + 1 + 1 + 1) ((((w1.alloc (.cells #[.int .i64 f] 3)).alloc (.cells #[.int .i64 (i : Int)] 3)).alloc (.cells #[.int .u64 ((x.1 : Nat) : Int), .int .u64 ((x.2 : Nat) : Int)] 36)).alloc (.cells #[.int .u64 ((x.1 : Nat) : Int), .int .u64 ((x.2 : Nat) : Int)] 36)) [x.1, x.2] := (by simpa using h); exact h2.drewN 1
    generalize hu2 : (((((w1.alloc (.cells #[.int .i64 f] 3)).alloc (.cells #[.int .i64 (i : Int)] 3)).alloc (.cells #[.int .u64 ((x.1 : Nat) : Int), .int .u64 ((x.2 : Nat) : Int)] 36)).alloc (.cells #[.int .u64 ((x.1 : Nat) : Int), .int .u64 ((x.2 : Nat) : Int)] 36)).drew) = u2 at *
    clear hu2
    obtain ⟨T, hT⟩ : ∃ T, T = w1.heap.size + 1 + 1 + 1 := ⟨_, rfl⟩
    obtain ⟨X, hX⟩ : ∃ X, X = w1.heap.size + 1 + 1 := ⟨_, rfl⟩
    obtain ⟨I, hI⟩ : ∃ I, I = w1.heap.size + 1 := ⟨_, rfl⟩
    obtain ⟨F, hF⟩ : ∃ F, F = w1.heap.size := ⟨_, rfl⟩
    have hTX : T ≠ X := by omega
    have hTI : T ≠ I := by omega
    have hTF : T ≠ F := by omega
    have hX0 : w1.heap.size ≤ X := by omega
    have hI0 : w1.heap.size ≤ I := by omega
    have hT0 : w1.heap.size ≤ T := by omega
    rw [← hT] at HTa ⊢
    rw [← hX] at HCa ⊢
    rw [← hI] at HCa ⊢
    have HF := Lib.hid hF
    rw [← hF] at ⊢ HCa
    clear hT hX hI hF
    have h0 : 0 < w1.heap.size := HO1.out.tab.size
    clear hSd x0 x1 HL1
    go_wp2_with fail
    go_loopw [27] (fun vi wr => ∃ k : Nat, k ≤ p.length ∧ vi = .int .i64 (k : Int) ∧ Hid (Cb X I F f (i / 2 ^ k) (clF f i x p k) wr) ∧ Hid (Blk T wr [(clF f i x p k).1, (clF f i x p k).2]) ∧ Hid (On w1 wr)) (fun vi _ => p.length - (intOf vi).toNat)
    case atStart => exact ⟨0, Nat.zero_le _, rfl, by rw [Nat.pow_zero, Nat.div_one]; exact HCa, HTa, HOa⟩
    case round =>
      obtain ⟨k, hk, rfl, HC, HB, HO⟩ := hrel
      by_cases hlt : k < p.length
      · have hlt' : (k : Int) < (p.length : Int) := by omega
        obtain ⟨b, off, rfl, c0, c1⟩ := HP1.out.cells k hlt
        have c0' := (HO.out.cell (p := ⟨b, off + k * 2, none⟩) (cell_size c0)).trans c0
        have c1' := (HO.out.cell (p := ⟨b, off + k * 2 + 1, none⟩) (cell_size c1)).trans c1
        have hps := HP1.out.sm k
        have hcs := clF_sm f i x p hxs k
        have HN : Hid (nodeF f (prD (i / 2 ^ k) (clF f i x p k) (p.getD k zD)).1 (prD (i / 2 ^ k) (clF f i x p k) (p.getD k zD)).2 = clF f i x p (k + 1)) := rfl
        have HI2 : Hid (i / 2 ^ k / 2 = i / 2 ^ (k + 1)) := by refine Lib.hid ?_; rw [Nat.pow_succ, Nat.div_div_eq_div_mul]
        have hik : i / 2 ^ k ≤ 9223372036854775807 := Nat.le_trans (Nat.div_le_self _ _) hi
        clear c0 c1
        generalize hy : clF f i x p (k + 1) = y at *
        have HY := Lib.hid hy
        clear hy
        generalize clF f i x p k = xk at *
        generalize p.getD k zD = pk at *
        have HOa' : Hid (On wr (wr.alloc (.cells #[.int .u64 ((pk.1 : Nat) : Int), .int .u64 ((pk.2 : Nat) : Int)] 36))) := (On.refl HO.out.tab).alloc _
        have HCL := Lib.hid (climb1_any X I F f (i / 2 ^ k) xk pk _ HOa'.out.tab (HC.out.on HOa'.out) hcs hps hik (by omega) (by omega))
        rw [HN.out, HI2.out] at HCL
        have HOb := Lib.hid (HO.out.trans HOa'.out)
        have HBb := Lib.hid (HB.out.on HOa'.out)
        clear HC HB HO HOa'
        go_upto_region 7 with fail
        go_wp2_with (go_at_call 60; (with_reducible refine HCL.out.mono ?_); rintro e w3 ⟨rfl, hC3, hK3⟩; have HC3 := Lib.hid hC3; have HO3 := Lib.hid (HOb.out.k2 hX0 hI0 hK3); have HB3 := Lib.hid (HBb.out.k2 hK3 hTX hTI); clear hC3 hK3; obtain ⟨b0, b1⟩ := HB3.out.cells2; have e0 := HB3.out.free 0; have e1 := HB3.out.free 1)
        have HB4 := Lib.hid (HB3.out.store2 y.1 y.2)
        have HC4 := Lib.hid (HC3.out.ap (ap2 T w3 (.int .u64 ((y.1 : Nat) : Int)) (.int .u64 ((y.2 : Nat) : Int))) hTX.symm hTI.symm hTF.symm)
        have HO4 := Lib.hid (HO3.out.store2 hT0 (.int .u64 ((y.1 : Nat) : Int)) (.int .u64 ((y.2 : Nat) : Int)))
        rw [← HY.out] at HB4 HC4 HO4 ⊢
        go_roundw
        case rel => exact ⟨k + 1, by omega, by simp, HC4, HB4, HO4⟩
        case measure => simp [intOf]; omega
      · obtain rfl : k = p.length := by omega
        obtain ⟨b0, b1⟩ := HB.out.cells2
        have HRz := Lib.hid (HR1.out.on HO.out)
        have HOz := Lib.hid (HO1.out.trans HO.out)
        clear HC HB HO
        generalize hye : clF f i x p p.length = y at *
        have HYE := Lib.hid hye
        clear hye
        obtain ⟨r0, r1⟩ := HRz.out.cells2
        have f0 := HRz.out.free 0
        have f1 := HRz.out.free 1
        have HP := Lib.hid (Blk.cells2 (HRz.out.store2 y.1 y.2))
        go_wp2
        obtain ⟨p0, p1⟩ := HP.out
        refine bodyPost_ret (v := dgV y) (by simp [results, Tryd.results45, go_sem, p0, p1]; try rfl) rfl ?_
        exact ⟨by rw [HYE.out], HOz.out.store2 (by omega) _ _⟩
  · go_simp
    refine hK9.out _ _ ((On.refl HO1.out.tab).drew.alloc _) ?_
    clear hK9 K9
    try simp only [Act.put, List.setIfInBounds_toArray, List.set_cons_zero, List.set_cons_succ]
    refine HeadG.one (i := 3) rfl (by kernel_rfl) (by kernel_rfl) (fun K9 hK9 => ?_)
    go_simp
    go_at_call 50
    refine (climber_any _ _ _ _).mono ?_
    rintro e w' ⟨rfl, rfl⟩
    refine hK9.out _ _ (((((On.refl HO1.out.tab).drew.alloc _).alloc _).alloc _).alloc _) ?_
    clear hK9 K9
    try simp only [Act.put, List.setIfInBounds_toArray, List.set_cons_zero, List.set_cons_succ]
    refine HeadG.one (i := 6) rfl (by kernel_rfl) (by kernel_rfl) (fun K9 hK9 => ?_)
    go_simp
    refine hK9.out _ _ (((((On.refl HO1.out.tab).drew.alloc _).alloc _).alloc _).alloc _) ?_
    clear hK9 K9
    try simp only [Act.put, List.setIfInBounds_toArray, List.set_cons_zero, List.set_cons_succ]
    refine HeadG.last (i := 7) rfl (by kernel_rfl) (by kernel_rfl) (by kernel_rfl) (fun K9 hK9 => ?_)
    go_simp
    refine hK9.out _ _ ?_
    clear hK9 K9
    try simp only [Act.put, List.setIfInBounds_toArray, List.set_cons_zero, List.set_cons_succ]
    have HOa : Hid (On w1 (((((w1.alloc (.cells #[.int .u64 ((x.1 : Nat) : Int), .int .u64 ((x.2 : Nat) : Int)] 36)).alloc (.cells #[.int .i64 f] 3)).alloc (.cells #[.int .i64 (i : Int)] 3)).alloc (.cells #[.int .u64 ((x.1 : Nat) : Int), .int .u64 ((x.2 : Nat) : Int)] 36)).drew)) := ((((On.refl HO1.out.tab).alloc _).alloc _).alloc _).alloc _ |>.drew
    have HCa : Hid (Cb (w1.heap.size + 1 + 1 + 1) (w1.heap.size + 1 + 1) (w1.heap.size + 1) f i x (((((w1.alloc (.cells #[.int .u64 ((x.1 : Nat) : Int), .int .u64 ((x.2 : Nat) : Int)] 36)).alloc (.cells #[.int .i64 f] 3)).alloc (.cells #[.int .i64 (i : Int)] 3)).alloc (.cells #[.int .u64 ((x.1 : Nat) : Int), .int .u64 ((x.2 : Nat) : Int)] 36)).drew)) := (cb_new f i x (w1.alloc (.cells #[.int .u64 ((x.1 : Nat) : Int), .int .u64 ((x.2 : Nat) : Int)] 36)) (w1.heap.size + 1) (by simp)).on (On.refl (((((On.refl HO1.out.tab).alloc _).alloc _).alloc _).alloc _).tab).drew
    have HTa : Hid (Blk w1.heap.size (((((w1.alloc (.cells #[.int .u64 ((x.1 : Nat) : Int), .int .u64 ((x.2 : Nat) : Int)] 36)).alloc (.cells #[.int .i64 f] 3)).alloc (.cells #[.int .i64 (i : Int)] 3)).alloc (.cells #[.int .u64 ((x.1 : Nat) : Int), .int .u64 ((x.2 : Nat) : Int)] 36)).drew) [x.1, x.2]) := (blk_new2 w1 x.1 x.2 36).on ((((On.refl ((On.refl HO1.out.tab).alloc _).tab).alloc _).alloc _).alloc _ |>.drew)
    generalize hu2 : (((((w1.alloc (.cells #[.int .u64 ((x.1 : Nat) : Int), .int .u64 ((x.2 : Nat) : Int)] 36)).alloc (.cells #[.int .i64 f] 3)).alloc (.cells #[.int .i64 (i : Int)] 3)).alloc (.cells #[.int .u64 ((x.1 : Nat) : Int), .int .u64 ((x.2 : Nat) : Int)] 36)).drew) = u2 at *
    clear hu2
    obtain ⟨X, hX⟩ : ∃ X, X = w1.heap.size + 1 + 1 + 1 := ⟨_, rfl⟩
    obtain ⟨I, hI⟩ : ∃ I, I = w1.heap.size + 1 + 1 := ⟨_, rfl⟩
    obtain ⟨F, hF⟩ : ∃ F, F = w1.heap.size + 1 := ⟨_, rfl⟩
    obtain ⟨T, hT⟩ : ∃ T, T = w1.heap.size := ⟨_, rfl⟩
    have hTX : T ≠ X := by omega
    have hTI : T ≠ I := by omega
    have hTF : T ≠ F := by omega
    have hX0 : w1.heap.size ≤ X := by omega
    have hI0 : w1.heap.size ≤ I := by omega
    have hT0 : w1.heap.size ≤ T := by omega
    rw [← hX] at HCa ⊢
    rw [← hI] at HCa ⊢
    rw [← hF] at HCa ⊢
    rw [← hT] at HTa ⊢
    clear hT hX hI hF
    have h0 : 0 < w1.heap.size := HO1.out.tab.size
    clear hSd x0 x1 HL1
    go_wp2_with fail
    go_loopw [27] (fun vi wr => ∃ k : Nat, k ≤ p.length ∧ vi = .int .i64 (k : Int) ∧ Hid (Cb X I F f (i / 2 ^ k) (clF f i x p k) wr) ∧ Hid (Blk T wr [(clF f i x p k).1, (clF f i x p k).2]) ∧ Hid (On w1 wr)) (fun vi _ => p.length - (intOf vi).toNat)
    case atStart => exact ⟨0, Nat.zero_le _, rfl, by rw [Nat.pow_zero, Nat.div_one]; exact HCa, HTa, HOa⟩
    case round =>
      obtain ⟨k, hk, rfl, HC, HB, HO⟩ := hrel
      by_cases hlt : k < p.length
      · have hlt' : (k : Int) < (p.length : Int) := by omega
        obtain ⟨b, off, rfl, c0, c1⟩ := HP1.out.cells k hlt
        have c0' := (HO.out.cell (p := ⟨b, off + k * 2, none⟩) (cell_size c0)).trans c0
        have c1' := (HO.out.cell (p := ⟨b, off + k * 2 + 1, none⟩) (cell_size c1)).trans c1
        have hps := HP1.out.sm k
        have hcs := clF_sm f i x p hxs k
        have HN : Hid (nodeF f (prD (i / 2 ^ k) (clF f i x p k) (p.getD k zD)).1 (prD (i / 2 ^ k) (clF f i x p k) (p.getD k zD)).2 = clF f i x p (k + 1)) := rfl
        have HI2 : Hid (i / 2 ^ k / 2 = i / 2 ^ (k + 1)) := by refine Lib.hid ?_; rw [Nat.pow_succ, Nat.div_div_eq_div_mul]
        have hik : i / 2 ^ k ≤ 9223372036854775807 := Nat.le_trans (Nat.div_le_self _ _) hi
        clear c0 c1
        generalize hy : clF f i x p (k + 1) = y at *
        have HY := Lib.hid hy
        clear hy
        generalize clF f i x p k = xk at *
        generalize p.getD k zD = pk at *
        have HOa' : Hid (On wr (wr.alloc (.cells #[.int .u64 ((pk.1 : Nat) : Int), .int .u64 ((pk.2 : Nat) : Int)] 36))) := (On.refl HO.out.tab).alloc _
        have HCL := Lib.hid (climb1_any X I F f (i / 2 ^ k) xk pk _ HOa'.out.tab (HC.out.on HOa'.out) hcs hps hik (by omega) (by omega))
        rw [HN.out, HI2.out] at HCL
        have HOb := Lib.hid (HO.out.trans HOa'.out)
        have HBb := Lib.hid (HB.out.on HOa'.out)
        clear HC HB HO HOa'
        go_upto_region 7 with fail
        go_wp2_with (go_at_call 60; (with_reducible refine HCL.out.mono ?_); rintro e w3 ⟨rfl, hC3, hK3⟩; have HC3 := Lib.hid hC3; have HO3 := Lib.hid (HOb.out.k2 hX0 hI0 hK3); have HB3 := Lib.hid (HBb.out.k2 hK3 hTX hTI); clear hC3 hK3; obtain ⟨b0, b1⟩ := HB3.out.cells2; have e0 := HB3.out.free 0; have e1 := HB3.out.free 1)
        have HB4 := Lib.hid (HB3.out.store2 y.1 y.2)
        have HC4 := Lib.hid (HC3.out.ap (ap2 T w3 (.int .u64 ((y.1 : Nat) : Int)) (.int .u64 ((y.2 : Nat) : Int))) hTX.symm hTI.symm hTF.symm)
        have HO4 := Lib.hid (HO3.out.store2 hT0 (.int .u64 ((y.1 : Nat) : Int)) (.int .u64 ((y.2 : Nat) : Int)))
        rw [← HY.out] at HB4 HC4 HO4 ⊢
        go_roundw
        case rel => exact ⟨k + 1, by omega, by simp, HC4, HB4, HO4⟩
        case measure => simp [intOf]; omega
      · obtain rfl : k = p.length := by omega
        obtain ⟨b0, b1⟩ := HB.out.cells2
        have HRz := Lib.hid (HR1.out.on HO.out)
        have HOz := Lib.hid (HO1.out.trans HO.out)
        clear HC HB HO
        generalize hye : clF f i x p p.length = y at *
        have HYE := Lib.hid hye
        clear hye
        obtain ⟨r0, r1⟩ := HRz.out.cells2
        have f0 := HRz.out.free 0
        have f1 := HRz.out.free 1
        have HP := Lib.hid (Blk.cells2 (HRz.out.store2 y.1 y.2))
        go_wp2
        obtain ⟨p0, p1⟩ := HP.out
        refine bodyPost_ret (v := dgV y) (by simp [results, Tryd.results45, go_sem, p0, p1]; try rfl) rfl ?_
        exact ⟨by rw [HYE.out], HOz.out.store2 (by omega) _ _⟩
end Go.Proofs.YthepmahjpejmdaaDoor
