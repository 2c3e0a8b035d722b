/- Boxes of values in memory; a channel in a box; one of its acts: what the call returns. -/
import Derived.Test.YtcbmeegmdgllkaaDoorSpubb
import Derived.Test.YtcbmeegmdgllkaaDoorHplain
namespace Go.Proofs.YtcbmeegmdgllkaaDoor
open Go.RowKit
set_option linter.unusedVariables false

/-- Block B holds the values l from its first cell on, and may be written. -/
def VB (B : Nat) (w : World) (l : List Value) : Prop :=
  B < w.heap.size ∧ (∀ i v, l[i]? = some v → w.cell? ⟨B, i, none⟩ = some v) ∧ ∀ i, w.frozen? ⟨B, i, none⟩ = false
theorem VB.kept {B : Nat} {w w' : World} {l : List Value} (h : VB B w l) (hs : w.heap.size ≤ w'.heap.size) (hb : w'.heap[B]? = w.heap[B]?) : VB B w' l :=
  ⟨Nat.lt_of_lt_of_le h.1 hs, fun i v hi => (World.cell?_of_block (a := ⟨B, i, none⟩) hb).trans (h.2.1 i v hi), fun i => (World.frozen?_of_block (a := ⟨B, i, none⟩) hb).trans (h.2.2 i)⟩
theorem VB.on {B : Nat} {w w' : World} {l : List Value} (h : VB B w l) (k : On w w') : VB B w' l := h.kept k.size (k.2.block B h.1)
theorem VB.drewN {B : Nat} {w : World} {l : List Value} (h : VB B w l) (n : Nat) : VB B (w.drewN n) l := h
theorem VB.other {B : Nat} {w : World} {l : List Value} (h : VB B w l) (p : Addr) (hne : B ≠ p.block) (u : Value) : VB B (w.setCell p u) l := h.kept (by simp [World.setCell]) (Below.heap_setCell _ _ _ _ hne)
theorem VB.set {B : Nat} {w : World} {l : List Value} (h : VB B w l) (j : Nat) (x : Value) (hj : j < l.length) : VB B (w.setCell ⟨B, j, none⟩ x) (l.set j x) := by
  have hc : w.cell? ⟨B, j, none⟩ = some l[j] := h.2.1 j _ (List.getElem?_eq_getElem hj)
  refine ⟨by simpa [World.setCell] using h.1, fun i v hi => ?_, fun i => ?_⟩
  · by_cases e : i = j
    · subst e
      rw [List.getElem?_set, if_pos rfl, if_pos hj] at hi
      rw [World.cell?_setCell_same _ _ _ (by rw [hc]), hi]
    · rw [List.getElem?_set, if_neg (fun e' => e e'.symm)] at hi
      rw [World.cell?_setCell_other _ _ _ _ (by simp [e])]
      exact h.2.1 i v hi
  · have := h.2.2 i
    simpa using this
theorem vb_new (w : World) (a : Array Value) (t : TypeId) : VB w.heap.size (w.alloc (.cells a t)) a.toList := by
  refine ⟨by simp, fun i v hi => ?_, fun i => World.frozen?_alloc_new ..⟩
  rw [World.cell?_alloc_new]
  simpa using hi
/-- The cells of a channel. -/
def chL (f : Int) (s : St) : List Value := [.int .i64 f, .int .u64 (s.a : Int), .int .u64 (s.b : Int), .int .u64 (s.c : Int), .int .u64 (s.d : Int)]
theorem VB.cells5 {B : Nat} {w : World} {f : Int} {s : St} (h : VB B w (chL f s)) : w.cell? ⟨B, 0, none⟩ = some (.int .i64 f) ∧ w.cell? ⟨B, 1, none⟩ = some (.int .u64 (s.a : Int)) ∧ w.cell? ⟨B, 2, none⟩ = some (.int .u64 (s.b : Int)) ∧ w.cell? ⟨B, 3, none⟩ = some (.int .u64 (s.c : Int)) ∧ w.cell? ⟨B, 4, none⟩ = some (.int .u64 (s.d : Int)) :=
  ⟨h.2.1 0 _ rfl, h.2.1 1 _ rfl, h.2.1 2 _ rfl, h.2.1 3 _ rfl, h.2.1 4 _ rfl⟩
theorem VB.free5 {B : Nat} {w : World} {l : List Value} (h : VB B w l) : w.frozen? ⟨B, 0, none⟩ = false ∧ w.frozen? ⟨B, 1, none⟩ = false ∧ w.frozen? ⟨B, 2, none⟩ = false ∧ w.frozen? ⟨B, 3, none⟩ = false ∧ w.frozen? ⟨B, 4, none⟩ = false := ⟨h.2.2 0, h.2.2 1, h.2.2 2, h.2.2 3, h.2.2 4⟩
theorem VB.store5 {B : Nat} {w : World} {f : Int} {s : St} (h : VB B w (chL f s)) (g : Int) (z : St) :
    VB B (((((w.setCell ⟨B, 0, none⟩ (.int .i64 g)).setCell ⟨B, 1, none⟩ (.int .u64 (z.a : Int))).setCell ⟨B, 2, none⟩ (.int .u64 (z.b : Int))).setCell ⟨B, 3, none⟩ (.int .u64 (z.c : Int))).setCell ⟨B, 4, none⟩ (.int .u64 (z.d : Int))) (chL g z) :=
  ((((h.set 0 _ (by simp [chL])).set 1 _ (by simp [chL])).set 2 _ (by simp [chL])).set 3 _ (by simp [chL])).set 4 _ (by simp [chL])
theorem VB.storeS {B : Nat} {w : World} {f : Int} {s : St} (h : VB B w (chL f s)) (z : St) :
    VB B ((((w.setCell ⟨B, 1, none⟩ (.int .u64 (z.a : Int))).setCell ⟨B, 2, none⟩ (.int .u64 (z.b : Int))).setCell ⟨B, 3, none⟩ (.int .u64 (z.c : Int))).setCell ⟨B, 4, none⟩ (.int .u64 (z.d : Int))) (chL f z) :=
  (((h.set 1 _ (by simp [chL])).set 2 _ (by simp [chL])).set 3 _ (by simp [chL])).set 4 _ (by simp [chL])
theorem VB.other5 {B C : Nat} {w : World} {l : List Value} (h : VB B w l) (hne : B ≠ C) (u0 u1 u2 u3 u4 : Value) :
    VB B (((((w.setCell ⟨C, 0, none⟩ u0).setCell ⟨C, 1, none⟩ u1).setCell ⟨C, 2, none⟩ u2).setCell ⟨C, 3, none⟩ u3).setCell ⟨C, 4, none⟩ u4) l := ((((h.other _ hne _).other _ hne _).other _ hne _).other _ hne _).other _ hne _
theorem VB.otherS {B C : Nat} {w : World} {l : List Value} (h : VB B w l) (hne : B ≠ C) (u1 u2 u3 u4 : Value) :
    VB B ((((w.setCell ⟨C, 1, none⟩ u1).setCell ⟨C, 2, none⟩ u2).setCell ⟨C, 3, none⟩ u3).setCell ⟨C, 4, none⟩ u4) l := (((h.other _ hne _).other _ hne _).other _ hne _).other _ hne _
theorem On.store5 {C : Nat} {W w : World} (h : On W w) (hC : W.heap.size ≤ C) (u0 u1 u2 u3 u4 : Value) :
    On W (((((w.setCell ⟨C, 0, none⟩ u0).setCell ⟨C, 1, none⟩ u1).setCell ⟨C, 2, none⟩ u2).setCell ⟨C, 3, none⟩ u3).setCell ⟨C, 4, none⟩ u4) := ((((h.setCell hC _).setCell hC _).setCell hC _).setCell hC _).setCell hC _
theorem On.storeS {C : Nat} {W w : World} (h : On W w) (hC : W.heap.size ≤ C) (u1 u2 u3 u4 : Value) :
    On W ((((w.setCell ⟨C, 1, none⟩ u1).setCell ⟨C, 2, none⟩ u2).setCell ⟨C, 3, none⟩ u3).setCell ⟨C, 4, none⟩ u4) := (((h.setCell hC _).setCell hC _).setCell hC _).setCell hC _
def z4 : St := ⟨0, 0, 0, 0⟩
/-- The two boxes of a call that takes and returns a channel. -/
theorem boxC {w : World} (hT : Tab w) (f : Int) (s : St) : ∃ W0, W0 = (w.alloc (.cells #[.int .i64 f, .int .u64 (s.a : Int), .int .u64 (s.b : Int), .int .u64 (s.c : Int), .int .u64 (s.d : Int)] 25)).alloc (.cells #[.int .i64 0, .int .u64 0, .int .u64 0, .int .u64 0, .int .u64 0] 25) ∧ VB w.heap.size W0 (chL f s) ∧ VB (w.heap.size + 1) W0 (chL 0 z4) ∧ On w W0 := by
  refine ⟨_, rfl, (vb_new w _ 25).on ((On.refl ((On.refl hT).alloc _).tab).alloc _), ?_, ((On.refl hT).alloc _).alloc _⟩
  have := vb_new (w.alloc (.cells #[.int .i64 f, .int .u64 (s.a : Int), .int .u64 (s.b : Int), .int .u64 (s.c : Int), .int .u64 (s.d : Int)] 25)) #[.int .i64 0, .int .u64 0, .int .u64 0, .int .u64 0, .int .u64 0] 25
  rw [show (w.alloc (.cells #[.int .i64 f, .int .u64 (s.a : Int), .int .u64 (s.b : Int), .int .u64 (s.c : Int), .int .u64 (s.d : Int)] 25)).heap.size = w.heap.size + 1 by simp] at this
  exact this
theorem act_sm (f : Int) (m x : Nat) (s : St) (hs : Sm s) : Sm ⟨addF f s.a x, addF f s.b m, s.c, s.d⟩ := by
  have h1 := addF_le f s.a x
  have h2 := addF_le f s.b m
  exact ⟨by show addF f s.a x ≤ _; omega, by show addF f s.b m ≤ _; omega, hs.2.2.1, hs.2.2.2⟩
set_option maxHeartbeats 1000000 in
set_option maxRecDepth 100000 in
theorem act_any (f : Int) (m x : Nat) (s : St) (w : World) (hT : Tab w) (hv : validB f = true) (hs : Sm s) (hm : m ≤ 18446744073709551615) (hx : x ≤ 18446744073709551615) :
    Calls Tryd.prog 26 #[.agg #[.int .i64 f, .int .u64 (s.a : Int), .int .u64 (s.b : Int), .int .u64 (s.c : Int), .int .u64 (s.d : Int)], .int .u64 (m : Int), .int .u64 (x : Int)] w fun e w' => e = .returned (.agg #[.int .i64 f, .int .u64 ((actS f m x s).a : Int), .int .u64 ((actS f m x s).b : Int), .int .u64 ((actS f m x s).c : Int), .int .u64 ((actS f m x s).d : Int)]) ∧ On w w' := by
  obtain ⟨W0, hW0, hA, hR, hO⟩ := boxC hT f s
  obtain ⟨c0, c1, c2, c3, c4⟩ := hA.cells5
  obtain ⟨f0, f1, f2, f3, f4⟩ := hA.free5
  have HA := Lib.hid hA
  have HR := Lib.hid hR
  have HO := Lib.hid hO
  have HW0 := Lib.hid hW0
  have ha := hs.1
  have hb := hs.2.1
  have HADD1 : Hid (∀ w, Tab w → _) := fun w h => add_any f s.a x w h ha hx
  have HADD2 : Hid (∀ w, Tab w → _) := fun w h => add_any f s.b m w h hb hm
  have HPERM : Hid (∀ u, Tab u → Calls Tryd.prog 37 #[.int .i64 f, .agg #[.int .u64 ((addF f s.a x : Nat) : Int), .int .u64 ((addF f s.b m : Nat) : Int), .int .u64 (s.c : Int), .int .u64 (s.d : Int)]] u fun e w' => e = .returned (.agg #[.int .u64 ((actS f m x s).a : Int), .int .u64 ((actS f m x s).b : Int), .int .u64 ((actS f m x s).c : Int), .int .u64 ((actS f m x s).d : Int)]) ∧ On u w') := fun u h => by
    have h2 := perm_any f ⟨addF f s.a x, addF f s.b m, s.c, s.d⟩ u h (act_sm f m x s hs)
    rw [okS_yes hv] at h2
    exact h2
  have HA2 : Hid (VB w.heap.size ((W0.setCell ⟨w.heap.size, 1, none⟩ (.int .u64 ((addF f s.a x : Nat) : Int))).setCell ⟨w.heap.size, 2, none⟩ (.int .u64 ((addF f s.b m : Nat) : Int))) (chL f ⟨addF f s.a x, addF f s.b m, s.c, s.d⟩)) := (hA.set 1 _ (by simp [chL])).set 2 _ (by simp [chL])
  have HR2 : Hid (VB (w.heap.size + 1) ((W0.setCell ⟨w.heap.size, 1, none⟩ (.int .u64 ((addF f s.a x : Nat) : Int))).setCell ⟨w.heap.size, 2, none⟩ (.int .u64 ((addF f s.b m : Nat) : Int))) (chL 0 z4)) := (hR.other _ (by simp) _).other _ (by simp) _
  have HO2 : Hid (On w ((W0.setCell ⟨w.heap.size, 1, none⟩ (.int .u64 ((addF f s.a x : Nat) : Int))).setCell ⟨w.heap.size, 2, none⟩ (.int .u64 ((addF f s.b m : Nat) : Int)))) := (hO.setCell (by simp) _).setCell (by simp) _
  have HO1 : Hid (On w (W0.setCell ⟨w.heap.size, 1, none⟩ (.int .u64 ((addF f s.a x : Nat) : Int)))) := hO.setCell (by simp) _
  obtain ⟨Z, hZ⟩ : ∃ Z, Z = actS f m x s := ⟨_, rfl⟩
  rw [← hZ] at HPERM ⊢
  clear hT hv hs hm hx ha hb hW0 hA hR hO hZ
  go_enter Tryd.func26, Tryd.ntmps26
  go_upto_region 1 with fail
  rw [← HW0.out]
  go_wp2_with fail
  with_reducible refine (HADD1.out _ HO.out.tab).mono ?_
  rintro e w' ⟨rfl, rfl⟩
  go_wp2_with fail
  with_reducible refine (HADD2.out _ HO1.out.tab).mono ?_
  rintro e w' ⟨rfl, rfl⟩
  go_wp2_with fail
  with_reducible refine (HPERM.out _ HO2.out.tab).mono ?_
  rintro e w2 ⟨rfl, hO2⟩
  have HA3 := Lib.hid (HA2.out.on hO2)
  have HR3 := Lib.hid (HR2.out.on hO2)
  have HO3 := Lib.hid (HO2.out.trans hO2)
  clear c0 c1 c2 c3 c4 f0 f1 f2 f3 f4 HA HR HO HA2 HR2 HO2 HO1 HADD1 HADD2 HPERM hO2 HW0
  obtain ⟨f0, f1, f2, f3, f4⟩ := HA3.out.free5
  obtain ⟨r0, r1, r2, r3, r4⟩ := HR3.out.cells5
  obtain ⟨g0, g1, g2, g3, g4⟩ := HR3.out.free5
  obtain ⟨c0, c1, c2, c3, c4⟩ := HA3.out.cells5
  have HA4 := Lib.hid (HA3.out.storeS Z)
  have HR4 := Lib.hid (HR3.out.otherS (C := w.heap.size) (by omega) (.int .u64 (Z.a : Int)) (.int .u64 (Z.b : Int)) (.int .u64 (Z.c : Int)) (.int .u64 (Z.d : Int)))
  have HO4 := Lib.hid (HO3.out.storeS (C := w.heap.size) (Nat.le_refl _) (.int .u64 (Z.a : Int)) (.int .u64 (Z.b : Int)) (.int .u64 (Z.c : Int)) (.int .u64 (Z.d : Int)))
  go_upto_region 4 with fail
  generalize hu : ((((w2.setCell ⟨w.heap.size, 1, none⟩ (.int .u64 (Z.a : Int))).setCell ⟨w.heap.size, 2, none⟩ (.int .u64 (Z.b : Int))).setCell ⟨w.heap.size, 3, none⟩ (.int .u64 (Z.c : Int))).setCell ⟨w.heap.size, 4, none⟩ (.int .u64 (Z.d : Int))) = u at *
  clear hu f0 f1 f2 f3 f4 r0 r1 r2 r3 r4 g0 g1 g2 g3 g4 c0 c1 c2 c3 c4 HA3 HR3 HO3
  obtain ⟨r0, r1, r2, r3, r4⟩ := HR4.out.cells5
  obtain ⟨g0, g1, g2, g3, g4⟩ := HR4.out.free5
  obtain ⟨c0, c1, c2, c3, c4⟩ := HA4.out.cells5
  have HP := Lib.hid (HR4.out.store5 f Z)
  go_wp2
  obtain ⟨p0, p1, p2, p3, p4⟩ := HP.out.cells5
  refine bodyPost_ret (v := .agg #[.int .i64 f, .int .u64 (Z.a : Int), .int .u64 (Z.b : Int), .int .u64 (Z.c : Int), .int .u64 (Z.d : Int)]) (by simp [results, Tryd.results26, go_sem, p0, p1, p2, p3, p4]; try rfl) rfl ?_
  exact ⟨rfl, HO4.out.store5 (by omega) _ _ _ _ _⟩
end Go.Proofs.YtcbmeegmdgllkaaDoor
