/- Boxes of two numbers: made, stored anew, and beside a store to another one. -/
import Derived.Test.YtdgmlmcllkgemaaKz20
import Derived.Test.YtdgmlmcllkgemaaKz21
import Derived.Test.YtdgmlmcllkgemaaKz17
import Derived.Deep.DeepCutAuto
import Derived.Test.YtdgmlmcllkgemaaKz15
set_option linter.unusedSimpArgs false
set_option linter.unusedVariables false
/- Boxes of two numbers: made, stored anew, and beside a store to another one. -/
namespace Go.Proofs.Ytdgmlmcllkgemaa
open Go.RowKit
set_option linter.unusedVariables false
set_option linter.unusedSimpArgs false
set_option maxRecDepth 100000

section
variable {P : Program} {ops : Array Oper} {md : Region.Mode} {S : World → Prop} {Q : Exit → Act → World → Prop}
/-- One of two may come up. -/
theorem HeadG.fork {n g f i j : Nat} {oi oj : Oper} {done : Array Bool} {a : Act} {w : World} (hoi : ops[i]? = some oi) (hoj : ops[j]? = some oj) (hr : Region.ready md ops done = [i, j]) (hin : decide (i < n) = true) (hjn : decide (j < n) = true)
    (hi : ∀ K' : Act → World → Prop, Shut (∀ a w, S w → HeadG P md ops Q S n g f (done.setIfInBounds i true) a w → K' a w) → if Region.wanted oi (yielded ops a.tmps) = true then Oper.wp P oi a w K' Q else K' (a.put oi.dst undef) w)
    (hj : ∀ K' : Act → World → Prop, Shut (∀ a w, S w → HeadG P md ops Q S n g f (done.setIfInBounds j true) a w → K' a w) → if Region.wanted oj (yielded ops a.tmps) = true then Oper.wp P oj a w K' Q else K' (a.put oj.dst undef) w) :
    HeadG P md ops Q S n g (f + 1) done a w := fun inv => by
  have hin' : i < n := by simpa using hin
  have hjn' : j < n := by simpa using hjn
  have hmi : i ∈ Region.ready md ops done := by rw [hr]; simp
  have hmj : j ∈ Region.ready md ops done := by rw [hr]; simp
  refine ⟨by rw [hr]; simp, fun k hk => ?_⟩
  rw [hr] at hk
  rcases List.mem_cons.1 hk with rfl | hk
  · exact ⟨hin', wpOp_step hoi (fun K' hK => hi K' (fun a w hS hW => hK a w ⟨hS, hW (inv.set hmi hin')⟩))⟩
  · rw [List.mem_singleton] at hk
    subst hk
    exact ⟨hjn', wpOp_step hoj (fun K' hK => hj K' (fun a w hS hW => hK a w ⟨hS, hW (inv.set hmj hjn')⟩))⟩
end
theorem Nv.notInt {w : World} {v : Value} {n : Nat} (h : Nv w v n) : ∀ x, v ≠ .int .u32 x := fun x e => by
  obtain ⟨oa, c, h, _⟩ := h
  rw [h] at e; cases e
/-- The box R holds the two numbers P and Q; all before w0 stays. -/
def BX (w0 : World) (R : Nat) (wr : World) (sP sQ : Value) (P Q : Nat) : Prop := On w0 wr ∧ R < wr.heap.size ∧ w0.heap.size ≤ R ∧ wr.cell? ⟨R, 0, none⟩ = some sP ∧ wr.cell? ⟨R, 1, none⟩ = some sQ ∧ wr.frozen? ⟨R, 0, none⟩ = false ∧ wr.frozen? ⟨R, 1, none⟩ = false ∧ NoLimb wr R ∧ Nv wr sP P ∧ Nv wr sQ Q
theorem BX.on {w0 wr w' : World} {R : Nat} {sP sQ : Value} {P Q : Nat} (h : BX w0 R wr sP sQ P Q) (k : On wr w') : BX w0 R w' sP sQ P Q := by
  obtain ⟨h1, h2, h3, h4, h5, h6, h7, h8, h9, h10⟩ := h
  exact ⟨h1.trans k, Nat.lt_of_lt_of_le h2 k.size, h3, (Below.cell k (cell_size h4)).trans h4, (Below.cell k (cell_size h5)).trans h5, (Below.frozen k (p := ⟨R, 0, none⟩) h2).trans h6, (Below.frozen k (p := ⟨R, 1, none⟩) h2).trans h7, h8.on k h2, h9.on k, h10.on k⟩
theorem BX.make {w0 w : World} {vp vq : Value} {P Q : Nat} (hO : On w0 w) (hp : Nv w vp P) (hq : Nv w vq Q) : BX w0 w.heap.size (w.alloc (.cells #[vp, vq] 41)) vp vq P Q := by
  have hA : On w (w.alloc (.cells #[vp, vq] 41)) := (On.refl w).alloc _
  refine ⟨hO.trans hA, by simp, hO.size, by rw [World.cell?_alloc_new]; rfl, by rw [World.cell?_alloc_new]; rfl, World.frozen?_alloc_new .., World.frozen?_alloc_new .., NoLimb.made w _ _ (fun k x => ?_), hp.on hA, hq.on hA⟩
  match k with
  | 0 => simpa using hp.notInt x
  | 1 => simpa using hq.notInt x
  | k + 2 => simp
/-- What a walk wants for a store of two values into a box. -/
theorem BX.facts {w0 w : World} {R : Nat} {sP sQ : Value} {P Q : Nat} (h : BX w0 R w sP sQ P Q) (v v' : Value) :
    w.cell? ⟨R, 0, none⟩ = some sP ∧ w.frozen? ⟨R, 0, none⟩ = false ∧ (w.setCell ⟨R, 0, none⟩ v).cell? ⟨R, 1, none⟩ = some sQ ∧ w.frozen? ⟨R, 1, none⟩ = false ∧
    ((w.setCell ⟨R, 0, none⟩ v).setCell ⟨R, 1, none⟩ v').cell? ⟨R, 0, none⟩ = some v ∧ ((w.setCell ⟨R, 0, none⟩ v).setCell ⟨R, 1, none⟩ v').cell? ⟨R, 1, none⟩ = some v' := by
  obtain ⟨h1, h2, h3, h4, h5, h6, h7, h8, h9, h10⟩ := h
  have d1 : (w.setCell ⟨R, 0, none⟩ v).cell? ⟨R, 1, none⟩ = some sQ := by rw [World.cell?_setCell_other (h := fun e => by simp at e) ..]; exact h5
  refine ⟨h4, h6, d1, h7, ?_, World.cell?_setCell_same (h := d1) ..⟩
  rw [World.cell?_setCell_other (h := fun e => by simp at e) ..]
  exact World.cell?_setCell_same (h := h4) ..
theorem BX.store {w0 w : World} {R : Nat} {sP sQ v v' : Value} {P Q P' Q' : Nat} (h : BX w0 R w sP sQ P Q) (hp : Nv w v P') (hq : Nv w v' Q') : BX w0 R ((w.setCell ⟨R, 0, none⟩ v).setCell ⟨R, 1, none⟩ v') v v' P' Q' := by
  obtain ⟨h1, h2, h3, h4, h5, h6, h7, h8, h9, h10⟩ := h
  have d1 : (w.setCell ⟨R, 0, none⟩ v).cell? ⟨R, 1, none⟩ = some sQ := by rw [World.cell?_setCell_other (h := fun e => by simp at e) ..]; exact h5
  have hN1 : NoLimb (w.setCell ⟨R, 0, none⟩ v) R := h8.set 0 v hp.notInt
  refine ⟨(h1.setCell h3 _).setCell h3 _, by simpa using h2, h3, ?_, World.cell?_setCell_same (h := d1) .., by simpa using h6, by simpa using h7, hN1.set 1 v' hq.notInt, (hp.set h8 0 _).set hN1 1 _, (hq.set h8 0 _).set hN1 1 _⟩
  rw [World.cell?_setCell_other (h := fun e => by simp at e) ..]
  exact World.cell?_setCell_same (h := h4) ..
theorem BX.other {w0 w : World} {R R' : Nat} {sP sQ rP rQ v v' : Value} {P Q A B P' Q' : Nat} (h : BX w0 R w sP sQ P Q) (k : BX w0 R' w rP rQ A B) (hn : R ≠ R') (hp : Nv w v P') (hq : Nv w v' Q') : BX w0 R' ((w.setCell ⟨R, 0, none⟩ v).setCell ⟨R, 1, none⟩ v') rP rQ A B := by
  obtain ⟨h1, h2, h3, h4, h5, h6, h7, h8, h9, h10⟩ := h
  obtain ⟨k1, k2, k3, k4, k5, k6, k7, k8, k9, k10⟩ := k
  have hN1 : NoLimb (w.setCell ⟨R, 0, none⟩ v) R := h8.set 0 v hp.notInt
  refine ⟨(k1.setCell h3 _).setCell h3 _, by simpa using k2, k3, ?_, ?_, by simpa using k6, by simpa using k7, ?_, (k9.set h8 0 _).set hN1 1 _, (k10.set h8 0 _).set hN1 1 _⟩
  · rw [World.cell?_setCell_far _ _ _ _ hn, World.cell?_setCell_far _ _ _ _ hn]; exact k4
  · rw [World.cell?_setCell_far _ _ _ _ hn, World.cell?_setCell_far _ _ _ _ hn]; exact k5
  · intro i x
    rw [World.cell?_setCell_far _ _ _ _ hn, World.cell?_setCell_far _ _ _ _ hn]; exact k8 i x
theorem BX.fv {w0 w : World} {R : Nat} {sP sQ : Value} {P Q : Nat} (h : BX w0 R w sP sQ P Q) : Fv w (.agg #[sP, sQ]) P Q := ⟨_, _, rfl, h.2.2.2.2.2.2.2.2.1, h.2.2.2.2.2.2.2.2.2⟩
theorem BX.shape {w0 w : World} {R : Nat} {sP sQ : Value} {P Q : Nat} (h : BX w0 R w sP sQ P Q) : ∃ o c o' c', sP = .slice o (nl P) c ∧ sQ = .slice o' (nl Q) c' := by
  obtain ⟨o, c, h1, -⟩ := h.2.2.2.2.2.2.2.2.1
  obtain ⟨o', c', h2, -⟩ := h.2.2.2.2.2.2.2.2.2
  exact ⟨o, c, o', c', h1, h2⟩
theorem BX.cells {w0 w : World} {R : Nat} {sP sQ : Value} {P Q : Nat} (h : BX w0 R w sP sQ P Q) : w.cell? ⟨R, 0, none⟩ = some sP ∧ w.cell? ⟨R, 1, none⟩ = some sQ := ⟨h.2.2.2.1, h.2.2.2.2.1⟩
theorem BX.nil (w : World) : BX w w.heap.size (w.alloc (.cells #[.slice none 0 0, .slice none 0 0] 41)) (.slice none 0 0) (.slice none 0 0) 0 0 := BX.make (On.refl w) (Nv.nil w) (Nv.nil w)
/-- The box R holds two lists; all before w0 stays. -/
def BY (w0 : World) (R : Nat) (wr : World) (sP sQ : Value) : Prop := On w0 wr ∧ R < wr.heap.size ∧ w0.heap.size ≤ R ∧ wr.cell? ⟨R, 0, none⟩ = some sP ∧ wr.cell? ⟨R, 1, none⟩ = some sQ ∧ wr.frozen? ⟨R, 0, none⟩ = false ∧ wr.frozen? ⟨R, 1, none⟩ = false ∧ NoLimb wr R
theorem BY.on {w0 wr w' : World} {R : Nat} {sP sQ : Value} (h : BY w0 R wr sP sQ) (k : On wr w') : BY w0 R w' sP sQ := by
  obtain ⟨h1, h2, h3, h4, h5, h6, h7, h8⟩ := h
  exact ⟨h1.trans k, Nat.lt_of_lt_of_le h2 k.size, h3, (Below.cell k (cell_size h4)).trans h4, (Below.cell k (cell_size h5)).trans h5, (Below.frozen k (p := ⟨R, 0, none⟩) h2).trans h6, (Below.frozen k (p := ⟨R, 1, none⟩) h2).trans h7, h8.on k h2⟩
theorem BY.make {w0 w : World} {vp vq : Value} (hO : On w0 w) (hp : ∀ x, vp ≠ .int .u32 x) (hq : ∀ x, vq ≠ .int .u32 x) : BY w0 w.heap.size (w.alloc (.cells #[vp, vq] 41)) vp vq := by
  have hA : On w (w.alloc (.cells #[vp, vq] 41)) := (On.refl w).alloc _
  refine ⟨hO.trans hA, by simp, hO.size, by rw [World.cell?_alloc_new]; rfl, by rw [World.cell?_alloc_new]; rfl, World.frozen?_alloc_new .., World.frozen?_alloc_new .., NoLimb.made w _ _ (fun k x => ?_)⟩
  match k with
  | 0 => simpa using hp x
  | 1 => simpa using hq x
  | k + 2 => simp
theorem BY.facts {w0 w : World} {R : Nat} {sP sQ : Value} (h : BY w0 R w sP sQ) (v v' : Value) :
    w.cell? ⟨R, 0, none⟩ = some sP ∧ w.frozen? ⟨R, 0, none⟩ = false ∧ (w.setCell ⟨R, 0, none⟩ v).cell? ⟨R, 1, none⟩ = some sQ ∧ w.frozen? ⟨R, 1, none⟩ = false := by
  obtain ⟨h1, h2, h3, h4, h5, h6, h7, h8⟩ := h
  have d1 : (w.setCell ⟨R, 0, none⟩ v).cell? ⟨R, 1, none⟩ = some sQ := by rw [World.cell?_setCell_other (h := fun e => by simp at e) ..]; exact h5
  exact ⟨h4, h6, d1, h7⟩
theorem BY.store {w0 w : World} {R : Nat} {sP sQ v v' : Value} (h : BY w0 R w sP sQ) (hp : ∀ x, v ≠ .int .u32 x) (hq : ∀ x, v' ≠ .int .u32 x) : BY w0 R ((w.setCell ⟨R, 0, none⟩ v).setCell ⟨R, 1, none⟩ v') v v' := by
  obtain ⟨h1, h2, h3, h4, h5, h6, h7, h8⟩ := h
  have d1 : (w.setCell ⟨R, 0, none⟩ v).cell? ⟨R, 1, none⟩ = some sQ := by rw [World.cell?_setCell_other (h := fun e => by simp at e) ..]; exact h5
  have hN1 : NoLimb (w.setCell ⟨R, 0, none⟩ v) R := h8.set 0 v hp
  refine ⟨(h1.setCell h3 _).setCell h3 _, by simpa using h2, h3, ?_, World.cell?_setCell_same (h := d1) .., by simpa using h6, by simpa using h7, hN1.set 1 v' hq⟩
  rw [World.cell?_setCell_other (h := fun e => by simp at e) ..]
  exact World.cell?_setCell_same (h := h4) ..
theorem BY.other {w0 w : World} {R R' : Nat} {sP sQ rP rQ v v' : Value} (h : BY w0 R w sP sQ) (k : BY w0 R' w rP rQ) (hn : R ≠ R') : BY w0 R' ((w.setCell ⟨R, 0, none⟩ v).setCell ⟨R, 1, none⟩ v') rP rQ := by
  obtain ⟨h1, h2, h3, h4, h5, h6, h7, h8⟩ := h
  obtain ⟨k1, k2, k3, k4, k5, k6, k7, k8⟩ := k
  refine ⟨(k1.setCell h3 _).setCell h3 _, by simpa using k2, k3, ?_, ?_, by simpa using k6, by simpa using k7, ?_⟩
  · rw [World.cell?_setCell_far _ _ _ _ hn, World.cell?_setCell_far _ _ _ _ hn]; exact k4
  · rw [World.cell?_setCell_far _ _ _ _ hn, World.cell?_setCell_far _ _ _ _ hn]; exact k5
  · intro i x
    rw [World.cell?_setCell_far _ _ _ _ hn, World.cell?_setCell_far _ _ _ _ hn]; exact k8 i x
theorem Lv.set {w : World} {v : Value} {m R : Nat} {X : Int} (h : Lv w v m X) (hR : NoLimb w R) (i : Nat) (u : Value) : Lv (w.setCell ⟨R, i, none⟩ u) v m X := by
  obtain ⟨oa, cap, h1, h2, h3, h4⟩ := h
  refine ⟨oa, cap, h1, h2, h3, fun k hk => ?_⟩
  obtain ⟨b, off, rfl, hc⟩ := h4 k hk
  refine ⟨b, off, rfl, ?_⟩
  rw [World.cell?_setCell_other (h := fun e => by simp at e; rw [← e.1] at hc; exact hR _ _ hc) ..]; exact hc
theorem Lz.past {w0 w : World} {R : Nat} {sP sQ v v' u : Value} {m x : Nat} (hL : Lz w u m x) (h : BY w0 R w sP sQ) (hp : ∀ x, v ≠ .int .u32 x) : Lz ((w.setCell ⟨R, 0, none⟩ v).setCell ⟨R, 1, none⟩ v') u m x := by
  obtain ⟨h1, h2, h3, h4, h5, h6, h7, h8⟩ := h
  exact ⟨(hL.1.set h8 0 _).set (h8.set 0 v hp) 1 _, hL.2⟩
theorem Lz.notInt {w : World} {u : Value} {m x : Nat} (h : Lz w u m x) : ∀ y, u ≠ .int .u32 y := fun y e => by
  obtain ⟨oa, c, h1, _⟩ := h.1
  rw [h1] at e; cases e
theorem Lz.shape {w : World} {u : Value} {m x : Nat} (h : Lz w u m x) : ∃ o c, u = .slice o m c := by
  obtain ⟨oa, c, h1, _⟩ := h.1
  exact ⟨oa, c, h1⟩
end Go.Proofs.Ytdgmlmcllkgemaa

/- The walk of the law RatioFractions: it returns true (own work). -/
namespace Go.Proofs.Ytdgmlmcllkgemaa
open Go Go.RowKit
set_option linter.unusedVariables false
set_option linter.unusedSimpArgs false
set_option maxRecDepth 100000

theorem str_ne (t : TypeId) (s : ByteArray) (w : World) : (binOp .neq t (.string s) (.string s)).run Try.prog w = .ok (.bool false) w := by
  show Result.ok (Value.bool (!(s.toList == s.toList))) w = _
  rw [beq_self_eq_true]; rfl
theorem str_gd (t : TypeId) (x y : Operand) (s : ByteArray) (w : World) : (eqGuard .neq t x y (.string s) (.string s)).run Try.prog w = .ok () w := rfl
set_option maxHeartbeats 8000000 in
theorem fractions_any (va0 vb0 va1 vb1 : Value) (ma0 xa0 mb0 xb0 ma1 xa1 mb1 xb1 : Nat) (z : Int) (w : World) (h0 : Av w va0 ma0 xa0) (h1 : Av w vb0 mb0 xb0) (h2 : Av w va1 ma1 xa1) (h3 : Av w vb1 mb1 xb1) :
    Calls Try.prog 5 #[.agg #[va0, vb0], .agg #[va1, vb1], .int .i64 z] w fun e w' => e = .returned (.bool true) ∧ On w w' := by
  obtain ⟨w0, hw0⟩ : ∃ w0, w0 = (w.alloc (.cells #[va0, vb0] 41)).alloc (.cells #[va1, vb1] 41) := ⟨_, rfl⟩
  have hs : (w.alloc (.cells #[va0, vb0] 41)).heap.size = w.heap.size + 1 := by simp
  have hO0 : On w w0 := by rw [hw0]; exact ((On.refl w).alloc _).alloc _
  have nA : ∀ v m x, Av w v m x → ∀ y, v ≠ .int .u32 y := fun v m x h y e => by obtain ⟨oa, c, h1, _⟩ := h; rw [h1] at e; cases e
  have hYA : BY w w.heap.size w0 va0 vb0 := by rw [hw0]; exact (BY.make (On.refl w) (nA _ _ _ h0) (nA _ _ _ h1)).on ((On.refl _).alloc _)
  have hYB : BY w (w.heap.size + 1) w0 va1 vb1 := by rw [hw0, ← hs]; exact BY.make ((On.refl w).alloc _) (nA _ _ _ h2) (nA _ _ _ h3)
  obtain ⟨n1, hn1⟩ : ∃ n, n = min ma0 70 := ⟨_, rfl⟩
  obtain ⟨n2, hn2⟩ : ∃ n, n = min mb0 70 := ⟨_, rfl⟩
  obtain ⟨n3, hn3⟩ : ∃ n, n = min ma1 70 := ⟨_, rfl⟩
  obtain ⟨n4, hn4⟩ : ∃ n, n = min mb1 70 := ⟨_, rfl⟩
  have HOWN1 : Hid (∀ w', On w0 w' → Calls Try.prog 7 #[va0] w' fun e w'' => (∃ u, e = .returned u ∧ Lz w'' u n1 (xa0 % 4294967296 ^ n1)) ∧ On w' w'') := fun w' k => by rw [hn1]; exact rown_any va0 ma0 xa0 w' (h0.on (hO0.trans k))
  have HOWN2 : Hid (∀ w', On w0 w' → Calls Try.prog 7 #[vb0] w' fun e w'' => (∃ u, e = .returned u ∧ Lz w'' u n2 (xb0 % 4294967296 ^ n2)) ∧ On w' w'') := fun w' k => by rw [hn2]; exact rown_any vb0 mb0 xb0 w' (h1.on (hO0.trans k))
  have HOWN3 : Hid (∀ w', On w0 w' → Calls Try.prog 7 #[va1] w' fun e w'' => (∃ u, e = .returned u ∧ Lz w'' u n3 (xa1 % 4294967296 ^ n3)) ∧ On w' w'') := fun w' k => by rw [hn3]; exact rown_any va1 ma1 xa1 w' (h2.on (hO0.trans k))
  have HOWN4 : Hid (∀ w', On w0 w' → Calls Try.prog 7 #[vb1] w' fun e w'' => (∃ u, e = .returned u ∧ Lz w'' u n4 (xb1 % 4294967296 ^ n4)) ∧ On w' w'') := fun w' k => by rw [hn4]; exact rown_any vb1 mb1 xb1 w' (h3.on (hO0.trans k))
  obtain ⟨e1, he1⟩ : ∃ e, e = xa0 % 4294967296 ^ n1 := ⟨_, rfl⟩
  obtain ⟨e2, he2⟩ : ∃ e, e = xb0 % 4294967296 ^ n2 := ⟨_, rfl⟩
  obtain ⟨e3, he3⟩ : ∃ e, e = xa1 % 4294967296 ^ n3 := ⟨_, rfl⟩
  obtain ⟨e4, he4⟩ : ∃ e, e = xb1 % 4294967296 ^ n4 := ⟨_, rfl⟩
  have l1 : e1 < 4294967296 ^ n1 := by rw [he1]; exact Nat.mod_lt _ (Nat.pow_pos (by decide))
  have l2 : e2 < 4294967296 ^ n2 := by rw [he2]; exact Nat.mod_lt _ (Nat.pow_pos (by decide))
  have l3 : e3 < 4294967296 ^ n3 := by rw [he3]; exact Nat.mod_lt _ (Nat.pow_pos (by decide))
  have l4 : e4 < 4294967296 ^ n4 := by rw [he4]; exact Nat.mod_lt _ (Nat.pow_pos (by decide))
  rw [← he1] at HOWN1; rw [← he2] at HOWN2; rw [← he3] at HOWN3; rw [← he4] at HOWN4
  obtain ⟨bv, pv⟩ := fvalid_pair l1 l2
  obtain ⟨sl, ps⟩ := fshow_pair l1 l2
  obtain ⟨sb, hsb⟩ : ∃ sb : ByteArray, str sl = .string sb := ⟨_, rfl⟩
  rw [hsb] at ps
  clear hsb
  obtain ⟨zv, po⟩ := forder_pair l1 l2 l3 l4
  obtain ⟨P1, Q1, c1, pn⟩ := fnew_pair l1 l4
  obtain ⟨P2, Q2, c2, pa⟩ := fadd_pair l1 l2 l3 l4
  obtain ⟨P3, Q3, c3, pm⟩ := fmul_pair l1 l2 l3 l4
  obtain ⟨P4, Q4, c4, pp⟩ := fpower_pair n1 e1 n2 e2 z l1 l2
  have PV := Lib.hid pv; have PS := Lib.hid ps; have PO := Lib.hid po; have PN := Lib.hid pn; have PA := Lib.hid pa; have PM := Lib.hid pm; have PP := Lib.hid pp
  have HW0 := Lib.hid hw0; have HO0 := Lib.hid hO0
  obtain ⟨A, hA⟩ : ∃ A, A = w.heap.size := ⟨_, rfl⟩
  obtain ⟨B, hB⟩ : ∃ B, B = A + 1 := ⟨_, rfl⟩
  rw [← hA] at hYA hYB
  rw [← hB] at hYB
  have HAB : Hid (A ≠ B) := by unfold Hid; omega
  have HA := Lib.hid hA; have HB := Lib.hid hB
  have HBC : Hid (∀ w', On w0 w' → w'.cell? ⟨B, 0, none⟩ = some va1 ∧ w'.cell? ⟨B, 1, none⟩ = some vb1) := fun w' k => by
    obtain ⟨-, -, -, h3, h4, -⟩ := hYB.on k
    exact ⟨h3, h4⟩
  have HAC : Hid (∀ w', On w0 w' → w'.cell? ⟨A, 0, none⟩ = some va0 ∧ w'.cell? ⟨A, 1, none⟩ = some vb0) := fun w' k => by
    obtain ⟨-, -, -, h3, h4, -⟩ := hYA.on k
    exact ⟨h3, h4⟩
  have HYA0 : Hid (BY w0 A w0 va0 vb0 ∨ True) := Or.inr trivial
  have HYB0 : Hid True := trivial
  have HXA : Hid (BY w A w0 va0 vb0) := hYA
  have HXB : Hid (BY w B w0 va1 vb1) := hYB
  obtain ⟨oa0, ca0, rfl, -⟩ := h0
  obtain ⟨ob0, cb0, rfl, -⟩ := h1
  obtain ⟨oa1, ca1, rfl, -⟩ := h2
  obtain ⟨ob1, cb1, rfl, -⟩ := h3
  clear hw0 hs hO0 nA hYA hYB hn1 hn2 hn3 hn4 he1 he2 he3 he4 l1 l2 l3 l4 pv ps po pn pa pm pp hA hB
  go_enter Try.func5, Try.ntmps5
  go_upto_region 1 with fail
  rw [← HW0.out, ← HA.out, ← HB.out]
  refine region_head_tail (S := fun w' => w'.cell? ⟨B, 0, none⟩ = some (.slice oa1 ma1 ca1) ∧ w'.cell? ⟨B, 1, none⟩ = some (.slice ob1 mb1 cb1)) 15 (by kernel_rfl) (by kernel_rfl) ?_
  have HD := Lib.hid (On.refl w0).drew
  have hS := HBC.out _ HD.out
  refine HeadG.take (i := 0) (v := .pointer (some ⟨A, 0, none⟩)) rfl (by kernel_rfl) (by kernel_rfl) (by kernel_rfl) (by kernel_rfl) (by kernel_rfl) (by kernel_rfl) (by kernel_rfl) (fun _ _ _ h => h) (Or.inl ⟨by rfl, ?q1⟩) hS ?_
  case q1 => (intro w' hSw; obtain ⟨g0, g1⟩ := hSw; go_simp; try with_reducible rfl)
  try simp only [Act.put, List.setIfInBounds_toArray, List.set_cons_zero, List.set_cons_succ, List.getElem_toArray, List.getElem_cons_zero, List.getElem_cons_succ]
  refine HeadG.take (i := 3) (v := .pointer (some ⟨A, 1, none⟩)) rfl (by kernel_rfl) (by kernel_rfl) (by kernel_rfl) (by kernel_rfl) (by kernel_rfl) (by kernel_rfl) (by kernel_rfl) (fun _ _ _ h => h) (Or.inl ⟨by rfl, ?q2⟩) hS ?_
  case q2 => (intro w' hSw; obtain ⟨g0, g1⟩ := hSw; go_simp; try with_reducible rfl)
  try simp only [Act.put, List.setIfInBounds_toArray, List.set_cons_zero, List.set_cons_succ, List.getElem_toArray, List.getElem_cons_zero, List.getElem_cons_succ]
  refine HeadG.take (i := 7) (v := .pointer (some ⟨B, 0, none⟩)) rfl (by kernel_rfl) (by kernel_rfl) (by kernel_rfl) (by kernel_rfl) (by kernel_rfl) (by kernel_rfl) (by kernel_rfl) (fun _ _ _ h => h) (Or.inl ⟨by rfl, ?q3⟩) hS ?_
  case q3 => (intro w' hSw; obtain ⟨g0, g1⟩ := hSw; go_simp; try with_reducible rfl)
  try simp only [Act.put, List.setIfInBounds_toArray, List.set_cons_zero, List.set_cons_succ, List.getElem_toArray, List.getElem_cons_zero, List.getElem_cons_succ]
  refine HeadG.take (i := 10) (v := .pointer (some ⟨B, 1, none⟩)) rfl (by kernel_rfl) (by kernel_rfl) (by kernel_rfl) (by kernel_rfl) (by kernel_rfl) (by kernel_rfl) (by kernel_rfl) (fun _ _ _ h => h) (Or.inl ⟨by rfl, ?q4⟩) hS ?_
  case q4 => (intro w' hSw; obtain ⟨g0, g1⟩ := hSw; go_simp; try with_reducible rfl)
  try simp only [Act.put, List.setIfInBounds_toArray, List.set_cons_zero, List.set_cons_succ, List.getElem_toArray, List.getElem_cons_zero, List.getElem_cons_succ]
  refine HeadG.take (i := 8) (v := .slice oa1 ma1 ca1) rfl (by kernel_rfl) (by kernel_rfl) (by kernel_rfl) (by kernel_rfl) (by kernel_rfl) (by kernel_rfl) (by kernel_rfl) (fun _ _ _ h => h) (Or.inl ⟨by rfl, ?q5⟩) hS ?_
  case q5 => (intro w' hSw; obtain ⟨g0, g1⟩ := hSw; go_simp; try with_reducible rfl)
  try simp only [Act.put, List.setIfInBounds_toArray, List.set_cons_zero, List.set_cons_succ, List.getElem_toArray, List.getElem_cons_zero, List.getElem_cons_succ]
  refine HeadG.take (i := 11) (v := .slice ob1 mb1 cb1) rfl (by kernel_rfl) (by kernel_rfl) (by kernel_rfl) (by kernel_rfl) (by kernel_rfl) (by kernel_rfl) (by kernel_rfl) (fun _ _ _ h => h) (Or.inl ⟨by rfl, ?q6⟩) hS ?_
  case q6 => (intro w' hSw; obtain ⟨g0, g1⟩ := hSw; go_simp; try with_reducible rfl)
  try simp only [Act.put, List.setIfInBounds_toArray, List.set_cons_zero, List.set_cons_succ, List.getElem_toArray, List.getElem_cons_zero, List.getElem_cons_succ]
  refine HeadG.fork (i := 1) (j := 4) rfl rfl (by kernel_rfl) (by kernel_rfl) (by kernel_rfl) (fun K9 hK9 => ?_) (fun K9 hK9 => ?_)
  · obtain ⟨f0, f1⟩ := HAC.out _ HD.out
    go_simp
    refine hK9.out _ _ hS ?_
    clear hK9 K9 f0 f1
    try simp only [Act.put, List.setIfInBounds_toArray, List.set_cons_zero, List.set_cons_succ, List.getElem_toArray, List.getElem_cons_zero, List.getElem_cons_succ]
    refine HeadG.fork (i := 2) (j := 4) rfl rfl (by kernel_rfl) (by kernel_rfl) (by kernel_rfl) (fun K9 hK9 => ?_) (fun K9 hK9 => ?_)
    · go_simp
      go_at_call 7
      refine (HOWN1.out _ HD.out).mono ?_
      rintro e V1 ⟨⟨u1, rfl, hL1⟩, hc1⟩
      have HV1 := Lib.hid (HD.out.trans hc1)
      have HL1 := Lib.hid hL1
      obtain ⟨oo1, cc1, rfl⟩ := hL1.shape
      have hS := HBC.out _ HV1.out
      clear hc1 hL1
      refine hK9.out _ _ hS ?_
      clear hK9 K9
      try simp only [Act.put, List.setIfInBounds_toArray, List.set_cons_zero, List.set_cons_succ, List.getElem_toArray, List.getElem_cons_zero, List.getElem_cons_succ]
      refine HeadG.one (i := 4) rfl (by kernel_rfl) (by kernel_rfl) (fun K9 hK9 => ?_)
      obtain ⟨f0, f1⟩ := HAC.out _ HV1.out
      go_simp
      refine hK9.out _ _ hS ?_
      clear hK9 K9 f0 f1
      try simp only [Act.put, List.setIfInBounds_toArray, List.set_cons_zero, List.set_cons_succ, List.getElem_toArray, List.getElem_cons_zero, List.getElem_cons_succ]
      refine HeadG.one (i := 5) rfl (by kernel_rfl) (by kernel_rfl) (fun K9 hK9 => ?_)
      go_simp
      go_at_call 7
      refine (HOWN2.out _ HV1.out).mono ?_
      rintro e V2 ⟨⟨u2, rfl, hL2⟩, hc2⟩
      have HV2 := Lib.hid (HV1.out.trans hc2)
      have HL2 := Lib.hid hL2
      obtain ⟨oo2, cc2, rfl⟩ := hL2.shape
      have HL1 := Lib.hid (HL1.out.on hc2)
      have hS := HBC.out _ HV2.out
      clear hc2 hL2
      refine hK9.out _ _ hS ?_
      clear hK9 K9
      try simp only [Act.put, List.setIfInBounds_toArray, List.set_cons_zero, List.set_cons_succ, List.getElem_toArray, List.getElem_cons_zero, List.getElem_cons_succ]
      refine HeadG.take (i := 6) (v := .agg #[.slice oo1 n1 cc1, .slice oo2 n2 cc2]) rfl (by kernel_rfl) (by kernel_rfl) (by kernel_rfl) (by kernel_rfl) (by kernel_rfl) (by kernel_rfl) (by kernel_rfl) (fun _ _ _ h => h) (Or.inl ⟨by rfl, ?q7⟩) hS ?_
      case q7 => (intro w' hSw; obtain ⟨g0, g1⟩ := hSw; go_simp; try with_reducible rfl)
      try simp only [Act.put, List.setIfInBounds_toArray, List.set_cons_zero, List.set_cons_succ, List.getElem_toArray, List.getElem_cons_zero, List.getElem_cons_succ]
      refine HeadG.one (i := 9) rfl (by kernel_rfl) (by kernel_rfl) (fun K9 hK9 => ?_)
      go_simp
      go_at_call 7
      refine (HOWN3.out _ HV2.out).mono ?_
      rintro e V3 ⟨⟨u3, rfl, hL3⟩, hc3⟩
      have HV3 := Lib.hid (HV2.out.trans hc3)
      have HL3 := Lib.hid hL3
      obtain ⟨oo3, cc3, rfl⟩ := hL3.shape
      have HL1 := Lib.hid (HL1.out.on hc3)
      have HL2 := Lib.hid (HL2.out.on hc3)
      have hS := HBC.out _ HV3.out
      clear hc3 hL3
      refine hK9.out _ _ hS ?_
      clear hK9 K9
      try simp only [Act.put, List.setIfInBounds_toArray, List.set_cons_zero, List.set_cons_succ, List.getElem_toArray, List.getElem_cons_zero, List.getElem_cons_succ]
      refine HeadG.one (i := 12) rfl (by kernel_rfl) (by kernel_rfl) (fun K9 hK9 => ?_)
      go_simp
      go_at_call 7
      refine (HOWN4.out _ HV3.out).mono ?_
      rintro e V4 ⟨⟨u4, rfl, hL4⟩, hc4⟩
      have HV4 := Lib.hid (HV3.out.trans hc4)
      have HL4 := Lib.hid hL4
      obtain ⟨oo4, cc4, rfl⟩ := hL4.shape
      have HL1 := Lib.hid (HL1.out.on hc4)
      have HL2 := Lib.hid (HL2.out.on hc4)
      have HL3 := Lib.hid (HL3.out.on hc4)
      have hS := HBC.out _ HV4.out
      clear hc4 hL4
      refine hK9.out _ _ hS ?_
      clear hK9 K9
      try simp only [Act.put, List.setIfInBounds_toArray, List.set_cons_zero, List.set_cons_succ, List.getElem_toArray, List.getElem_cons_zero, List.getElem_cons_succ]
      refine HeadG.take (i := 13) (v := .agg #[.slice oo3 n3 cc3, .slice oo4 n4 cc4]) rfl (by kernel_rfl) (by kernel_rfl) (by kernel_rfl) (by kernel_rfl) (by kernel_rfl) (by kernel_rfl) (by kernel_rfl) (fun _ _ _ h => h) (Or.inl ⟨by rfl, ?q8⟩) hS ?_
      case q8 => (intro w' hSw; obtain ⟨g0, g1⟩ := hSw; go_simp; try with_reducible rfl)
      try simp only [Act.put, List.setIfInBounds_toArray, List.set_cons_zero, List.set_cons_succ, List.getElem_toArray, List.getElem_cons_zero, List.getElem_cons_succ]
      have hXA := (HXA.out.on HV4.out); have hXB := (HXB.out.on HV4.out)
      obtain ⟨f1, f2, f3, f4⟩ := hXA.facts (.slice oo1 n1 cc1) (.slice oo2 n2 cc2)
      have hXA5 := hXA.store (v := .slice oo1 n1 cc1) (v' := .slice oo2 n2 cc2) (fun _ h => by cases h) (fun _ h => by cases h)
      have hXB5 := hXA.other (v := .slice oo1 n1 cc1) (v' := .slice oo2 n2 cc2) hXB HAB.out
      have hM1 := HL1.out.past (v := .slice oo1 n1 cc1) (v' := .slice oo2 n2 cc2) hXA (fun _ h => by cases h)
      have hM2 := HL2.out.past (v := .slice oo1 n1 cc1) (v' := .slice oo2 n2 cc2) hXA (fun _ h => by cases h)
      have hM3 := HL3.out.past (v := .slice oo1 n1 cc1) (v' := .slice oo2 n2 cc2) hXA (fun _ h => by cases h)
      have hM4 := HL4.out.past (v := .slice oo1 n1 cc1) (v' := .slice oo2 n2 cc2) hXA (fun _ h => by cases h)
      have hS5 := hXB5.2.2.2
      refine HeadG.one (i := 14) rfl (by kernel_rfl) (by kernel_rfl) (fun K9 hK9 => ?_)
      go_simp
      refine hK9.out _ _ ⟨hS5.1, hS5.2.1⟩ ?_
      clear hK9 K9 f1 f2 f3 f4 hS5
      try simp only [Act.put, List.setIfInBounds_toArray, List.set_cons_zero, List.set_cons_succ, List.getElem_toArray, List.getElem_cons_zero, List.getElem_cons_succ]
      generalize hz5 : (V4.setCell ⟨A, 0, none⟩ (.slice oo1 n1 cc1)).setCell ⟨A, 1, none⟩ (.slice oo2 n2 cc2) = V5 at *
      clear hz5
      obtain ⟨f1, f2, f3, f4⟩ := hXB5.facts (.slice oo3 n3 cc3) (.slice oo4 n4 cc4)
      have hXB6 := hXB5.store (v := .slice oo3 n3 cc3) (v' := .slice oo4 n4 cc4) (fun _ h => by cases h) (fun _ h => by cases h)
      have hXA6 := hXB5.other (v := .slice oo3 n3 cc3) (v' := .slice oo4 n4 cc4) hXA5 (Ne.symm HAB.out)
      have hN1 := Lib.hid (hM1.past (v := .slice oo3 n3 cc3) (v' := .slice oo4 n4 cc4) hXB5 (fun _ h => by cases h))
      have hN2 := Lib.hid (hM2.past (v := .slice oo3 n3 cc3) (v' := .slice oo4 n4 cc4) hXB5 (fun _ h => by cases h))
      have hN3 := Lib.hid (hM3.past (v := .slice oo3 n3 cc3) (v' := .slice oo4 n4 cc4) hXB5 (fun _ h => by cases h))
      have hN4 := Lib.hid (hM4.past (v := .slice oo3 n3 cc3) (v' := .slice oo4 n4 cc4) hXB5 (fun _ h => by cases h))
      have HXA6 := Lib.hid hXA6; have HXB6 := Lib.hid hXB6
      refine HeadG.last (i := 15) rfl (by kernel_rfl) (by kernel_rfl) (by kernel_rfl) (fun K9 hK9 => ?_)
      go_simp
      refine hK9.out _ _ ?_
      clear hK9 K9 f1 f2 f3 f4 hXA hXB hXA5 hXB5 hM1 hM2 hM3 hM4 hXA6 hXB6
      try simp only [Act.put, List.setIfInBounds_toArray, List.set_cons_zero, List.set_cons_succ, List.getElem_toArray, List.getElem_cons_zero, List.getElem_cons_succ]
      generalize hz6 : (V5.setCell ⟨B, 0, none⟩ (.slice oo3 n3 cc3)).setCell ⟨B, 1, none⟩ (.slice oo4 n4 cc4) = V6 at *
      clear hz6 hS HV1 HV2 HV3 HV4 HL1 HL2 HL3 HL4
      have HO1 : Hid (On w V6) := HXA6.out.1
      have HCE : Hid (∀ w', On V6 w' → w'.cell? ⟨A, 0, none⟩ = some (.slice oo1 n1 cc1) ∧ w'.cell? ⟨A, 1, none⟩ = some (.slice oo2 n2 cc2) ∧ w'.cell? ⟨B, 0, none⟩ = some (.slice oo3 n3 cc3) ∧ w'.cell? ⟨B, 1, none⟩ = some (.slice oo4 n4 cc4)) := fun w' k => by
        obtain ⟨-, -, -, h1, h2, -⟩ := HXA6.out.on k
        obtain ⟨-, -, -, h3, h4, -⟩ := HXB6.out.on k
        exact ⟨h1, h2, h3, h4⟩
      have HGZ : Hid (∀ w', On V6 w' → Gz w' (.agg #[.slice oo1 n1 cc1, .slice oo2 n2 cc2]) n1 e1 n2 e2 ∧ Gz w' (.agg #[.slice oo3 n3 cc3, .slice oo4 n4 cc4]) n3 e3 n4 e4) := fun w' k => ⟨⟨_, _, rfl, hN1.out.on k, hN2.out.on k⟩, ⟨_, _, rfl, hN3.out.on k, hN4.out.on k⟩⟩
      have HLZ : Hid (∀ w', On V6 w' → Lz w' (.slice oo1 n1 cc1) n1 e1 ∧ Lz w' (.slice oo4 n4 cc4) n4 e4) := fun w' k => ⟨hN1.out.on k, hN4.out.on k⟩
      obtain ⟨w1, hw1⟩ : ∃ w1, w1 = V6 := ⟨_, rfl⟩
      rw [← hw1] at HO1 HCE HGZ HLZ ⊢
      clear hw1 HXA6 HXB6 hN1 hN2 hN3 hN4 HO0 HOWN1 HOWN2 HOWN3 HOWN4 HBC HAB HYA0 HYB0
      have HQ1 : Hid (∀ w', On w1 w' → AnsE Try.prog 35 #[.agg #[.slice oo1 n1 cc1, .slice oo2 n2 cc2]] w' (.bool bv) ∧ AnsE Try.prog 36 #[.agg #[.slice oo1 n1 cc1, .slice oo2 n2 cc2]] w' (.bool bv)) := fun w' k => ⟨PV.out.1 _ _ (HGZ.out w' k).1, PV.out.2 _ _ (HGZ.out w' k).1⟩
      have HQ1 : Hid (∀ w', On w1 w' → (Calls Try.prog 35 #[.agg #[.slice oo1 n1 cc1, .slice oo2 n2 cc2]] w' fun e w'' => e = .returned (.bool bv) ∧ On w1 w'') ∧ Calls Try.prog 36 #[.agg #[.slice oo1 n1 cc1, .slice oo2 n2 cc2]] w' fun e w'' => e = .returned (.bool bv) ∧ On w1 w'') := fun w' k => ⟨(HQ1.out w' k).1.mono fun e w'' h => ⟨h.1, k.trans h.2⟩, (HQ1.out w' k).2.mono fun e w'' h => ⟨h.1, k.trans h.2⟩⟩
      have HQ2 : Hid (∀ w', On w1 w' → (Calls Try.prog 37 #[.agg #[.slice oo1 n1 cc1, .slice oo2 n2 cc2], .agg #[.slice oo3 n3 cc3, .slice oo4 n4 cc4]] w' fun e w'' => e = .returned (.int .i64 zv) ∧ On w1 w'') ∧ Calls Try.prog 38 #[.agg #[.slice oo1 n1 cc1, .slice oo2 n2 cc2], .agg #[.slice oo3 n3 cc3, .slice oo4 n4 cc4]] w' fun e w'' => e = .returned (.int .i64 zv) ∧ On w1 w'') := fun w' k => ⟨(PO.out.1 _ _ _ (HGZ.out w' k).1 (HGZ.out w' k).2).mono fun e w'' h => ⟨h.1, k.trans h.2⟩, (PO.out.2 _ _ _ (HGZ.out w' k).1 (HGZ.out w' k).2).mono fun e w'' h => ⟨h.1, k.trans h.2⟩⟩
      have HQ3 : Hid (∀ w', On w1 w' → (Calls Try.prog 39 #[.agg #[.slice oo1 n1 cc1, .slice oo2 n2 cc2]] w' fun e w'' => e = .returned (.string sb) ∧ On w1 w'') ∧ Calls Try.prog 40 #[.agg #[.slice oo1 n1 cc1, .slice oo2 n2 cc2]] w' fun e w'' => e = .returned (.string sb) ∧ On w1 w'') := fun w' k => ⟨(PS.out.1 _ _ (HGZ.out w' k).1).mono fun e w'' h => ⟨h.1, k.trans h.2⟩, (PS.out.2 _ _ (HGZ.out w' k).1).mono fun e w'' h => ⟨h.1, k.trans h.2⟩⟩
      go_upto_region 2 with fail
      refine region_keep_tail (fun wq => On w1 wq) 20 (by kernel_rfl) (by kernel_rfl) (On.refl w1).drew ?_
      simp only [List.take_succ_cons, List.take_zero, List.drop_succ_cons, List.drop_zero]
      refine BigFrame.wpQuiet_want (by rfl) (fun K hK => ?_)
      refine ⟨.agg #[.slice oo1 n1 cc1, .slice oo2 n2 cc2], fun wq hwq => ?kay0, hK _ ?kar0⟩
      case kay0 => (obtain ⟨g0, g1, g2, g3⟩ := HCE.out wq hwq; go_simp; try with_reducible rfl)
      clear hK K
      try simp only [Act.put, List.setIfInBounds_toArray, List.set_cons_zero, List.set_cons_succ]
      refine BigFrame.wpQuiet_want (by rfl) (fun K hK => ?_)
      refine ⟨.bool bv, fun wq hwq => ?kay1, hK _ ?kar1⟩
      case kay1 => (go_simp; go_at_call 35; exact (HQ1.out _ hwq).1)
      clear hK K
      try simp only [Act.put, List.setIfInBounds_toArray, List.set_cons_zero, List.set_cons_succ]
      refine BigFrame.wpQuiet_want (by rfl) (fun K hK => ?_)
      refine ⟨.agg #[.slice oo1 n1 cc1, .slice oo2 n2 cc2], fun wq hwq => ?kay2, hK _ ?kar2⟩
      case kay2 => (obtain ⟨g0, g1, g2, g3⟩ := HCE.out wq hwq; go_simp; try with_reducible rfl)
      clear hK K
      try simp only [Act.put, List.setIfInBounds_toArray, List.set_cons_zero, List.set_cons_succ]
      refine BigFrame.wpQuiet_want (by rfl) (fun K hK => ?_)
      refine ⟨.bool bv, fun wq hwq => ?kay3, hK _ ?kar3⟩
      case kay3 => (go_simp; go_at_call 36; exact (HQ1.out _ hwq).2)
      clear hK K
      try simp only [Act.put, List.setIfInBounds_toArray, List.set_cons_zero, List.set_cons_succ]
      refine BigFrame.wpQuiet_want (by rfl) (fun K hK => ?_)
      refine ⟨.bool false, fun wq hwq => ?kay4, hK _ ?kar4⟩
      case kay4 => (go_simp; first | done | exact ⟨rfl, rfl⟩ | simp)
      clear hK K
      try simp only [Act.put, List.setIfInBounds_toArray, List.set_cons_zero, List.set_cons_succ]
      refine BigFrame.wpQuiet_want (by rfl) (fun K hK => ?_)
      refine ⟨?kav5, fun wq hwq => ?kay5, hK _ ?kar5⟩
      case kay5 => (go_simp; try with_reducible rfl)
      clear hK K
      try simp only [Act.put, List.setIfInBounds_toArray, List.set_cons_zero, List.set_cons_succ]
      refine BigFrame.wpQuiet_want (by rfl) (fun K hK => ?_)
      refine ⟨.agg #[.slice oo1 n1 cc1, .slice oo2 n2 cc2], fun wq hwq => ?kay6, hK _ ?kar6⟩
      case kay6 => (obtain ⟨g0, g1, g2, g3⟩ := HCE.out wq hwq; go_simp; try with_reducible rfl)
      clear hK K
      try simp only [Act.put, List.setIfInBounds_toArray, List.set_cons_zero, List.set_cons_succ]
      refine BigFrame.wpQuiet_want (by rfl) (fun K hK => ?_)
      refine ⟨.agg #[.slice oo3 n3 cc3, .slice oo4 n4 cc4], fun wq hwq => ?kay7, hK _ ?kar7⟩
      case kay7 => (obtain ⟨g0, g1, g2, g3⟩ := HCE.out wq hwq; go_simp; try with_reducible rfl)
      clear hK K
      try simp only [Act.put, List.setIfInBounds_toArray, List.set_cons_zero, List.set_cons_succ]
      refine BigFrame.wpQuiet_want (by rfl) (fun K hK => ?_)
      refine ⟨.int .i64 zv, fun wq hwq => ?kay8, hK _ ?kar8⟩
      case kay8 => (go_simp; go_at_call 37; exact (HQ2.out _ hwq).1)
      clear hK K
      try simp only [Act.put, List.setIfInBounds_toArray, List.set_cons_zero, List.set_cons_succ]
      refine BigFrame.wpQuiet_want (by rfl) (fun K hK => ?_)
      refine ⟨.agg #[.slice oo1 n1 cc1, .slice oo2 n2 cc2], fun wq hwq => ?kay9, hK _ ?kar9⟩
      case kay9 => (obtain ⟨g0, g1, g2, g3⟩ := HCE.out wq hwq; go_simp; try with_reducible rfl)
      clear hK K
      try simp only [Act.put, List.setIfInBounds_toArray, List.set_cons_zero, List.set_cons_succ]
      refine BigFrame.wpQuiet_want (by rfl) (fun K hK => ?_)
      refine ⟨.agg #[.slice oo3 n3 cc3, .slice oo4 n4 cc4], fun wq hwq => ?kay10, hK _ ?kar10⟩
      case kay10 => (obtain ⟨g0, g1, g2, g3⟩ := HCE.out wq hwq; go_simp; try with_reducible rfl)
      clear hK K
      try simp only [Act.put, List.setIfInBounds_toArray, List.set_cons_zero, List.set_cons_succ]
      refine BigFrame.wpQuiet_want (by rfl) (fun K hK => ?_)
      refine ⟨.int .i64 zv, fun wq hwq => ?kay11, hK _ ?kar11⟩
      case kay11 => (go_simp; go_at_call 38; exact (HQ2.out _ hwq).2)
      clear hK K
      try simp only [Act.put, List.setIfInBounds_toArray, List.set_cons_zero, List.set_cons_succ]
      refine BigFrame.wpQuiet_want (by rfl) (fun K hK => ?_)
      refine ⟨.bool false, fun wq hwq => ?kay12, hK _ ?kar12⟩
      case kay12 => (go_simp; first | done | exact ⟨rfl, rfl⟩ | simp)
      clear hK K
      try simp only [Act.put, List.setIfInBounds_toArray, List.set_cons_zero, List.set_cons_succ]
      refine BigFrame.wpQuiet_want (by rfl) (fun K hK => ?_)
      refine ⟨?kav13, fun wq hwq => ?kay13, hK _ ?kar13⟩
      case kay13 => (go_simp; try with_reducible rfl)
      clear hK K
      try simp only [Act.put, List.setIfInBounds_toArray, List.set_cons_zero, List.set_cons_succ]
      refine BigFrame.wpQuiet_want (by rfl) (fun K hK => ?_)
      refine ⟨?kav14, fun wq hwq => ?kay14, hK _ ?kar14⟩
      case kay14 => (go_simp; try with_reducible rfl)
      clear hK K
      try simp only [Act.put, List.setIfInBounds_toArray, List.set_cons_zero, List.set_cons_succ]
      refine BigFrame.wpQuiet_want (by rfl) (fun K hK => ?_)
      refine ⟨.agg #[.slice oo1 n1 cc1, .slice oo2 n2 cc2], fun wq hwq => ?kay15, hK _ ?kar15⟩
      case kay15 => (obtain ⟨g0, g1, g2, g3⟩ := HCE.out wq hwq; go_simp; try with_reducible rfl)
      clear hK K
      try simp only [Act.put, List.setIfInBounds_toArray, List.set_cons_zero, List.set_cons_succ]
      refine BigFrame.wpQuiet_want (by rfl) (fun K hK => ?_)
      refine ⟨.string sb, fun wq hwq => ?kay16, hK _ ?kar16⟩
      case kay16 => (go_simp; go_at_call 39; exact (HQ3.out _ hwq).1)
      clear hK K
      try simp only [Act.put, List.setIfInBounds_toArray, List.set_cons_zero, List.set_cons_succ]
      refine BigFrame.wpQuiet_want (by rfl) (fun K hK => ?_)
      refine ⟨.agg #[.slice oo1 n1 cc1, .slice oo2 n2 cc2], fun wq hwq => ?kay17, hK _ ?kar17⟩
      case kay17 => (obtain ⟨g0, g1, g2, g3⟩ := HCE.out wq hwq; go_simp; try with_reducible rfl)
      clear hK K
      try simp only [Act.put, List.setIfInBounds_toArray, List.set_cons_zero, List.set_cons_succ]
      refine BigFrame.wpQuiet_want (by rfl) (fun K hK => ?_)
      refine ⟨.string sb, fun wq hwq => ?kay18, hK _ ?kar18⟩
      case kay18 => (go_simp; go_at_call 40; exact (HQ3.out _ hwq).2)
      clear hK K
      try simp only [Act.put, List.setIfInBounds_toArray, List.set_cons_zero, List.set_cons_succ]
      refine BigFrame.wpQuiet_want (by rfl) (fun K hK => ?_)
      refine ⟨.bool false, fun wq hwq => ?kay19, hK _ ?kar19⟩
      case kay19 => (go_simp; first | done | (simp only [str_gd, str_ne, Result.andThen]; first | done | exact ⟨rfl, rfl⟩ | simp))
      clear hK K
      try simp only [Act.put, List.setIfInBounds_toArray, List.set_cons_zero, List.set_cons_succ]
      refine wpQuiet_nil ?_
      intro w2 hw2
      have HO2 := Lib.hid hw2
      clear hw2 HQ1 HQ2 HQ3
      go_upto_region 4 with fail
      obtain ⟨a0, a1, a2, a3⟩ := HCE.out _ HO2.out
      have hcall := PN.out.1 _ _ _ (HLZ.out _ HO2.out).1 (HLZ.out _ HO2.out).2
      go_wp2_with fail
      with_reducible refine hcall.mono ?_
      rintro e w3 ⟨⟨v, rfl, ⟨vp, vz, rfl, hp, hz⟩⟩, hO3⟩
      obtain ⟨w4, hw4⟩ : ∃ w4, w4 = w3.alloc (.cells #[vp, vz] 41) := ⟨_, rfl⟩
      have hX4 : BX w1 w3.heap.size w4 vp vz P1 Q1 := by rw [hw4]; exact BX.make (HO2.out.trans hO3) hp hz
      have HX4 := Lib.hid hX4
      have HW4 := Lib.hid hw4
      obtain ⟨o1, y1, o2, y2, rfl, rfl⟩ := hX4.shape
      obtain ⟨RX, hRX⟩ : ∃ R, R = w3.heap.size := ⟨_, rfl⟩
      rw [← hRX] at HX4
      have HRX := Lib.hid hRX
      clear a0 a1 a2 a3 hcall hp hz hw4 hX4 hO3 hRX
      go_upto_region 5 with fail
      rw [← HW4.out, ← HRX.out]
      obtain ⟨a0, a1, a2, a3⟩ := HCE.out _ HX4.out.1
      have hcall := PN.out.2 _ _ _ (HLZ.out _ HX4.out.1).1 (HLZ.out _ HX4.out.1).2
      go_wp2_with fail
      with_reducible refine hcall.mono ?_
      rintro e w5 ⟨⟨v, rfl, ⟨vp, vz, rfl, hp, hz⟩⟩, hO5⟩
      have hX5 := HX4.out.on hO5
      obtain ⟨w6, hw6⟩ : ∃ w6, w6 = w5.alloc (.cells #[vp, vz] 41) := ⟨_, rfl⟩
      have hY6 : BX w1 w5.heap.size w6 vp vz P1 Q1 := by rw [hw6]; exact BX.make hX5.1 hp hz
      have hX6 := hX5.on (show On w5 w6 by rw [hw6]; exact (On.refl _).alloc _)
      have HNE : Hid (w5.heap.size ≠ RX) := by unfold Hid; have := hX5.2.1; omega
      have HX6 := Lib.hid hX6; have HY6 := Lib.hid hY6
      have HW6 := Lib.hid hw6
      obtain ⟨o3, y3, o4, y4, rfl, rfl⟩ := hY6.shape
      obtain ⟨RY, hRY⟩ : ∃ R, R = w5.heap.size := ⟨_, rfl⟩
      rw [← hRY] at HY6 HNE
      have HRY := Lib.hid hRY
      clear a0 a1 a2 a3 hcall hp hz hw6 hX5 hX6 hY6 hO5 hRY
      go_upto_region 6 with fail
      rw [← HW6.out, ← HRY.out]
      obtain ⟨z1, z2⟩ := HX6.out.cells
      obtain ⟨z3, z4⟩ := HY6.out.cells
      go_wp2_with fail
      with_reducible refine (rfsame _ _ P1 Q1 _ HX6.out.fv HY6.out.fv).mono ?_
      rintro e w7 ⟨rfl, hO6⟩
      have HX7 := Lib.hid (HX6.out.on hO6); have HY7 := Lib.hid (HY6.out.on hO6)
      clear z1 z2 z3 z4 hO6
      go_upto_region 8 with fail
      obtain ⟨a0, a1, a2, a3⟩ := HCE.out _ HX7.out.1
      obtain ⟨gx, gy⟩ := HGZ.out _ HX7.out.1
      have hcall := PA.out.1 _ _ _ gx gy
      clear gx gy
      go_wp2_with fail
      with_reducible refine hcall.mono ?_
      rintro e w8 ⟨⟨v, rfl, ⟨vp, vz, rfl, hp, hz⟩⟩, hO⟩
      have hX := HX7.out.on hO; have hY := HY7.out.on hO
      have hYn := hX.other hY HNE.out.symm hp hz
      have hXn := hX.store hp hz
      obtain ⟨f1, f2, f3, f4, f5, f6⟩ := hX.facts vp vz
      obtain ⟨o5, y5, o6, y6, rfl, rfl⟩ := hXn.shape
      have HX9 := Lib.hid hXn; have HY9 := Lib.hid hYn
      clear a0 a1 a2 a3 hcall hO hX hY hXn hYn hp hz f5 f6
      go_upto_region 9 with fail
      generalize (w8.setCell ⟨RX, 0, none⟩ (.slice o5 (nl P2) y5)).setCell ⟨RX, 1, none⟩ (.slice o6 (nl Q2) y6) = w9 at *
      clear f1 f2 f3 f4
      obtain ⟨a0, a1, a2, a3⟩ := HCE.out _ HX9.out.1
      obtain ⟨gx, gy⟩ := HGZ.out _ HX9.out.1
      have hcall := PA.out.2 _ _ _ gx gy
      clear gx gy
      go_wp2_with fail
      with_reducible refine hcall.mono ?_
      rintro e w10 ⟨⟨v, rfl, ⟨vp, vz, rfl, hp, hz⟩⟩, hO⟩
      have hX := HX9.out.on hO; have hY := HY9.out.on hO
      have hXn := hY.other hX HNE.out hp hz
      have hYn := hY.store hp hz
      obtain ⟨f1, f2, f3, f4, f5, f6⟩ := hY.facts vp vz
      obtain ⟨o5, y5, o6, y6, rfl, rfl⟩ := hYn.shape
      have HX11 := Lib.hid hXn; have HY11 := Lib.hid hYn
      clear a0 a1 a2 a3 hcall hO hX hY hXn hYn hp hz f5 f6
      go_upto_region 10 with fail
      generalize (w10.setCell ⟨RY, 0, none⟩ (.slice o5 (nl P2) y5)).setCell ⟨RY, 1, none⟩ (.slice o6 (nl Q2) y6) = w11 at *
      clear f1 f2 f3 f4
      obtain ⟨z1, z2⟩ := HX11.out.cells
      obtain ⟨z3, z4⟩ := HY11.out.cells
      go_wp2_with fail
      with_reducible refine (rfsame _ _ P2 Q2 _ HX11.out.fv HY11.out.fv).mono ?_
      rintro e w12 ⟨rfl, hO6⟩
      have HX12 := Lib.hid (HX11.out.on hO6); have HY12 := Lib.hid (HY11.out.on hO6)
      clear z1 z2 z3 z4 hO6
      go_upto_region 12 with fail
      obtain ⟨a0, a1, a2, a3⟩ := HCE.out _ HX12.out.1
      obtain ⟨gx, gy⟩ := HGZ.out _ HX12.out.1
      have hcall := PM.out.1 _ _ _ gx gy
      clear gx gy
      go_wp2_with fail
      with_reducible refine hcall.mono ?_
      rintro e w13 ⟨⟨v, rfl, ⟨vp, vz, rfl, hp, hz⟩⟩, hO⟩
      have hX := HX12.out.on hO; have hY := HY12.out.on hO
      have hYn := hX.other hY HNE.out.symm hp hz
      have hXn := hX.store hp hz
      obtain ⟨f1, f2, f3, f4, f5, f6⟩ := hX.facts vp vz
      obtain ⟨o5, y5, o6, y6, rfl, rfl⟩ := hXn.shape
      have HX14 := Lib.hid hXn; have HY14 := Lib.hid hYn
      clear a0 a1 a2 a3 hcall hO hX hY hXn hYn hp hz f5 f6
      go_upto_region 13 with fail
      generalize (w13.setCell ⟨RX, 0, none⟩ (.slice o5 (nl P3) y5)).setCell ⟨RX, 1, none⟩ (.slice o6 (nl Q3) y6) = w14 at *
      clear f1 f2 f3 f4
      obtain ⟨a0, a1, a2, a3⟩ := HCE.out _ HX14.out.1
      obtain ⟨gx, gy⟩ := HGZ.out _ HX14.out.1
      have hcall := PM.out.2 _ _ _ gx gy
      clear gx gy
      go_wp2_with fail
      with_reducible refine hcall.mono ?_
      rintro e w15 ⟨⟨v, rfl, ⟨vp, vz, rfl, hp, hz⟩⟩, hO⟩
      have hX := HX14.out.on hO; have hY := HY14.out.on hO
      have hXn := hY.other hX HNE.out hp hz
      have hYn := hY.store hp hz
      obtain ⟨f1, f2, f3, f4, f5, f6⟩ := hY.facts vp vz
      obtain ⟨o5, y5, o6, y6, rfl, rfl⟩ := hYn.shape
      have HX16 := Lib.hid hXn; have HY16 := Lib.hid hYn
      clear a0 a1 a2 a3 hcall hO hX hY hXn hYn hp hz f5 f6
      go_upto_region 14 with fail
      generalize (w15.setCell ⟨RY, 0, none⟩ (.slice o5 (nl P3) y5)).setCell ⟨RY, 1, none⟩ (.slice o6 (nl Q3) y6) = w16 at *
      clear f1 f2 f3 f4
      obtain ⟨z1, z2⟩ := HX16.out.cells
      obtain ⟨z3, z4⟩ := HY16.out.cells
      go_wp2_with fail
      with_reducible refine (rfsame _ _ P3 Q3 _ HX16.out.fv HY16.out.fv).mono ?_
      rintro e w17 ⟨rfl, hO6⟩
      have HX17 := Lib.hid (HX16.out.on hO6); have HY17 := Lib.hid (HY16.out.on hO6)
      clear z1 z2 z3 z4 hO6
      go_upto_region 16 with fail
      obtain ⟨a0, a1, a2, a3⟩ := HCE.out _ HX17.out.1
      obtain ⟨gx, gy⟩ := HGZ.out _ HX17.out.1
      have hcall := PP.out.1 _ _ gx
      clear gx gy
      go_wp2_with fail
      with_reducible refine hcall.mono ?_
      rintro e w18 ⟨⟨v, rfl, ⟨vp, vz, rfl, hp, hz⟩⟩, hO⟩
      have hX := HX17.out.on hO; have hY := HY17.out.on hO
      have hYn := hX.other hY HNE.out.symm hp hz
      have hXn := hX.store hp hz
      obtain ⟨f1, f2, f3, f4, f5, f6⟩ := hX.facts vp vz
      obtain ⟨o5, y5, o6, y6, rfl, rfl⟩ := hXn.shape
      have HX19 := Lib.hid hXn; have HY19 := Lib.hid hYn
      clear a0 a1 a2 a3 hcall hO hX hY hXn hYn hp hz f5 f6
      go_upto_region 17 with fail
      generalize (w18.setCell ⟨RX, 0, none⟩ (.slice o5 (nl P4) y5)).setCell ⟨RX, 1, none⟩ (.slice o6 (nl Q4) y6) = w19 at *
      clear f1 f2 f3 f4
      obtain ⟨a0, a1, a2, a3⟩ := HCE.out _ HX19.out.1
      obtain ⟨gx, gy⟩ := HGZ.out _ HX19.out.1
      have hcall := PP.out.2 _ _ gx
      clear gx gy
      go_wp2_with fail
      with_reducible refine hcall.mono ?_
      rintro e w20 ⟨⟨v, rfl, ⟨vp, vz, rfl, hp, hz⟩⟩, hO⟩
      have hX := HX19.out.on hO; have hY := HY19.out.on hO
      have hXn := hY.other hX HNE.out hp hz
      have hYn := hY.store hp hz
      obtain ⟨f1, f2, f3, f4, f5, f6⟩ := hY.facts vp vz
      obtain ⟨o5, y5, o6, y6, rfl, rfl⟩ := hYn.shape
      have HX21 := Lib.hid hXn; have HY21 := Lib.hid hYn
      clear a0 a1 a2 a3 hcall hO hX hY hXn hYn hp hz f5 f6
      go_upto_region 18 with fail
      generalize (w20.setCell ⟨RY, 0, none⟩ (.slice o5 (nl P4) y5)).setCell ⟨RY, 1, none⟩ (.slice o6 (nl Q4) y6) = w21 at *
      clear f1 f2 f3 f4
      obtain ⟨z1, z2⟩ := HX21.out.cells
      obtain ⟨z3, z4⟩ := HY21.out.cells
      go_wp2_with fail
      with_reducible refine (rfsame _ _ P4 Q4 _ HX21.out.fv HY21.out.fv).mono ?_
      rintro e w22 ⟨rfl, hO6⟩
      have HX22 := Lib.hid (HX21.out.on hO6); have HY22 := Lib.hid (HY21.out.on hO6)
      clear z1 z2 z3 z4 hO6
      have HOZ : Hid (On w w22) := HO1.out.trans HX22.out.1
      go_wp2_with fail
      with_reducible refine (works_any w22).mono ?_
      rintro e wz ⟨rfl, hO17⟩
      have HO17 := Lib.hid (HOZ.out.trans hO17)
      clear hO17
      go_wp2
      go_ret
      exact ⟨rfl, HO17.out⟩
    · obtain ⟨f0, f1⟩ := HAC.out _ HD.out
      go_simp
      refine hK9.out _ _ hS ?_
      clear hK9 K9 f0 f1
      try simp only [Act.put, List.setIfInBounds_toArray, List.set_cons_zero, List.set_cons_succ, List.getElem_toArray, List.getElem_cons_zero, List.getElem_cons_succ]
      refine HeadG.one (i := 2) rfl (by kernel_rfl) (by kernel_rfl) (fun K9 hK9 => ?_)
      go_simp
      go_at_call 7
      refine (HOWN1.out _ HD.out).mono ?_
      rintro e V1 ⟨⟨u1, rfl, hL1⟩, hc1⟩
      have HV1 := Lib.hid (HD.out.trans hc1)
      have HL1 := Lib.hid hL1
      obtain ⟨oo1, cc1, rfl⟩ := hL1.shape
      have hS := HBC.out _ HV1.out
      clear hc1 hL1
      refine hK9.out _ _ hS ?_
      clear hK9 K9
      try simp only [Act.put, List.setIfInBounds_toArray, List.set_cons_zero, List.set_cons_succ, List.getElem_toArray, List.getElem_cons_zero, List.getElem_cons_succ]
      refine HeadG.one (i := 5) rfl (by kernel_rfl) (by kernel_rfl) (fun K9 hK9 => ?_)
      go_simp
      go_at_call 7
      refine (HOWN2.out _ HV1.out).mono ?_
      rintro e V2 ⟨⟨u2, rfl, hL2⟩, hc2⟩
      have HV2 := Lib.hid (HV1.out.trans hc2)
      have HL2 := Lib.hid hL2
      obtain ⟨oo2, cc2, rfl⟩ := hL2.shape
      have HL1 := Lib.hid (HL1.out.on hc2)
      have hS := HBC.out _ HV2.out
      clear hc2 hL2
      refine hK9.out _ _ hS ?_
      clear hK9 K9
      try simp only [Act.put, List.setIfInBounds_toArray, List.set_cons_zero, List.set_cons_succ, List.getElem_toArray, List.getElem_cons_zero, List.getElem_cons_succ]
      refine HeadG.take (i := 6) (v := .agg #[.slice oo1 n1 cc1, .slice oo2 n2 cc2]) rfl (by kernel_rfl) (by kernel_rfl) (by kernel_rfl) (by kernel_rfl) (by kernel_rfl) (by kernel_rfl) (by kernel_rfl) (fun _ _ _ h => h) (Or.inl ⟨by rfl, ?q9⟩) hS ?_
      case q9 => (intro w' hSw; obtain ⟨g0, g1⟩ := hSw; go_simp; try with_reducible rfl)
      try simp only [Act.put, List.setIfInBounds_toArray, List.set_cons_zero, List.set_cons_succ, List.getElem_toArray, List.getElem_cons_zero, List.getElem_cons_succ]
      refine HeadG.one (i := 9) rfl (by kernel_rfl) (by kernel_rfl) (fun K9 hK9 => ?_)
      go_simp
      go_at_call 7
      refine (HOWN3.out _ HV2.out).mono ?_
      rintro e V3 ⟨⟨u3, rfl, hL3⟩, hc3⟩
      have HV3 := Lib.hid (HV2.out.trans hc3)
      have HL3 := Lib.hid hL3
      obtain ⟨oo3, cc3, rfl⟩ := hL3.shape
      have HL1 := Lib.hid (HL1.out.on hc3)
      have HL2 := Lib.hid (HL2.out.on hc3)
      have hS := HBC.out _ HV3.out
      clear hc3 hL3
      refine hK9.out _ _ hS ?_
      clear hK9 K9
      try simp only [Act.put, List.setIfInBounds_toArray, List.set_cons_zero, List.set_cons_succ, List.getElem_toArray, List.getElem_cons_zero, List.getElem_cons_succ]
      refine HeadG.one (i := 12) rfl (by kernel_rfl) (by kernel_rfl) (fun K9 hK9 => ?_)
      go_simp
      go_at_call 7
      refine (HOWN4.out _ HV3.out).mono ?_
      rintro e V4 ⟨⟨u4, rfl, hL4⟩, hc4⟩
      have HV4 := Lib.hid (HV3.out.trans hc4)
      have HL4 := Lib.hid hL4
      obtain ⟨oo4, cc4, rfl⟩ := hL4.shape
      have HL1 := Lib.hid (HL1.out.on hc4)
      have HL2 := Lib.hid (HL2.out.on hc4)
      have HL3 := Lib.hid (HL3.out.on hc4)
      have hS := HBC.out _ HV4.out
      clear hc4 hL4
      refine hK9.out _ _ hS ?_
      clear hK9 K9
      try simp only [Act.put, List.setIfInBounds_toArray, List.set_cons_zero, List.set_cons_succ, List.getElem_toArray, List.getElem_cons_zero, List.getElem_cons_succ]
      refine HeadG.take (i := 13) (v := .agg #[.slice oo3 n3 cc3, .slice oo4 n4 cc4]) rfl (by kernel_rfl) (by kernel_rfl) (by kernel_rfl) (by kernel_rfl) (by kernel_rfl) (by kernel_rfl) (by kernel_rfl) (fun _ _ _ h => h) (Or.inl ⟨by rfl, ?q10⟩) hS ?_
      case q10 => (intro w' hSw; obtain ⟨g0, g1⟩ := hSw; go_simp; try with_reducible rfl)
      try simp only [Act.put, List.setIfInBounds_toArray, List.set_cons_zero, List.set_cons_succ, List.getElem_toArray, List.getElem_cons_zero, List.getElem_cons_succ]
      have hXA := (HXA.out.on HV4.out); have hXB := (HXB.out.on HV4.out)
      obtain ⟨f1, f2, f3, f4⟩ := hXA.facts (.slice oo1 n1 cc1) (.slice oo2 n2 cc2)
      have hXA5 := hXA.store (v := .slice oo1 n1 cc1) (v' := .slice oo2 n2 cc2) (fun _ h => by cases h) (fun _ h => by cases h)
      have hXB5 := hXA.other (v := .slice oo1 n1 cc1) (v' := .slice oo2 n2 cc2) hXB HAB.out
      have hM1 := HL1.out.past (v := .slice oo1 n1 cc1) (v' := .slice oo2 n2 cc2) hXA (fun _ h => by cases h)
      have hM2 := HL2.out.past (v := .slice oo1 n1 cc1) (v' := .slice oo2 n2 cc2) hXA (fun _ h => by cases h)
      have hM3 := HL3.out.past (v := .slice oo1 n1 cc1) (v' := .slice oo2 n2 cc2) hXA (fun _ h => by cases h)
      have hM4 := HL4.out.past (v := .slice oo1 n1 cc1) (v' := .slice oo2 n2 cc2) hXA (fun _ h => by cases h)
      have hS5 := hXB5.2.2.2
      refine HeadG.one (i := 14) rfl (by kernel_rfl) (by kernel_rfl) (fun K9 hK9 => ?_)
      go_simp
      refine hK9.out _ _ ⟨hS5.1, hS5.2.1⟩ ?_
      clear hK9 K9 f1 f2 f3 f4 hS5
      try simp only [Act.put, List.setIfInBounds_toArray, List.set_cons_zero, List.set_cons_succ, List.getElem_toArray, List.getElem_cons_zero, List.getElem_cons_succ]
      generalize hz5 : (V4.setCell ⟨A, 0, none⟩ (.slice oo1 n1 cc1)).setCell ⟨A, 1, none⟩ (.slice oo2 n2 cc2) = V5 at *
      clear hz5
      obtain ⟨f1, f2, f3, f4⟩ := hXB5.facts (.slice oo3 n3 cc3) (.slice oo4 n4 cc4)
      have hXB6 := hXB5.store (v := .slice oo3 n3 cc3) (v' := .slice oo4 n4 cc4) (fun _ h => by cases h) (fun _ h => by cases h)
      have hXA6 := hXB5.other (v := .slice oo3 n3 cc3) (v' := .slice oo4 n4 cc4) hXA5 (Ne.symm HAB.out)
      have hN1 := Lib.hid (hM1.past (v := .slice oo3 n3 cc3) (v' := .slice oo4 n4 cc4) hXB5 (fun _ h => by cases h))
      have hN2 := Lib.hid (hM2.past (v := .slice oo3 n3 cc3) (v' := .slice oo4 n4 cc4) hXB5 (fun _ h => by cases h))
      have hN3 := Lib.hid (hM3.past (v := .slice oo3 n3 cc3) (v' := .slice oo4 n4 cc4) hXB5 (fun _ h => by cases h))
      have hN4 := Lib.hid (hM4.past (v := .slice oo3 n3 cc3) (v' := .slice oo4 n4 cc4) hXB5 (fun _ h => by cases h))
      have HXA6 := Lib.hid hXA6; have HXB6 := Lib.hid hXB6
      refine HeadG.last (i := 15) rfl (by kernel_rfl) (by kernel_rfl) (by kernel_rfl) (fun K9 hK9 => ?_)
      go_simp
      refine hK9.out _ _ ?_
      clear hK9 K9 f1 f2 f3 f4 hXA hXB hXA5 hXB5 hM1 hM2 hM3 hM4 hXA6 hXB6
      try simp only [Act.put, List.setIfInBounds_toArray, List.set_cons_zero, List.set_cons_succ, List.getElem_toArray, List.getElem_cons_zero, List.getElem_cons_succ]
      generalize hz6 : (V5.setCell ⟨B, 0, none⟩ (.slice oo3 n3 cc3)).setCell ⟨B, 1, none⟩ (.slice oo4 n4 cc4) = V6 at *
      clear hz6 hS HV1 HV2 HV3 HV4 HL1 HL2 HL3 HL4
      have HO1 : Hid (On w V6) := HXA6.out.1
      have HCE : Hid (∀ w', On V6 w' → w'.cell? ⟨A, 0, none⟩ = some (.slice oo1 n1 cc1) ∧ w'.cell? ⟨A, 1, none⟩ = some (.slice oo2 n2 cc2) ∧ w'.cell? ⟨B, 0, none⟩ = some (.slice oo3 n3 cc3) ∧ w'.cell? ⟨B, 1, none⟩ = some (.slice oo4 n4 cc4)) := fun w' k => by
        obtain ⟨-, -, -, h1, h2, -⟩ := HXA6.out.on k
        obtain ⟨-, -, -, h3, h4, -⟩ := HXB6.out.on k
        exact ⟨h1, h2, h3, h4⟩
      have HGZ : Hid (∀ w', On V6 w' → Gz w' (.agg #[.slice oo1 n1 cc1, .slice oo2 n2 cc2]) n1 e1 n2 e2 ∧ Gz w' (.agg #[.slice oo3 n3 cc3, .slice oo4 n4 cc4]) n3 e3 n4 e4) := fun w' k => ⟨⟨_, _, rfl, hN1.out.on k, hN2.out.on k⟩, ⟨_, _, rfl, hN3.out.on k, hN4.out.on k⟩⟩
      have HLZ : Hid (∀ w', On V6 w' → Lz w' (.slice oo1 n1 cc1) n1 e1 ∧ Lz w' (.slice oo4 n4 cc4) n4 e4) := fun w' k => ⟨hN1.out.on k, hN4.out.on k⟩
      obtain ⟨w1, hw1⟩ : ∃ w1, w1 = V6 := ⟨_, rfl⟩
      rw [← hw1] at HO1 HCE HGZ HLZ ⊢
      clear hw1 HXA6 HXB6 hN1 hN2 hN3 hN4 HO0 HOWN1 HOWN2 HOWN3 HOWN4 HBC HAB HYA0 HYB0
      have HQ1 : Hid (∀ w', On w1 w' → AnsE Try.prog 35 #[.agg #[.slice oo1 n1 cc1, .slice oo2 n2 cc2]] w' (.bool bv) ∧ AnsE Try.prog 36 #[.agg #[.slice oo1 n1 cc1, .slice oo2 n2 cc2]] w' (.bool bv)) := fun w' k => ⟨PV.out.1 _ _ (HGZ.out w' k).1, PV.out.2 _ _ (HGZ.out w' k).1⟩
      have HQ1 : Hid (∀ w', On w1 w' → (Calls Try.prog 35 #[.agg #[.slice oo1 n1 cc1, .slice oo2 n2 cc2]] w' fun e w'' => e = .returned (.bool bv) ∧ On w1 w'') ∧ Calls Try.prog 36 #[.agg #[.slice oo1 n1 cc1, .slice oo2 n2 cc2]] w' fun e w'' => e = .returned (.bool bv) ∧ On w1 w'') := fun w' k => ⟨(HQ1.out w' k).1.mono fun e w'' h => ⟨h.1, k.trans h.2⟩, (HQ1.out w' k).2.mono fun e w'' h => ⟨h.1, k.trans h.2⟩⟩
      have HQ2 : Hid (∀ w', On w1 w' → (Calls Try.prog 37 #[.agg #[.slice oo1 n1 cc1, .slice oo2 n2 cc2], .agg #[.slice oo3 n3 cc3, .slice oo4 n4 cc4]] w' fun e w'' => e = .returned (.int .i64 zv) ∧ On w1 w'') ∧ Calls Try.prog 38 #[.agg #[.slice oo1 n1 cc1, .slice oo2 n2 cc2], .agg #[.slice oo3 n3 cc3, .slice oo4 n4 cc4]] w' fun e w'' => e = .returned (.int .i64 zv) ∧ On w1 w'') := fun w' k => ⟨(PO.out.1 _ _ _ (HGZ.out w' k).1 (HGZ.out w' k).2).mono fun e w'' h => ⟨h.1, k.trans h.2⟩, (PO.out.2 _ _ _ (HGZ.out w' k).1 (HGZ.out w' k).2).mono fun e w'' h => ⟨h.1, k.trans h.2⟩⟩
      have HQ3 : Hid (∀ w', On w1 w' → (Calls Try.prog 39 #[.agg #[.slice oo1 n1 cc1, .slice oo2 n2 cc2]] w' fun e w'' => e = .returned (.string sb) ∧ On w1 w'') ∧ Calls Try.prog 40 #[.agg #[.slice oo1 n1 cc1, .slice oo2 n2 cc2]] w' fun e w'' => e = .returned (.string sb) ∧ On w1 w'') := fun w' k => ⟨(PS.out.1 _ _ (HGZ.out w' k).1).mono fun e w'' h => ⟨h.1, k.trans h.2⟩, (PS.out.2 _ _ (HGZ.out w' k).1).mono fun e w'' h => ⟨h.1, k.trans h.2⟩⟩
      go_upto_region 2 with fail
      refine region_keep_tail (fun wq => On w1 wq) 20 (by kernel_rfl) (by kernel_rfl) (On.refl w1).drew ?_
      simp only [List.take_succ_cons, List.take_zero, List.drop_succ_cons, List.drop_zero]
      refine BigFrame.wpQuiet_want (by rfl) (fun K hK => ?_)
      refine ⟨.agg #[.slice oo1 n1 cc1, .slice oo2 n2 cc2], fun wq hwq => ?kby0, hK _ ?kbr0⟩
      case kby0 => (obtain ⟨g0, g1, g2, g3⟩ := HCE.out wq hwq; go_simp; try with_reducible rfl)
      clear hK K
      try simp only [Act.put, List.setIfInBounds_toArray, List.set_cons_zero, List.set_cons_succ]
      refine BigFrame.wpQuiet_want (by rfl) (fun K hK => ?_)
      refine ⟨.bool bv, fun wq hwq => ?kby1, hK _ ?kbr1⟩
      case kby1 => (go_simp; go_at_call 35; exact (HQ1.out _ hwq).1)
      clear hK K
      try simp only [Act.put, List.setIfInBounds_toArray, List.set_cons_zero, List.set_cons_succ]
      refine BigFrame.wpQuiet_want (by rfl) (fun K hK => ?_)
      refine ⟨.agg #[.slice oo1 n1 cc1, .slice oo2 n2 cc2], fun wq hwq => ?kby2, hK _ ?kbr2⟩
      case kby2 => (obtain ⟨g0, g1, g2, g3⟩ := HCE.out wq hwq; go_simp; try with_reducible rfl)
      clear hK K
      try simp only [Act.put, List.setIfInBounds_toArray, List.set_cons_zero, List.set_cons_succ]
      refine BigFrame.wpQuiet_want (by rfl) (fun K hK => ?_)
      refine ⟨.bool bv, fun wq hwq => ?kby3, hK _ ?kbr3⟩
      case kby3 => (go_simp; go_at_call 36; exact (HQ1.out _ hwq).2)
      clear hK K
      try simp only [Act.put, List.setIfInBounds_toArray, List.set_cons_zero, List.set_cons_succ]
      refine BigFrame.wpQuiet_want (by rfl) (fun K hK => ?_)
      refine ⟨.bool false, fun wq hwq => ?kby4, hK _ ?kbr4⟩
      case kby4 => (go_simp; first | done | exact ⟨rfl, rfl⟩ | simp)
      clear hK K
      try simp only [Act.put, List.setIfInBounds_toArray, List.set_cons_zero, List.set_cons_succ]
      refine BigFrame.wpQuiet_want (by rfl) (fun K hK => ?_)
      refine ⟨?kbv5, fun wq hwq => ?kby5, hK _ ?kbr5⟩
      case kby5 => (go_simp; try with_reducible rfl)
      clear hK K
      try simp only [Act.put, List.setIfInBounds_toArray, List.set_cons_zero, List.set_cons_succ]
      refine BigFrame.wpQuiet_want (by rfl) (fun K hK => ?_)
      refine ⟨.agg #[.slice oo1 n1 cc1, .slice oo2 n2 cc2], fun wq hwq => ?kby6, hK _ ?kbr6⟩
      case kby6 => (obtain ⟨g0, g1, g2, g3⟩ := HCE.out wq hwq; go_simp; try with_reducible rfl)
      clear hK K
      try simp only [Act.put, List.setIfInBounds_toArray, List.set_cons_zero, List.set_cons_succ]
      refine BigFrame.wpQuiet_want (by rfl) (fun K hK => ?_)
      refine ⟨.agg #[.slice oo3 n3 cc3, .slice oo4 n4 cc4], fun wq hwq => ?kby7, hK _ ?kbr7⟩
      case kby7 => (obtain ⟨g0, g1, g2, g3⟩ := HCE.out wq hwq; go_simp; try with_reducible rfl)
      clear hK K
      try simp only [Act.put, List.setIfInBounds_toArray, List.set_cons_zero, List.set_cons_succ]
      refine BigFrame.wpQuiet_want (by rfl) (fun K hK => ?_)
      refine ⟨.int .i64 zv, fun wq hwq => ?kby8, hK _ ?kbr8⟩
      case kby8 => (go_simp; go_at_call 37; exact (HQ2.out _ hwq).1)
      clear hK K
      try simp only [Act.put, List.setIfInBounds_toArray, List.set_cons_zero, List.set_cons_succ]
      refine BigFrame.wpQuiet_want (by rfl) (fun K hK => ?_)
      refine ⟨.agg #[.slice oo1 n1 cc1, .slice oo2 n2 cc2], fun wq hwq => ?kby9, hK _ ?kbr9⟩
      case kby9 => (obtain ⟨g0, g1, g2, g3⟩ := HCE.out wq hwq; go_simp; try with_reducible rfl)
      clear hK K
      try simp only [Act.put, List.setIfInBounds_toArray, List.set_cons_zero, List.set_cons_succ]
      refine BigFrame.wpQuiet_want (by rfl) (fun K hK => ?_)
      refine ⟨.agg #[.slice oo3 n3 cc3, .slice oo4 n4 cc4], fun wq hwq => ?kby10, hK _ ?kbr10⟩
      case kby10 => (obtain ⟨g0, g1, g2, g3⟩ := HCE.out wq hwq; go_simp; try with_reducible rfl)
      clear hK K
      try simp only [Act.put, List.setIfInBounds_toArray, List.set_cons_zero, List.set_cons_succ]
      refine BigFrame.wpQuiet_want (by rfl) (fun K hK => ?_)
      refine ⟨.int .i64 zv, fun wq hwq => ?kby11, hK _ ?kbr11⟩
      case kby11 => (go_simp; go_at_call 38; exact (HQ2.out _ hwq).2)
      clear hK K
      try simp only [Act.put, List.setIfInBounds_toArray, List.set_cons_zero, List.set_cons_succ]
      refine BigFrame.wpQuiet_want (by rfl) (fun K hK => ?_)
      refine ⟨.bool false, fun wq hwq => ?kby12, hK _ ?kbr12⟩
      case kby12 => (go_simp; first | done | exact ⟨rfl, rfl⟩ | simp)
      clear hK K
      try simp only [Act.put, List.setIfInBounds_toArray, List.set_cons_zero, List.set_cons_succ]
      refine BigFrame.wpQuiet_want (by rfl) (fun K hK => ?_)
      refine ⟨?kbv13, fun wq hwq => ?kby13, hK _ ?kbr13⟩
      case kby13 => (go_simp; try with_reducible rfl)
      clear hK K
      try simp only [Act.put, List.setIfInBounds_toArray, List.set_cons_zero, List.set_cons_succ]
      refine BigFrame.wpQuiet_want (by rfl) (fun K hK => ?_)
      refine ⟨?kbv14, fun wq hwq => ?kby14, hK _ ?kbr14⟩
      case kby14 => (go_simp; try with_reducible rfl)
      clear hK K
      try simp only [Act.put, List.setIfInBounds_toArray, List.set_cons_zero, List.set_cons_succ]
      refine BigFrame.wpQuiet_want (by rfl) (fun K hK => ?_)
      refine ⟨.agg #[.slice oo1 n1 cc1, .slice oo2 n2 cc2], fun wq hwq => ?kby15, hK _ ?kbr15⟩
      case kby15 => (obtain ⟨g0, g1, g2, g3⟩ := HCE.out wq hwq; go_simp; try with_reducible rfl)
      clear hK K
      try simp only [Act.put, List.setIfInBounds_toArray, List.set_cons_zero, List.set_cons_succ]
      refine BigFrame.wpQuiet_want (by rfl) (fun K hK => ?_)
      refine ⟨.string sb, fun wq hwq => ?kby16, hK _ ?kbr16⟩
      case kby16 => (go_simp; go_at_call 39; exact (HQ3.out _ hwq).1)
      clear hK K
      try simp only [Act.put, List.setIfInBounds_toArray, List.set_cons_zero, List.set_cons_succ]
      refine BigFrame.wpQuiet_want (by rfl) (fun K hK => ?_)
      refine ⟨.agg #[.slice oo1 n1 cc1, .slice oo2 n2 cc2], fun wq hwq => ?kby17, hK _ ?kbr17⟩
      case kby17 => (obtain ⟨g0, g1, g2, g3⟩ := HCE.out wq hwq; go_simp; try with_reducible rfl)
      clear hK K
      try simp only [Act.put, List.setIfInBounds_toArray, List.set_cons_zero, List.set_cons_succ]
      refine BigFrame.wpQuiet_want (by rfl) (fun K hK => ?_)
      refine ⟨.string sb, fun wq hwq => ?kby18, hK _ ?kbr18⟩
      case kby18 => (go_simp; go_at_call 40; exact (HQ3.out _ hwq).2)
      clear hK K
      try simp only [Act.put, List.setIfInBounds_toArray, List.set_cons_zero, List.set_cons_succ]
      refine BigFrame.wpQuiet_want (by rfl) (fun K hK => ?_)
      refine ⟨.bool false, fun wq hwq => ?kby19, hK _ ?kbr19⟩
      case kby19 => (go_simp; first | done | (simp only [str_gd, str_ne, Result.andThen]; first | done | exact ⟨rfl, rfl⟩ | simp))
      clear hK K
      try simp only [Act.put, List.setIfInBounds_toArray, List.set_cons_zero, List.set_cons_succ]
      refine wpQuiet_nil ?_
      intro w2 hw2
      have HO2 := Lib.hid hw2
      clear hw2 HQ1 HQ2 HQ3
      go_upto_region 4 with fail
      obtain ⟨a0, a1, a2, a3⟩ := HCE.out _ HO2.out
      have hcall := PN.out.1 _ _ _ (HLZ.out _ HO2.out).1 (HLZ.out _ HO2.out).2
      go_wp2_with fail
      with_reducible refine hcall.mono ?_
      rintro e w3 ⟨⟨v, rfl, ⟨vp, vz, rfl, hp, hz⟩⟩, hO3⟩
      obtain ⟨w4, hw4⟩ : ∃ w4, w4 = w3.alloc (.cells #[vp, vz] 41) := ⟨_, rfl⟩
      have hX4 : BX w1 w3.heap.size w4 vp vz P1 Q1 := by rw [hw4]; exact BX.make (HO2.out.trans hO3) hp hz
      have HX4 := Lib.hid hX4
      have HW4 := Lib.hid hw4
      obtain ⟨o1, y1, o2, y2, rfl, rfl⟩ := hX4.shape
      obtain ⟨RX, hRX⟩ : ∃ R, R = w3.heap.size := ⟨_, rfl⟩
      rw [← hRX] at HX4
      have HRX := Lib.hid hRX
      clear a0 a1 a2 a3 hcall hp hz hw4 hX4 hO3 hRX
      go_upto_region 5 with fail
      rw [← HW4.out, ← HRX.out]
      obtain ⟨a0, a1, a2, a3⟩ := HCE.out _ HX4.out.1
      have hcall := PN.out.2 _ _ _ (HLZ.out _ HX4.out.1).1 (HLZ.out _ HX4.out.1).2
      go_wp2_with fail
      with_reducible refine hcall.mono ?_
      rintro e w5 ⟨⟨v, rfl, ⟨vp, vz, rfl, hp, hz⟩⟩, hO5⟩
      have hX5 := HX4.out.on hO5
      obtain ⟨w6, hw6⟩ : ∃ w6, w6 = w5.alloc (.cells #[vp, vz] 41) := ⟨_, rfl⟩
      have hY6 : BX w1 w5.heap.size w6 vp vz P1 Q1 := by rw [hw6]; exact BX.make hX5.1 hp hz
      have hX6 := hX5.on (show On w5 w6 by rw [hw6]; exact (On.refl _).alloc _)
      have HNE : Hid (w5.heap.size ≠ RX) := by unfold Hid; have := hX5.2.1; omega
      have HX6 := Lib.hid hX6; have HY6 := Lib.hid hY6
      have HW6 := Lib.hid hw6
      obtain ⟨o3, y3, o4, y4, rfl, rfl⟩ := hY6.shape
      obtain ⟨RY, hRY⟩ : ∃ R, R = w5.heap.size := ⟨_, rfl⟩
      rw [← hRY] at HY6 HNE
      have HRY := Lib.hid hRY
      clear a0 a1 a2 a3 hcall hp hz hw6 hX5 hX6 hY6 hO5 hRY
      go_upto_region 6 with fail
      rw [← HW6.out, ← HRY.out]
      obtain ⟨z1, z2⟩ := HX6.out.cells
      obtain ⟨z3, z4⟩ := HY6.out.cells
      go_wp2_with fail
      with_reducible refine (rfsame _ _ P1 Q1 _ HX6.out.fv HY6.out.fv).mono ?_
      rintro e w7 ⟨rfl, hO6⟩
      have HX7 := Lib.hid (HX6.out.on hO6); have HY7 := Lib.hid (HY6.out.on hO6)
      clear z1 z2 z3 z4 hO6
      go_upto_region 8 with fail
      obtain ⟨a0, a1, a2, a3⟩ := HCE.out _ HX7.out.1
      obtain ⟨gx, gy⟩ := HGZ.out _ HX7.out.1
      have hcall := PA.out.1 _ _ _ gx gy
      clear gx gy
      go_wp2_with fail
      with_reducible refine hcall.mono ?_
      rintro e w8 ⟨⟨v, rfl, ⟨vp, vz, rfl, hp, hz⟩⟩, hO⟩
      have hX := HX7.out.on hO; have hY := HY7.out.on hO
      have hYn := hX.other hY HNE.out.symm hp hz
      have hXn := hX.store hp hz
      obtain ⟨f1, f2, f3, f4, f5, f6⟩ := hX.facts vp vz
      obtain ⟨o5, y5, o6, y6, rfl, rfl⟩ := hXn.shape
      have HX9 := Lib.hid hXn; have HY9 := Lib.hid hYn
      clear a0 a1 a2 a3 hcall hO hX hY hXn hYn hp hz f5 f6
      go_upto_region 9 with fail
      generalize (w8.setCell ⟨RX, 0, none⟩ (.slice o5 (nl P2) y5)).setCell ⟨RX, 1, none⟩ (.slice o6 (nl Q2) y6) = w9 at *
      clear f1 f2 f3 f4
      obtain ⟨a0, a1, a2, a3⟩ := HCE.out _ HX9.out.1
      obtain ⟨gx, gy⟩ := HGZ.out _ HX9.out.1
      have hcall := PA.out.2 _ _ _ gx gy
      clear gx gy
      go_wp2_with fail
      with_reducible refine hcall.mono ?_
      rintro e w10 ⟨⟨v, rfl, ⟨vp, vz, rfl, hp, hz⟩⟩, hO⟩
      have hX := HX9.out.on hO; have hY := HY9.out.on hO
      have hXn := hY.other hX HNE.out hp hz
      have hYn := hY.store hp hz
      obtain ⟨f1, f2, f3, f4, f5, f6⟩ := hY.facts vp vz
      obtain ⟨o5, y5, o6, y6, rfl, rfl⟩ := hYn.shape
      have HX11 := Lib.hid hXn; have HY11 := Lib.hid hYn
      clear a0 a1 a2 a3 hcall hO hX hY hXn hYn hp hz f5 f6
      go_upto_region 10 with fail
      generalize (w10.setCell ⟨RY, 0, none⟩ (.slice o5 (nl P2) y5)).setCell ⟨RY, 1, none⟩ (.slice o6 (nl Q2) y6) = w11 at *
      clear f1 f2 f3 f4
      obtain ⟨z1, z2⟩ := HX11.out.cells
      obtain ⟨z3, z4⟩ := HY11.out.cells
      go_wp2_with fail
      with_reducible refine (rfsame _ _ P2 Q2 _ HX11.out.fv HY11.out.fv).mono ?_
      rintro e w12 ⟨rfl, hO6⟩
      have HX12 := Lib.hid (HX11.out.on hO6); have HY12 := Lib.hid (HY11.out.on hO6)
      clear z1 z2 z3 z4 hO6
      go_upto_region 12 with fail
      obtain ⟨a0, a1, a2, a3⟩ := HCE.out _ HX12.out.1
      obtain ⟨gx, gy⟩ := HGZ.out _ HX12.out.1
      have hcall := PM.out.1 _ _ _ gx gy
      clear gx gy
      go_wp2_with fail
      with_reducible refine hcall.mono ?_
      rintro e w13 ⟨⟨v, rfl, ⟨vp, vz, rfl, hp, hz⟩⟩, hO⟩
      have hX := HX12.out.on hO; have hY := HY12.out.on hO
      have hYn := hX.other hY HNE.out.symm hp hz
      have hXn := hX.store hp hz
      obtain ⟨f1, f2, f3, f4, f5, f6⟩ := hX.facts vp vz
      obtain ⟨o5, y5, o6, y6, rfl, rfl⟩ := hXn.shape
      have HX14 := Lib.hid hXn; have HY14 := Lib.hid hYn
      clear a0 a1 a2 a3 hcall hO hX hY hXn hYn hp hz f5 f6
      go_upto_region 13 with fail
      generalize (w13.setCell ⟨RX, 0, none⟩ (.slice o5 (nl P3) y5)).setCell ⟨RX, 1, none⟩ (.slice o6 (nl Q3) y6) = w14 at *
      clear f1 f2 f3 f4
      obtain ⟨a0, a1, a2, a3⟩ := HCE.out _ HX14.out.1
      obtain ⟨gx, gy⟩ := HGZ.out _ HX14.out.1
      have hcall := PM.out.2 _ _ _ gx gy
      clear gx gy
      go_wp2_with fail
      with_reducible refine hcall.mono ?_
      rintro e w15 ⟨⟨v, rfl, ⟨vp, vz, rfl, hp, hz⟩⟩, hO⟩
      have hX := HX14.out.on hO; have hY := HY14.out.on hO
      have hXn := hY.other hX HNE.out hp hz
      have hYn := hY.store hp hz
      obtain ⟨f1, f2, f3, f4, f5, f6⟩ := hY.facts vp vz
      obtain ⟨o5, y5, o6, y6, rfl, rfl⟩ := hYn.shape
      have HX16 := Lib.hid hXn; have HY16 := Lib.hid hYn
      clear a0 a1 a2 a3 hcall hO hX hY hXn hYn hp hz f5 f6
      go_upto_region 14 with fail
      generalize (w15.setCell ⟨RY, 0, none⟩ (.slice o5 (nl P3) y5)).setCell ⟨RY, 1, none⟩ (.slice o6 (nl Q3) y6) = w16 at *
      clear f1 f2 f3 f4
      obtain ⟨z1, z2⟩ := HX16.out.cells
      obtain ⟨z3, z4⟩ := HY16.out.cells
      go_wp2_with fail
      with_reducible refine (rfsame _ _ P3 Q3 _ HX16.out.fv HY16.out.fv).mono ?_
      rintro e w17 ⟨rfl, hO6⟩
      have HX17 := Lib.hid (HX16.out.on hO6); have HY17 := Lib.hid (HY16.out.on hO6)
      clear z1 z2 z3 z4 hO6
      go_upto_region 16 with fail
      obtain ⟨a0, a1, a2, a3⟩ := HCE.out _ HX17.out.1
      obtain ⟨gx, gy⟩ := HGZ.out _ HX17.out.1
      have hcall := PP.out.1 _ _ gx
      clear gx gy
      go_wp2_with fail
      with_reducible refine hcall.mono ?_
      rintro e w18 ⟨⟨v, rfl, ⟨vp, vz, rfl, hp, hz⟩⟩, hO⟩
      have hX := HX17.out.on hO; have hY := HY17.out.on hO
      have hYn := hX.other hY HNE.out.symm hp hz
      have hXn := hX.store hp hz
      obtain ⟨f1, f2, f3, f4, f5, f6⟩ := hX.facts vp vz
      obtain ⟨o5, y5, o6, y6, rfl, rfl⟩ := hXn.shape
      have HX19 := Lib.hid hXn; have HY19 := Lib.hid hYn
      clear a0 a1 a2 a3 hcall hO hX hY hXn hYn hp hz f5 f6
      go_upto_region 17 with fail
      generalize (w18.setCell ⟨RX, 0, none⟩ (.slice o5 (nl P4) y5)).setCell ⟨RX, 1, none⟩ (.slice o6 (nl Q4) y6) = w19 at *
      clear f1 f2 f3 f4
      obtain ⟨a0, a1, a2, a3⟩ := HCE.out _ HX19.out.1
      obtain ⟨gx, gy⟩ := HGZ.out _ HX19.out.1
      have hcall := PP.out.2 _ _ gx
      clear gx gy
      go_wp2_with fail
      with_reducible refine hcall.mono ?_
      rintro e w20 ⟨⟨v, rfl, ⟨vp, vz, rfl, hp, hz⟩⟩, hO⟩
      have hX := HX19.out.on hO; have hY := HY19.out.on hO
      have hXn := hY.other hX HNE.out hp hz
      have hYn := hY.store hp hz
      obtain ⟨f1, f2, f3, f4, f5, f6⟩ := hY.facts vp vz
      obtain ⟨o5, y5, o6, y6, rfl, rfl⟩ := hYn.shape
      have HX21 := Lib.hid hXn; have HY21 := Lib.hid hYn
      clear a0 a1 a2 a3 hcall hO hX hY hXn hYn hp hz f5 f6
      go_upto_region 18 with fail
      generalize (w20.setCell ⟨RY, 0, none⟩ (.slice o5 (nl P4) y5)).setCell ⟨RY, 1, none⟩ (.slice o6 (nl Q4) y6) = w21 at *
      clear f1 f2 f3 f4
      obtain ⟨z1, z2⟩ := HX21.out.cells
      obtain ⟨z3, z4⟩ := HY21.out.cells
      go_wp2_with fail
      with_reducible refine (rfsame _ _ P4 Q4 _ HX21.out.fv HY21.out.fv).mono ?_
      rintro e w22 ⟨rfl, hO6⟩
      have HX22 := Lib.hid (HX21.out.on hO6); have HY22 := Lib.hid (HY21.out.on hO6)
      clear z1 z2 z3 z4 hO6
      have HOZ : Hid (On w w22) := HO1.out.trans HX22.out.1
      go_wp2_with fail
      with_reducible refine (works_any w22).mono ?_
      rintro e wz ⟨rfl, hO17⟩
      have HO17 := Lib.hid (HOZ.out.trans hO17)
      clear hO17
      go_wp2
      go_ret
      exact ⟨rfl, HO17.out⟩
  · obtain ⟨f0, f1⟩ := HAC.out _ HD.out
    go_simp
    refine hK9.out _ _ hS ?_
    clear hK9 K9 f0 f1
    try simp only [Act.put, List.setIfInBounds_toArray, List.set_cons_zero, List.set_cons_succ, List.getElem_toArray, List.getElem_cons_zero, List.getElem_cons_succ]
    refine HeadG.one (i := 1) rfl (by kernel_rfl) (by kernel_rfl) (fun K9 hK9 => ?_)
    obtain ⟨f0, f1⟩ := HAC.out _ HD.out
    go_simp
    refine hK9.out _ _ hS ?_
    clear hK9 K9 f0 f1
    try simp only [Act.put, List.setIfInBounds_toArray, List.set_cons_zero, List.set_cons_succ, List.getElem_toArray, List.getElem_cons_zero, List.getElem_cons_succ]
    refine HeadG.one (i := 2) rfl (by kernel_rfl) (by kernel_rfl) (fun K9 hK9 => ?_)
    go_simp
    go_at_call 7
    refine (HOWN1.out _ HD.out).mono ?_
    rintro e V1 ⟨⟨u1, rfl, hL1⟩, hc1⟩
    have HV1 := Lib.hid (HD.out.trans hc1)
    have HL1 := Lib.hid hL1
    obtain ⟨oo1, cc1, rfl⟩ := hL1.shape
    have hS := HBC.out _ HV1.out
    clear hc1 hL1
    refine hK9.out _ _ hS ?_
    clear hK9 K9
    try simp only [Act.put, List.setIfInBounds_toArray, List.set_cons_zero, List.set_cons_succ, List.getElem_toArray, List.getElem_cons_zero, List.getElem_cons_succ]
    refine HeadG.one (i := 5) rfl (by kernel_rfl) (by kernel_rfl) (fun K9 hK9 => ?_)
    go_simp
    go_at_call 7
    refine (HOWN2.out _ HV1.out).mono ?_
    rintro e V2 ⟨⟨u2, rfl, hL2⟩, hc2⟩
    have HV2 := Lib.hid (HV1.out.trans hc2)
    have HL2 := Lib.hid hL2
    obtain ⟨oo2, cc2, rfl⟩ := hL2.shape
    have HL1 := Lib.hid (HL1.out.on hc2)
    have hS := HBC.out _ HV2.out
    clear hc2 hL2
    refine hK9.out _ _ hS ?_
    clear hK9 K9
    try simp only [Act.put, List.setIfInBounds_toArray, List.set_cons_zero, List.set_cons_succ, List.getElem_toArray, List.getElem_cons_zero, List.getElem_cons_succ]
    refine HeadG.take (i := 6) (v := .agg #[.slice oo1 n1 cc1, .slice oo2 n2 cc2]) rfl (by kernel_rfl) (by kernel_rfl) (by kernel_rfl) (by kernel_rfl) (by kernel_rfl) (by kernel_rfl) (by kernel_rfl) (fun _ _ _ h => h) (Or.inl ⟨by rfl, ?q11⟩) hS ?_
    case q11 => (intro w' hSw; obtain ⟨g0, g1⟩ := hSw; go_simp; try with_reducible rfl)
    try simp only [Act.put, List.setIfInBounds_toArray, List.set_cons_zero, List.set_cons_succ, List.getElem_toArray, List.getElem_cons_zero, List.getElem_cons_succ]
    refine HeadG.one (i := 9) rfl (by kernel_rfl) (by kernel_rfl) (fun K9 hK9 => ?_)
    go_simp
    go_at_call 7
    refine (HOWN3.out _ HV2.out).mono ?_
    rintro e V3 ⟨⟨u3, rfl, hL3⟩, hc3⟩
    have HV3 := Lib.hid (HV2.out.trans hc3)
    have HL3 := Lib.hid hL3
    obtain ⟨oo3, cc3, rfl⟩ := hL3.shape
    have HL1 := Lib.hid (HL1.out.on hc3)
    have HL2 := Lib.hid (HL2.out.on hc3)
    have hS := HBC.out _ HV3.out
    clear hc3 hL3
    refine hK9.out _ _ hS ?_
    clear hK9 K9
    try simp only [Act.put, List.setIfInBounds_toArray, List.set_cons_zero, List.set_cons_succ, List.getElem_toArray, List.getElem_cons_zero, List.getElem_cons_succ]
    refine HeadG.one (i := 12) rfl (by kernel_rfl) (by kernel_rfl) (fun K9 hK9 => ?_)
    go_simp
    go_at_call 7
    refine (HOWN4.out _ HV3.out).mono ?_
    rintro e V4 ⟨⟨u4, rfl, hL4⟩, hc4⟩
    have HV4 := Lib.hid (HV3.out.trans hc4)
    have HL4 := Lib.hid hL4
    obtain ⟨oo4, cc4, rfl⟩ := hL4.shape
    have HL1 := Lib.hid (HL1.out.on hc4)
    have HL2 := Lib.hid (HL2.out.on hc4)
    have HL3 := Lib.hid (HL3.out.on hc4)
    have hS := HBC.out _ HV4.out
    clear hc4 hL4
    refine hK9.out _ _ hS ?_
    clear hK9 K9
    try simp only [Act.put, List.setIfInBounds_toArray, List.set_cons_zero, List.set_cons_succ, List.getElem_toArray, List.getElem_cons_zero, List.getElem_cons_succ]
    refine HeadG.take (i := 13) (v := .agg #[.slice oo3 n3 cc3, .slice oo4 n4 cc4]) rfl (by kernel_rfl) (by kernel_rfl) (by kernel_rfl) (by kernel_rfl) (by kernel_rfl) (by kernel_rfl) (by kernel_rfl) (fun _ _ _ h => h) (Or.inl ⟨by rfl, ?q12⟩) hS ?_
    case q12 => (intro w' hSw; obtain ⟨g0, g1⟩ := hSw; go_simp; try with_reducible rfl)
    try simp only [Act.put, List.setIfInBounds_toArray, List.set_cons_zero, List.set_cons_succ, List.getElem_toArray, List.getElem_cons_zero, List.getElem_cons_succ]
    have hXA := (HXA.out.on HV4.out); have hXB := (HXB.out.on HV4.out)
    obtain ⟨f1, f2, f3, f4⟩ := hXA.facts (.slice oo1 n1 cc1) (.slice oo2 n2 cc2)
    have hXA5 := hXA.store (v := .slice oo1 n1 cc1) (v' := .slice oo2 n2 cc2) (fun _ h => by cases h) (fun _ h => by cases h)
    have hXB5 := hXA.other (v := .slice oo1 n1 cc1) (v' := .slice oo2 n2 cc2) hXB HAB.out
    have hM1 := HL1.out.past (v := .slice oo1 n1 cc1) (v' := .slice oo2 n2 cc2) hXA (fun _ h => by cases h)
    have hM2 := HL2.out.past (v := .slice oo1 n1 cc1) (v' := .slice oo2 n2 cc2) hXA (fun _ h => by cases h)
    have hM3 := HL3.out.past (v := .slice oo1 n1 cc1) (v' := .slice oo2 n2 cc2) hXA (fun _ h => by cases h)
    have hM4 := HL4.out.past (v := .slice oo1 n1 cc1) (v' := .slice oo2 n2 cc2) hXA (fun _ h => by cases h)
    have hS5 := hXB5.2.2.2
    refine HeadG.one (i := 14) rfl (by kernel_rfl) (by kernel_rfl) (fun K9 hK9 => ?_)
    go_simp
    refine hK9.out _ _ ⟨hS5.1, hS5.2.1⟩ ?_
    clear hK9 K9 f1 f2 f3 f4 hS5
    try simp only [Act.put, List.setIfInBounds_toArray, List.set_cons_zero, List.set_cons_succ, List.getElem_toArray, List.getElem_cons_zero, List.getElem_cons_succ]
    generalize hz5 : (V4.setCell ⟨A, 0, none⟩ (.slice oo1 n1 cc1)).setCell ⟨A, 1, none⟩ (.slice oo2 n2 cc2) = V5 at *
    clear hz5
    obtain ⟨f1, f2, f3, f4⟩ := hXB5.facts (.slice oo3 n3 cc3) (.slice oo4 n4 cc4)
    have hXB6 := hXB5.store (v := .slice oo3 n3 cc3) (v' := .slice oo4 n4 cc4) (fun _ h => by cases h) (fun _ h => by cases h)
    have hXA6 := hXB5.other (v := .slice oo3 n3 cc3) (v' := .slice oo4 n4 cc4) hXA5 (Ne.symm HAB.out)
    have hN1 := Lib.hid (hM1.past (v := .slice oo3 n3 cc3) (v' := .slice oo4 n4 cc4) hXB5 (fun _ h => by cases h))
    have hN2 := Lib.hid (hM2.past (v := .slice oo3 n3 cc3) (v' := .slice oo4 n4 cc4) hXB5 (fun _ h => by cases h))
    have hN3 := Lib.hid (hM3.past (v := .slice oo3 n3 cc3) (v' := .slice oo4 n4 cc4) hXB5 (fun _ h => by cases h))
    have hN4 := Lib.hid (hM4.past (v := .slice oo3 n3 cc3) (v' := .slice oo4 n4 cc4) hXB5 (fun _ h => by cases h))
    have HXA6 := Lib.hid hXA6; have HXB6 := Lib.hid hXB6
    refine HeadG.last (i := 15) rfl (by kernel_rfl) (by kernel_rfl) (by kernel_rfl) (fun K9 hK9 => ?_)
    go_simp
    refine hK9.out _ _ ?_
    clear hK9 K9 f1 f2 f3 f4 hXA hXB hXA5 hXB5 hM1 hM2 hM3 hM4 hXA6 hXB6
    try simp only [Act.put, List.setIfInBounds_toArray, List.set_cons_zero, List.set_cons_succ, List.getElem_toArray, List.getElem_cons_zero, List.getElem_cons_succ]
    generalize hz6 : (V5.setCell ⟨B, 0, none⟩ (.slice oo3 n3 cc3)).setCell ⟨B, 1, none⟩ (.slice oo4 n4 cc4) = V6 at *
    clear hz6 hS HV1 HV2 HV3 HV4 HL1 HL2 HL3 HL4
    have HO1 : Hid (On w V6) := HXA6.out.1
    have HCE : Hid (∀ w', On V6 w' → w'.cell? ⟨A, 0, none⟩ = some (.slice oo1 n1 cc1) ∧ w'.cell? ⟨A, 1, none⟩ = some (.slice oo2 n2 cc2) ∧ w'.cell? ⟨B, 0, none⟩ = some (.slice oo3 n3 cc3) ∧ w'.cell? ⟨B, 1, none⟩ = some (.slice oo4 n4 cc4)) := fun w' k => by
      obtain ⟨-, -, -, h1, h2, -⟩ := HXA6.out.on k
      obtain ⟨-, -, -, h3, h4, -⟩ := HXB6.out.on k
      exact ⟨h1, h2, h3, h4⟩
    have HGZ : Hid (∀ w', On V6 w' → Gz w' (.agg #[.slice oo1 n1 cc1, .slice oo2 n2 cc2]) n1 e1 n2 e2 ∧ Gz w' (.agg #[.slice oo3 n3 cc3, .slice oo4 n4 cc4]) n3 e3 n4 e4) := fun w' k => ⟨⟨_, _, rfl, hN1.out.on k, hN2.out.on k⟩, ⟨_, _, rfl, hN3.out.on k, hN4.out.on k⟩⟩
    have HLZ : Hid (∀ w', On V6 w' → Lz w' (.slice oo1 n1 cc1) n1 e1 ∧ Lz w' (.slice oo4 n4 cc4) n4 e4) := fun w' k => ⟨hN1.out.on k, hN4.out.on k⟩
    obtain ⟨w1, hw1⟩ : ∃ w1, w1 = V6 := ⟨_, rfl⟩
    rw [← hw1] at HO1 HCE HGZ HLZ ⊢
    clear hw1 HXA6 HXB6 hN1 hN2 hN3 hN4 HO0 HOWN1 HOWN2 HOWN3 HOWN4 HBC HAB HYA0 HYB0
    have HQ1 : Hid (∀ w', On w1 w' → AnsE Try.prog 35 #[.agg #[.slice oo1 n1 cc1, .slice oo2 n2 cc2]] w' (.bool bv) ∧ AnsE Try.prog 36 #[.agg #[.slice oo1 n1 cc1, .slice oo2 n2 cc2]] w' (.bool bv)) := fun w' k => ⟨PV.out.1 _ _ (HGZ.out w' k).1, PV.out.2 _ _ (HGZ.out w' k).1⟩
    have HQ1 : Hid (∀ w', On w1 w' → (Calls Try.prog 35 #[.agg #[.slice oo1 n1 cc1, .slice oo2 n2 cc2]] w' fun e w'' => e = .returned (.bool bv) ∧ On w1 w'') ∧ Calls Try.prog 36 #[.agg #[.slice oo1 n1 cc1, .slice oo2 n2 cc2]] w' fun e w'' => e = .returned (.bool bv) ∧ On w1 w'') := fun w' k => ⟨(HQ1.out w' k).1.mono fun e w'' h => ⟨h.1, k.trans h.2⟩, (HQ1.out w' k).2.mono fun e w'' h => ⟨h.1, k.trans h.2⟩⟩
    have HQ2 : Hid (∀ w', On w1 w' → (Calls Try.prog 37 #[.agg #[.slice oo1 n1 cc1, .slice oo2 n2 cc2], .agg #[.slice oo3 n3 cc3, .slice oo4 n4 cc4]] w' fun e w'' => e = .returned (.int .i64 zv) ∧ On w1 w'') ∧ Calls Try.prog 38 #[.agg #[.slice oo1 n1 cc1, .slice oo2 n2 cc2], .agg #[.slice oo3 n3 cc3, .slice oo4 n4 cc4]] w' fun e w'' => e = .returned (.int .i64 zv) ∧ On w1 w'') := fun w' k => ⟨(PO.out.1 _ _ _ (HGZ.out w' k).1 (HGZ.out w' k).2).mono fun e w'' h => ⟨h.1, k.trans h.2⟩, (PO.out.2 _ _ _ (HGZ.out w' k).1 (HGZ.out w' k).2).mono fun e w'' h => ⟨h.1, k.trans h.2⟩⟩
    have HQ3 : Hid (∀ w', On w1 w' → (Calls Try.prog 39 #[.agg #[.slice oo1 n1 cc1, .slice oo2 n2 cc2]] w' fun e w'' => e = .returned (.string sb) ∧ On w1 w'') ∧ Calls Try.prog 40 #[.agg #[.slice oo1 n1 cc1, .slice oo2 n2 cc2]] w' fun e w'' => e = .returned (.string sb) ∧ On w1 w'') := fun w' k => ⟨(PS.out.1 _ _ (HGZ.out w' k).1).mono fun e w'' h => ⟨h.1, k.trans h.2⟩, (PS.out.2 _ _ (HGZ.out w' k).1).mono fun e w'' h => ⟨h.1, k.trans h.2⟩⟩
    go_upto_region 2 with fail
    refine region_keep_tail (fun wq => On w1 wq) 20 (by kernel_rfl) (by kernel_rfl) (On.refl w1).drew ?_
    simp only [List.take_succ_cons, List.take_zero, List.drop_succ_cons, List.drop_zero]
    refine BigFrame.wpQuiet_want (by rfl) (fun K hK => ?_)
    refine ⟨.agg #[.slice oo1 n1 cc1, .slice oo2 n2 cc2], fun wq hwq => ?kcy0, hK _ ?kcr0⟩
    case kcy0 => (obtain ⟨g0, g1, g2, g3⟩ := HCE.out wq hwq; go_simp; try with_reducible rfl)
    clear hK K
    try simp only [Act.put, List.setIfInBounds_toArray, List.set_cons_zero, List.set_cons_succ]
    refine BigFrame.wpQuiet_want (by rfl) (fun K hK => ?_)
    refine ⟨.bool bv, fun wq hwq => ?kcy1, hK _ ?kcr1⟩
    case kcy1 => (go_simp; go_at_call 35; exact (HQ1.out _ hwq).1)
    clear hK K
    try simp only [Act.put, List.setIfInBounds_toArray, List.set_cons_zero, List.set_cons_succ]
    refine BigFrame.wpQuiet_want (by rfl) (fun K hK => ?_)
    refine ⟨.agg #[.slice oo1 n1 cc1, .slice oo2 n2 cc2], fun wq hwq => ?kcy2, hK _ ?kcr2⟩
    case kcy2 => (obtain ⟨g0, g1, g2, g3⟩ := HCE.out wq hwq; go_simp; try with_reducible rfl)
    clear hK K
    try simp only [Act.put, List.setIfInBounds_toArray, List.set_cons_zero, List.set_cons_succ]
    refine BigFrame.wpQuiet_want (by rfl) (fun K hK => ?_)
    refine ⟨.bool bv, fun wq hwq => ?kcy3, hK _ ?kcr3⟩
    case kcy3 => (go_simp; go_at_call 36; exact (HQ1.out _ hwq).2)
    clear hK K
    try simp only [Act.put, List.setIfInBounds_toArray, List.set_cons_zero, List.set_cons_succ]
    refine BigFrame.wpQuiet_want (by rfl) (fun K hK => ?_)
    refine ⟨.bool false, fun wq hwq => ?kcy4, hK _ ?kcr4⟩
    case kcy4 => (go_simp; first | done | exact ⟨rfl, rfl⟩ | simp)
    clear hK K
    try simp only [Act.put, List.setIfInBounds_toArray, List.set_cons_zero, List.set_cons_succ]
    refine BigFrame.wpQuiet_want (by rfl) (fun K hK => ?_)
    refine ⟨?kcv5, fun wq hwq => ?kcy5, hK _ ?kcr5⟩
    case kcy5 => (go_simp; try with_reducible rfl)
    clear hK K
    try simp only [Act.put, List.setIfInBounds_toArray, List.set_cons_zero, List.set_cons_succ]
    refine BigFrame.wpQuiet_want (by rfl) (fun K hK => ?_)
    refine ⟨.agg #[.slice oo1 n1 cc1, .slice oo2 n2 cc2], fun wq hwq => ?kcy6, hK _ ?kcr6⟩
    case kcy6 => (obtain ⟨g0, g1, g2, g3⟩ := HCE.out wq hwq; go_simp; try with_reducible rfl)
    clear hK K
    try simp only [Act.put, List.setIfInBounds_toArray, List.set_cons_zero, List.set_cons_succ]
    refine BigFrame.wpQuiet_want (by rfl) (fun K hK => ?_)
    refine ⟨.agg #[.slice oo3 n3 cc3, .slice oo4 n4 cc4], fun wq hwq => ?kcy7, hK _ ?kcr7⟩
    case kcy7 => (obtain ⟨g0, g1, g2, g3⟩ := HCE.out wq hwq; go_simp; try with_reducible rfl)
    clear hK K
    try simp only [Act.put, List.setIfInBounds_toArray, List.set_cons_zero, List.set_cons_succ]
    refine BigFrame.wpQuiet_want (by rfl) (fun K hK => ?_)
    refine ⟨.int .i64 zv, fun wq hwq => ?kcy8, hK _ ?kcr8⟩
    case kcy8 => (go_simp; go_at_call 37; exact (HQ2.out _ hwq).1)
    clear hK K
    try simp only [Act.put, List.setIfInBounds_toArray, List.set_cons_zero, List.set_cons_succ]
    refine BigFrame.wpQuiet_want (by rfl) (fun K hK => ?_)
    refine ⟨.agg #[.slice oo1 n1 cc1, .slice oo2 n2 cc2], fun wq hwq => ?kcy9, hK _ ?kcr9⟩
    case kcy9 => (obtain ⟨g0, g1, g2, g3⟩ := HCE.out wq hwq; go_simp; try with_reducible rfl)
    clear hK K
    try simp only [Act.put, List.setIfInBounds_toArray, List.set_cons_zero, List.set_cons_succ]
    refine BigFrame.wpQuiet_want (by rfl) (fun K hK => ?_)
    refine ⟨.agg #[.slice oo3 n3 cc3, .slice oo4 n4 cc4], fun wq hwq => ?kcy10, hK _ ?kcr10⟩
    case kcy10 => (obtain ⟨g0, g1, g2, g3⟩ := HCE.out wq hwq; go_simp; try with_reducible rfl)
    clear hK K
    try simp only [Act.put, List.setIfInBounds_toArray, List.set_cons_zero, List.set_cons_succ]
    refine BigFrame.wpQuiet_want (by rfl) (fun K hK => ?_)
    refine ⟨.int .i64 zv, fun wq hwq => ?kcy11, hK _ ?kcr11⟩
    case kcy11 => (go_simp; go_at_call 38; exact (HQ2.out _ hwq).2)
    clear hK K
    try simp only [Act.put, List.setIfInBounds_toArray, List.set_cons_zero, List.set_cons_succ]
    refine BigFrame.wpQuiet_want (by rfl) (fun K hK => ?_)
    refine ⟨.bool false, fun wq hwq => ?kcy12, hK _ ?kcr12⟩
    case kcy12 => (go_simp; first | done | exact ⟨rfl, rfl⟩ | simp)
    clear hK K
    try simp only [Act.put, List.setIfInBounds_toArray, List.set_cons_zero, List.set_cons_succ]
    refine BigFrame.wpQuiet_want (by rfl) (fun K hK => ?_)
    refine ⟨?kcv13, fun wq hwq => ?kcy13, hK _ ?kcr13⟩
    case kcy13 => (go_simp; try with_reducible rfl)
    clear hK K
    try simp only [Act.put, List.setIfInBounds_toArray, List.set_cons_zero, List.set_cons_succ]
    refine BigFrame.wpQuiet_want (by rfl) (fun K hK => ?_)
    refine ⟨?kcv14, fun wq hwq => ?kcy14, hK _ ?kcr14⟩
    case kcy14 => (go_simp; try with_reducible rfl)
    clear hK K
    try simp only [Act.put, List.setIfInBounds_toArray, List.set_cons_zero, List.set_cons_succ]
    refine BigFrame.wpQuiet_want (by rfl) (fun K hK => ?_)
    refine ⟨.agg #[.slice oo1 n1 cc1, .slice oo2 n2 cc2], fun wq hwq => ?kcy15, hK _ ?kcr15⟩
    case kcy15 => (obtain ⟨g0, g1, g2, g3⟩ := HCE.out wq hwq; go_simp; try with_reducible rfl)
    clear hK K
    try simp only [Act.put, List.setIfInBounds_toArray, List.set_cons_zero, List.set_cons_succ]
    refine BigFrame.wpQuiet_want (by rfl) (fun K hK => ?_)
    refine ⟨.string sb, fun wq hwq => ?kcy16, hK _ ?kcr16⟩
    case kcy16 => (go_simp; go_at_call 39; exact (HQ3.out _ hwq).1)
    clear hK K
    try simp only [Act.put, List.setIfInBounds_toArray, List.set_cons_zero, List.set_cons_succ]
    refine BigFrame.wpQuiet_want (by rfl) (fun K hK => ?_)
    refine ⟨.agg #[.slice oo1 n1 cc1, .slice oo2 n2 cc2], fun wq hwq => ?kcy17, hK _ ?kcr17⟩
    case kcy17 => (obtain ⟨g0, g1, g2, g3⟩ := HCE.out wq hwq; go_simp; try with_reducible rfl)
    clear hK K
    try simp only [Act.put, List.setIfInBounds_toArray, List.set_cons_zero, List.set_cons_succ]
    refine BigFrame.wpQuiet_want (by rfl) (fun K hK => ?_)
    refine ⟨.string sb, fun wq hwq => ?kcy18, hK _ ?kcr18⟩
    case kcy18 => (go_simp; go_at_call 40; exact (HQ3.out _ hwq).2)
    clear hK K
    try simp only [Act.put, List.setIfInBounds_toArray, List.set_cons_zero, List.set_cons_succ]
    refine BigFrame.wpQuiet_want (by rfl) (fun K hK => ?_)
    refine ⟨.bool false, fun wq hwq => ?kcy19, hK _ ?kcr19⟩
    case kcy19 => (go_simp; first | done | (simp only [str_gd, str_ne, Result.andThen]; first | done | exact ⟨rfl, rfl⟩ | simp))
    clear hK K
    try simp only [Act.put, List.setIfInBounds_toArray, List.set_cons_zero, List.set_cons_succ]
    refine wpQuiet_nil ?_
    intro w2 hw2
    have HO2 := Lib.hid hw2
    clear hw2 HQ1 HQ2 HQ3
    go_upto_region 4 with fail
    obtain ⟨a0, a1, a2, a3⟩ := HCE.out _ HO2.out
    have hcall := PN.out.1 _ _ _ (HLZ.out _ HO2.out).1 (HLZ.out _ HO2.out).2
    go_wp2_with fail
    with_reducible refine hcall.mono ?_
    rintro e w3 ⟨⟨v, rfl, ⟨vp, vz, rfl, hp, hz⟩⟩, hO3⟩
    obtain ⟨w4, hw4⟩ : ∃ w4, w4 = w3.alloc (.cells #[vp, vz] 41) := ⟨_, rfl⟩
    have hX4 : BX w1 w3.heap.size w4 vp vz P1 Q1 := by rw [hw4]; exact BX.make (HO2.out.trans hO3) hp hz
    have HX4 := Lib.hid hX4
    have HW4 := Lib.hid hw4
    obtain ⟨o1, y1, o2, y2, rfl, rfl⟩ := hX4.shape
    obtain ⟨RX, hRX⟩ : ∃ R, R = w3.heap.size := ⟨_, rfl⟩
    rw [← hRX] at HX4
    have HRX := Lib.hid hRX
    clear a0 a1 a2 a3 hcall hp hz hw4 hX4 hO3 hRX
    go_upto_region 5 with fail
    rw [← HW4.out, ← HRX.out]
    obtain ⟨a0, a1, a2, a3⟩ := HCE.out _ HX4.out.1
    have hcall := PN.out.2 _ _ _ (HLZ.out _ HX4.out.1).1 (HLZ.out _ HX4.out.1).2
    go_wp2_with fail
    with_reducible refine hcall.mono ?_
    rintro e w5 ⟨⟨v, rfl, ⟨vp, vz, rfl, hp, hz⟩⟩, hO5⟩
    have hX5 := HX4.out.on hO5
    obtain ⟨w6, hw6⟩ : ∃ w6, w6 = w5.alloc (.cells #[vp, vz] 41) := ⟨_, rfl⟩
    have hY6 : BX w1 w5.heap.size w6 vp vz P1 Q1 := by rw [hw6]; exact BX.make hX5.1 hp hz
    have hX6 := hX5.on (show On w5 w6 by rw [hw6]; exact (On.refl _).alloc _)
    have HNE : Hid (w5.heap.size ≠ RX) := by unfold Hid; have := hX5.2.1; omega
    have HX6 := Lib.hid hX6; have HY6 := Lib.hid hY6
    have HW6 := Lib.hid hw6
    obtain ⟨o3, y3, o4, y4, rfl, rfl⟩ := hY6.shape
    obtain ⟨RY, hRY⟩ : ∃ R, R = w5.heap.size := ⟨_, rfl⟩
    rw [← hRY] at HY6 HNE
    have HRY := Lib.hid hRY
    clear a0 a1 a2 a3 hcall hp hz hw6 hX5 hX6 hY6 hO5 hRY
    go_upto_region 6 with fail
    rw [← HW6.out, ← HRY.out]
    obtain ⟨z1, z2⟩ := HX6.out.cells
    obtain ⟨z3, z4⟩ := HY6.out.cells
    go_wp2_with fail
    with_reducible refine (rfsame _ _ P1 Q1 _ HX6.out.fv HY6.out.fv).mono ?_
    rintro e w7 ⟨rfl, hO6⟩
    have HX7 := Lib.hid (HX6.out.on hO6); have HY7 := Lib.hid (HY6.out.on hO6)
    clear z1 z2 z3 z4 hO6
    go_upto_region 8 with fail
    obtain ⟨a0, a1, a2, a3⟩ := HCE.out _ HX7.out.1
    obtain ⟨gx, gy⟩ := HGZ.out _ HX7.out.1
    have hcall := PA.out.1 _ _ _ gx gy
    clear gx gy
    go_wp2_with fail
    with_reducible refine hcall.mono ?_
    rintro e w8 ⟨⟨v, rfl, ⟨vp, vz, rfl, hp, hz⟩⟩, hO⟩
    have hX := HX7.out.on hO; have hY := HY7.out.on hO
    have hYn := hX.other hY HNE.out.symm hp hz
    have hXn := hX.store hp hz
    obtain ⟨f1, f2, f3, f4, f5, f6⟩ := hX.facts vp vz
    obtain ⟨o5, y5, o6, y6, rfl, rfl⟩ := hXn.shape
    have HX9 := Lib.hid hXn; have HY9 := Lib.hid hYn
    clear a0 a1 a2 a3 hcall hO hX hY hXn hYn hp hz f5 f6
    go_upto_region 9 with fail
    generalize (w8.setCell ⟨RX, 0, none⟩ (.slice o5 (nl P2) y5)).setCell ⟨RX, 1, none⟩ (.slice o6 (nl Q2) y6) = w9 at *
    clear f1 f2 f3 f4
    obtain ⟨a0, a1, a2, a3⟩ := HCE.out _ HX9.out.1
    obtain ⟨gx, gy⟩ := HGZ.out _ HX9.out.1
    have hcall := PA.out.2 _ _ _ gx gy
    clear gx gy
    go_wp2_with fail
    with_reducible refine hcall.mono ?_
    rintro e w10 ⟨⟨v, rfl, ⟨vp, vz, rfl, hp, hz⟩⟩, hO⟩
    have hX := HX9.out.on hO; have hY := HY9.out.on hO
    have hXn := hY.other hX HNE.out hp hz
    have hYn := hY.store hp hz
    obtain ⟨f1, f2, f3, f4, f5, f6⟩ := hY.facts vp vz
    obtain ⟨o5, y5, o6, y6, rfl, rfl⟩ := hYn.shape
    have HX11 := Lib.hid hXn; have HY11 := Lib.hid hYn
    clear a0 a1 a2 a3 hcall hO hX hY hXn hYn hp hz f5 f6
    go_upto_region 10 with fail
    generalize (w10.setCell ⟨RY, 0, none⟩ (.slice o5 (nl P2) y5)).setCell ⟨RY, 1, none⟩ (.slice o6 (nl Q2) y6) = w11 at *
    clear f1 f2 f3 f4
    obtain ⟨z1, z2⟩ := HX11.out.cells
    obtain ⟨z3, z4⟩ := HY11.out.cells
    go_wp2_with fail
    with_reducible refine (rfsame _ _ P2 Q2 _ HX11.out.fv HY11.out.fv).mono ?_
    rintro e w12 ⟨rfl, hO6⟩
    have HX12 := Lib.hid (HX11.out.on hO6); have HY12 := Lib.hid (HY11.out.on hO6)
    clear z1 z2 z3 z4 hO6
    go_upto_region 12 with fail
    obtain ⟨a0, a1, a2, a3⟩ := HCE.out _ HX12.out.1
    obtain ⟨gx, gy⟩ := HGZ.out _ HX12.out.1
    have hcall := PM.out.1 _ _ _ gx gy
    clear gx gy
    go_wp2_with fail
    with_reducible refine hcall.mono ?_
    rintro e w13 ⟨⟨v, rfl, ⟨vp, vz, rfl, hp, hz⟩⟩, hO⟩
    have hX := HX12.out.on hO; have hY := HY12.out.on hO
    have hYn := hX.other hY HNE.out.symm hp hz
    have hXn := hX.store hp hz
    obtain ⟨f1, f2, f3, f4, f5, f6⟩ := hX.facts vp vz
    obtain ⟨o5, y5, o6, y6, rfl, rfl⟩ := hXn.shape
    have HX14 := Lib.hid hXn; have HY14 := Lib.hid hYn
    clear a0 a1 a2 a3 hcall hO hX hY hXn hYn hp hz f5 f6
    go_upto_region 13 with fail
    generalize (w13.setCell ⟨RX, 0, none⟩ (.slice o5 (nl P3) y5)).setCell ⟨RX, 1, none⟩ (.slice o6 (nl Q3) y6) = w14 at *
    clear f1 f2 f3 f4
    obtain ⟨a0, a1, a2, a3⟩ := HCE.out _ HX14.out.1
    obtain ⟨gx, gy⟩ := HGZ.out _ HX14.out.1
    have hcall := PM.out.2 _ _ _ gx gy
    clear gx gy
    go_wp2_with fail
    with_reducible refine hcall.mono ?_
    rintro e w15 ⟨⟨v, rfl, ⟨vp, vz, rfl, hp, hz⟩⟩, hO⟩
    have hX := HX14.out.on hO; have hY := HY14.out.on hO
    have hXn := hY.other hX HNE.out hp hz
    have hYn := hY.store hp hz
    obtain ⟨f1, f2, f3, f4, f5, f6⟩ := hY.facts vp vz
    obtain ⟨o5, y5, o6, y6, rfl, rfl⟩ := hYn.shape
    have HX16 := Lib.hid hXn; have HY16 := Lib.hid hYn
    clear a0 a1 a2 a3 hcall hO hX hY hXn hYn hp hz f5 f6
    go_upto_region 14 with fail
    generalize (w15.setCell ⟨RY, 0, none⟩ (.slice o5 (nl P3) y5)).setCell ⟨RY, 1, none⟩ (.slice o6 (nl Q3) y6) = w16 at *
    clear f1 f2 f3 f4
    obtain ⟨z1, z2⟩ := HX16.out.cells
    obtain ⟨z3, z4⟩ := HY16.out.cells
    go_wp2_with fail
    with_reducible refine (rfsame _ _ P3 Q3 _ HX16.out.fv HY16.out.fv).mono ?_
    rintro e w17 ⟨rfl, hO6⟩
    have HX17 := Lib.hid (HX16.out.on hO6); have HY17 := Lib.hid (HY16.out.on hO6)
    clear z1 z2 z3 z4 hO6
    go_upto_region 16 with fail
    obtain ⟨a0, a1, a2, a3⟩ := HCE.out _ HX17.out.1
    obtain ⟨gx, gy⟩ := HGZ.out _ HX17.out.1
    have hcall := PP.out.1 _ _ gx
    clear gx gy
    go_wp2_with fail
    with_reducible refine hcall.mono ?_
    rintro e w18 ⟨⟨v, rfl, ⟨vp, vz, rfl, hp, hz⟩⟩, hO⟩
    have hX := HX17.out.on hO; have hY := HY17.out.on hO
    have hYn := hX.other hY HNE.out.symm hp hz
    have hXn := hX.store hp hz
    obtain ⟨f1, f2, f3, f4, f5, f6⟩ := hX.facts vp vz
    obtain ⟨o5, y5, o6, y6, rfl, rfl⟩ := hXn.shape
    have HX19 := Lib.hid hXn; have HY19 := Lib.hid hYn
    clear a0 a1 a2 a3 hcall hO hX hY hXn hYn hp hz f5 f6
    go_upto_region 17 with fail
    generalize (w18.setCell ⟨RX, 0, none⟩ (.slice o5 (nl P4) y5)).setCell ⟨RX, 1, none⟩ (.slice o6 (nl Q4) y6) = w19 at *
    clear f1 f2 f3 f4
    obtain ⟨a0, a1, a2, a3⟩ := HCE.out _ HX19.out.1
    obtain ⟨gx, gy⟩ := HGZ.out _ HX19.out.1
    have hcall := PP.out.2 _ _ gx
    clear gx gy
    go_wp2_with fail
    with_reducible refine hcall.mono ?_
    rintro e w20 ⟨⟨v, rfl, ⟨vp, vz, rfl, hp, hz⟩⟩, hO⟩
    have hX := HX19.out.on hO; have hY := HY19.out.on hO
    have hXn := hY.other hX HNE.out hp hz
    have hYn := hY.store hp hz
    obtain ⟨f1, f2, f3, f4, f5, f6⟩ := hY.facts vp vz
    obtain ⟨o5, y5, o6, y6, rfl, rfl⟩ := hYn.shape
    have HX21 := Lib.hid hXn; have HY21 := Lib.hid hYn
    clear a0 a1 a2 a3 hcall hO hX hY hXn hYn hp hz f5 f6
    go_upto_region 18 with fail
    generalize (w20.setCell ⟨RY, 0, none⟩ (.slice o5 (nl P4) y5)).setCell ⟨RY, 1, none⟩ (.slice o6 (nl Q4) y6) = w21 at *
    clear f1 f2 f3 f4
    obtain ⟨z1, z2⟩ := HX21.out.cells
    obtain ⟨z3, z4⟩ := HY21.out.cells
    go_wp2_with fail
    with_reducible refine (rfsame _ _ P4 Q4 _ HX21.out.fv HY21.out.fv).mono ?_
    rintro e w22 ⟨rfl, hO6⟩
    have HX22 := Lib.hid (HX21.out.on hO6); have HY22 := Lib.hid (HY21.out.on hO6)
    clear z1 z2 z3 z4 hO6
    have HOZ : Hid (On w w22) := HO1.out.trans HX22.out.1
    go_wp2_with fail
    with_reducible refine (works_any w22).mono ?_
    rintro e wz ⟨rfl, hO17⟩
    have HO17 := Lib.hid (HOZ.out.trans hO17)
    clear hO17
    go_wp2
    go_ret
    exact ⟨rfl, HO17.out⟩
end Go.Proofs.Ytdgmlmcllkgemaa
