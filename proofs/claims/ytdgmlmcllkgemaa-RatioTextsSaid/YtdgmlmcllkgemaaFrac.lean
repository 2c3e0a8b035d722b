/- Fractions: what their calls return. -/
import Derived.Test.YtdgmlmcllkgemaaPub
namespace Go.Proofs.Ytdgmlmcllkgemaa
open Go.RowKit
set_option linter.unusedVariables false

/-- The value v is the pair of the numbers p and q. -/
def Fv (w : World) (v : Value) (p q : Nat) : Prop := ∃ vp vq, v = .agg #[vp, vq] ∧ Nv w vp p ∧ Nv w vq q
theorem Fv.on {w w' : World} {v : Value} {p q : Nat} (h : Fv w v p q) (k : On w w') : Fv w' v p q := by
  obtain ⟨vp, vq, h1, h2, h3⟩ := h
  exact ⟨vp, vq, h1, h2.on k, h3.on k⟩
theorem Fv.zero (w : World) : Fv w (.agg #[.slice none 0 0, .slice none 0 0]) 0 0 := ⟨_, _, rfl, Nv.nil w, Nv.nil w⟩
def fitB (x y : Nat) : Bool := decide (nl x ≤ 64 ∧ nl y ≤ 64)
theorem fraction_yes (va vb : Value) (x y : Nat) (w : World) (ha : Nv w va x) (hb : Nv w vb y) (hf : fitB x y = true) :
    Calls Try.prog 77 #[va, vb] w fun e w' => ∃ v, e = .returned (.tuple #[v, .int .i64 0]) ∧ Fv w' v x y ∧ On w w' := by
  unfold fitB at hf
  simp only [decide_eq_true_eq] at hf
  obtain ⟨hx, hy⟩ := hf
  have HA := Lib.hid ha
  have HB := Lib.hid hb
  obtain ⟨oa, ca, rfl, -, -, -⟩ := ha
  obtain ⟨ob, cb, rfl, -, -, -⟩ := hb
  have d1 : decide (64 < ((nl x : Nat) : Int)) = false := by simp; omega
  have d2 : decide (64 < ((nl y : Nat) : Int)) = false := by simp; omega
  rcases Nat.lt_or_ge (nl x) (nl y) with h | h
  all_goals
    go_enter Try.func77, Try.ntmps77
    go_wp2
    first | go_ret | go_returns | go_ret2
    exact ⟨_, rfl, ⟨_, _, rfl, HA.out.on ((On.refl w).alloc _), HB.out.on ((On.refl w).alloc _)⟩, (On.refl w).alloc _⟩
theorem fraction_no (va vb : Value) (x y : Nat) (w : World) (ha : Nv w va x) (hb : Nv w vb y) (hf : fitB x y = false) :
    Calls Try.prog 77 #[va, vb] w fun e w' => ∃ v, e = .returned (.tuple #[v, .int .i64 3]) ∧ Fv w' v 0 0 ∧ On w w' := by
  unfold fitB at hf
  simp only [decide_eq_false_iff_not] at hf
  obtain ⟨oa, ca, rfl, -, -, -⟩ := ha
  obtain ⟨ob, cb, rfl, -, -, -⟩ := hb
  have hm : (64 : Int) < max ((nl x : Nat) : Int) ((nl y : Nat) : Int) := by omega
  clear hf
  go_enter Try.func77, Try.ntmps77
  go_wp2
  first | go_ret | go_returns | go_ret2
  exact ⟨_, rfl, Fv.zero _, (On.refl w).alloc _⟩
/-- The error's number, and the fraction that is returned. -/
def fitC (x y : Nat) : Int := if fitB x y = true then 0 else 3
def fitP (x y : Nat) : Nat := if fitB x y = true then x else 0
def fitQ (x y : Nat) : Nat := if fitB x y = true then y else 0
theorem fraction_any (va vb : Value) (x y : Nat) (w : World) (ha : Nv w va x) (hb : Nv w vb y) :
    Calls Try.prog 77 #[va, vb] w fun e w' => ∃ v, e = .returned (.tuple #[v, .int .i64 (fitC x y)]) ∧ Fv w' v (fitP x y) (fitQ x y) ∧ On w w' := by
  unfold fitC fitP fitQ
  cases h : fitB x y
  · exact fraction_no va vb x y w ha hb h
  · exact fraction_yes va vb x y w ha hb h

/-- Block R holds no limb: the cells of a result. -/
def NoLimb (w : World) (R : Nat) : Prop := ∀ k x, w.cell? ⟨R, k, none⟩ ≠ some (.int .u32 x)
theorem NoLimb.on {w w' : World} {R : Nat} (h : NoLimb w R) (k : On w w') (hR : R < w.heap.size) : NoLimb w' R := fun i x => by rw [Below.cell k (p := ⟨R, i, none⟩) hR]; exact h i x
theorem NoLimb.made (w : World) (c : Array Value) (t : TypeId) (hc : ∀ (k : Nat) (x : Int), c[k]? ≠ some (.int .u32 x)) : NoLimb (w.alloc (.cells c t)) w.heap.size := fun k x => by rw [World.cell?_alloc_new]; exact hc k x
theorem NoLimb.set {w : World} {R : Nat} (h : NoLimb w R) (i : Nat) (u : Value) (hu : ∀ x, u ≠ .int .u32 x) : NoLimb (w.setCell ⟨R, i, none⟩ u) R := fun k x he => by
  by_cases hk : k = i
  · subst hk
    cases hc : w.cell? ⟨R, k, none⟩ with
    | none =>
      have : (w.setCell ⟨R, k, none⟩ u).cell? ⟨R, k, none⟩ = none := by
        unfold World.cell? World.setCell at *
        simp only [Array.getElem?_modify] at *
        cases hb : w.heap[R]? with
        | none => simp [hb]
        | some ob => cases ob <;> simp_all
      rw [this] at he; cases he
    | some v => rw [World.cell?_setCell_same (h := hc) ..] at he; exact hu x (Option.some.inj he)
  · rw [World.cell?_setCell_other (h := fun e => by simp at e; first | done | omega) ..] at he; exact h k x he
theorem Nv.set {w : World} {v : Value} {n R : Nat} (h : Nv w v n) (hR : NoLimb w R) (i : Nat) (u : Value) : Nv (w.setCell ⟨R, i, none⟩ u) v n := by
  obtain ⟨oa, cap, h1, h2, h3, h4⟩ := h
  refine ⟨oa, cap, h1, h2, h3, fun k hk => ?_⟩
  obtain ⟨b, off, rfl, hc⟩ := h4 k hk
  refine ⟨b, off, rfl, ?_⟩
  rw [World.cell?_setCell_other (h := fun e => by simp at e; rw [← e.1] at hc; exact hR _ _ hc) ..]; exact hc

/-- The two cells of a result that is a fraction, at the end of a call. -/
theorem res_facts {w w5 : World} (hO : On (w.alloc (.cells #[.slice none 0 0, .slice none 0 0] 41)) w5) (u v : Value) :
    w5.cell? ⟨w.heap.size, 0, none⟩ = some (.slice none 0 0) ∧ w5.frozen? ⟨w.heap.size, 0, none⟩ = false ∧ (w5.setCell ⟨w.heap.size, 0, none⟩ u).cell? ⟨w.heap.size, 1, none⟩ = some (.slice none 0 0) ∧ w5.frozen? ⟨w.heap.size, 1, none⟩ = false ∧
    ((w5.setCell ⟨w.heap.size, 0, none⟩ u).setCell ⟨w.heap.size, 1, none⟩ v).cell? ⟨w.heap.size, 0, none⟩ = some u ∧ ((w5.setCell ⟨w.heap.size, 0, none⟩ u).setCell ⟨w.heap.size, 1, none⟩ v).cell? ⟨w.heap.size, 1, none⟩ = some v ∧ (w5.setCell ⟨w.heap.size, 0, none⟩ u).cell? ⟨w.heap.size, 0, none⟩ = some u := by
  have hlt : w.heap.size < (w.alloc (.cells #[.slice none 0 0, .slice none 0 0] 41)).heap.size := by simp
  have c0 : w5.cell? ⟨w.heap.size, 0, none⟩ = some (.slice none 0 0) := by rw [Below.cell hO (p := ⟨w.heap.size, 0, none⟩) hlt, World.cell?_alloc_new]; rfl
  have c1 : w5.cell? ⟨w.heap.size, 1, none⟩ = some (.slice none 0 0) := by rw [Below.cell hO (p := ⟨w.heap.size, 1, none⟩) hlt, World.cell?_alloc_new]; rfl
  have f0 : w5.frozen? ⟨w.heap.size, 0, none⟩ = false := by rw [Below.frozen hO (p := ⟨w.heap.size, 0, none⟩) hlt]; exact World.frozen?_alloc_new ..
  have f1 : w5.frozen? ⟨w.heap.size, 1, none⟩ = false := by rw [Below.frozen hO (p := ⟨w.heap.size, 1, none⟩) hlt]; exact World.frozen?_alloc_new ..
  have d1 : (w5.setCell ⟨w.heap.size, 0, none⟩ u).cell? ⟨w.heap.size, 1, none⟩ = some (.slice none 0 0) := by rw [World.cell?_setCell_other (h := fun e => by simp at e) ..]; exact c1
  refine ⟨c0, f0, d1, f1, ?_, World.cell?_setCell_same (h := d1) .., World.cell?_setCell_same (h := c0) ..⟩
  rw [World.cell?_setCell_other (h := fun e => by simp at e) ..]
  exact World.cell?_setCell_same (h := c0) ..
theorem noLimb_res (w : World) : NoLimb (w.alloc (.cells #[.slice none 0 0, .slice none 0 0] 41)) w.heap.size := NoLimb.made w _ _ (fun k x => by
  match k with
  | 0 => simp
  | 1 => simp
  | k + 2 => simp)
/-- What stands at the end: the two numbers, in the result's cells. -/
theorem res_end {w w5 : World} (hO : On (w.alloc (.cells #[.slice none 0 0, .slice none 0 0] 41)) w5) {vp vq : Value} {p q : Nat} (hp : Nv w5 vp p) (hq : Nv w5 vq q) :
    Fv ((w5.setCell ⟨w.heap.size, 0, none⟩ vp).setCell ⟨w.heap.size, 1, none⟩ vq) (.agg #[vp, vq]) p q ∧ On w ((w5.setCell ⟨w.heap.size, 0, none⟩ vp).setCell ⟨w.heap.size, 1, none⟩ vq) := by
  have hlt : w.heap.size < (w.alloc (.cells #[.slice none 0 0, .slice none 0 0] 41)).heap.size := by simp
  have hN := (noLimb_res w).on hO hlt
  have hN1 : NoLimb (w5.setCell ⟨w.heap.size, 0, none⟩ vp) w.heap.size := hN.set 0 vp (fun x e => by
    obtain ⟨oa, c, h, _⟩ := hp
    rw [h] at e; cases e)
  refine ⟨⟨_, _, rfl, (hp.set hN 0 _).set hN1 1 _, (hq.set hN 0 _).set hN1 1 _⟩, ?_⟩
  exact ((((On.refl w).alloc _).trans hO).setCell (Nat.le_refl _) _).setCell (Nat.le_refl _) _
theorem lowest_any (va vb : Value) (x y : Nat) (w : World) (ha : Nv w va x) (hb : Nv w vb y) (hx : nl x ≤ 1000000) (hy : nl y ≤ 1000000) (hy0 : 0 < y) :
    Calls Try.prog 75 #[va, vb] w fun e w' => ∃ v, e = .returned (.tuple #[v, .int .i64 (fitC (x / Nat.gcd x y) (y / Nat.gcd x y))]) ∧ Fv w' v (fitP (x / Nat.gcd x y) (y / Nat.gcd x y)) (fitQ (x / Nat.gcd x y) (y / Nat.gcd x y)) ∧ On w w' := by
  have hg0 : 0 < Nat.gcd x y := Nat.gcd_pos_of_pos_right _ hy0
  have hO0 : On w (w.alloc (.cells #[.slice none 0 0, .slice none 0 0] 41)) := (On.refl w).alloc _
  have HA := Lib.hid (ha.on hO0); have HB := Lib.hid (hb.on hO0)
  have HO0 := Lib.hid hO0
  clear ha hb hO0
  go_enter Try.func75, Try.ntmps75
  go_wp2_with (first
    | (go_at_call 68; refine (gcd_any _ _ x y _ HA.out HB.out hx hy).mono ?_; rintro e w2 ⟨vg, rfl, hg, hOn⟩; have HG := Lib.hid hg; have HO := Lib.hid hOn; clear hg hOn)
    | (go_at_call 56; ((with_reducible refine (divide_any va vg x (Nat.gcd x y) w2 (HA.out.on HO.out) HG.out hg0 hx).mono ?_)); rintro e w3 ⟨vq, vr, rfl, hq, -, hOn⟩; have HQ := Lib.hid hq; have HO3 := Lib.hid hOn; clear hq hOn)
    | (go_at_call 56; ((with_reducible refine (divide_any vb vg y (Nat.gcd x y) w3 ((HB.out.on HO.out).on HO3.out) (HG.out.on HO3.out) hg0 hy).mono ?_)); rintro e w4 ⟨vs, vt, rfl, hq, -, hOn⟩; have HS := Lib.hid hq; have HO4 := Lib.hid hOn; clear hq hOn)
    | (go_at_call 77; refine (fraction_any vq vs (x / Nat.gcd x y) (y / Nat.gcd x y) w4 (HQ.out.on HO4.out) HS.out).mono ?_; rintro e w5 ⟨v, rfl, ⟨vp, vz, rfl, hp, hz⟩, hOn⟩; have HP := Lib.hid hp; have HZ := Lib.hid hz; have HO5 := Lib.hid (((HO.out.trans HO3.out).trans HO4.out).trans hOn); obtain ⟨op, cp, rfl, -, -, -⟩ := hp; obtain ⟨oz, cz, rfl, -, -, -⟩ := hz; clear hOn; obtain ⟨k1, k2, k3, k4, k5, k6, k7⟩ := res_facts HO5.out (.slice op (nl (fitP (x / Nat.gcd x y) (y / Nat.gcd x y))) cp) (.slice oz (nl (fitQ (x / Nat.gcd x y) (y / Nat.gcd x y))) cz)))
  (try simp only [Exit.inBlock, Exit.then])
  refine bodyPost_ret (by simp [results, Try.results75, go_sem, k6, k7]; try rfl) rfl ?_
  exact ⟨_, rfl, (res_end HO5.out HP.out HZ.out).1, (res_end HO5.out HP.out HZ.out).2⟩
end Go.Proofs.Ytdgmlmcllkgemaa
