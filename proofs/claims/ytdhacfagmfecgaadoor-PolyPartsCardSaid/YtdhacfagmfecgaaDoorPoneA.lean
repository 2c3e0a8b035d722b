/- What the law PolyOne keeps while it gathers numbers. -/
import Derived.Test.YtdhacfagmfecgaaDoorPoneM
namespace Go.Proofs.YtdhacfagmfecgaaDoor
open Go.RowKit
set_option linter.unusedVariables false

def Apart (v u : Value) : Prop := ∀ g, v.ownBlock = some g → u.ownBlock ≠ some g
theorem Apart.symm {v u : Value} (h : Apart v u) : Apart u v := fun g hu hv => h g hv hu
theorem Ow.kept' {B : Nat} {w w' : World} {v u : Value} {l : List Nat} (h : Ow B w v l) (hg : w.grownBy w' u.ownBlock) (hne : Apart v u) : Ow B w' v l := by
  refine h.kept hg ?_
  cases e : v.ownBlock with
  | none => exact .inl rfl
  | some g => exact .inr fun e2 => hne g e e2.symm
theorem Apart.grown {B : Nat} {w : World} {v u u' : Value} {l : List Nat} (h : Apart v u) (ho : Ow B w v l) (hu : u'.ownBlock = u.ownBlock ∨ ∃ g, u'.ownBlock = some g ∧ w.heap.size ≤ g) : Apart v u' := fun g hv e => by
  rcases hu with hu | ⟨g', hu, hg⟩
  · exact h g hv (hu ▸ e)
  · rw [hu] at e
    simp at e; subst e
    have := (World.ownsRow.lt ho _ hv).2; omega
def One (f : Int) (B : Nat) (W w : World) (n : Nat) (vx vy : Value) (X Y : List Nat) : Prop :=
  On W w ∧ W.heap.size ≤ B ∧ B ≤ w.heap.size ∧ Ow B w vx X ∧ Ow B w vy Y ∧ Apart vx vy ∧ X.length = n ∧ Y.length = n ∧ n ≤ 24 ∧ (∀ x ∈ X, x ≤ 18446744073709551615) ∧ (∀ x ∈ Y, x ≤ 18446744073709551615) ∧ Diff f X
theorem One.start {f : Int} {W : World} (h : Tab W) : One f W.heap.size W W 0 (.slice none 0 0) (.slice none 0 0) [] [] :=
  ⟨On.refl h, Nat.le_refl _, Nat.le_refl _, Ow.nil _ _, Ow.nil _ _, fun g h => by simp [Value.ownBlock] at h, rfl, rfl, by omega, by simp, by simp, List.Pairwise.nil⟩
theorem One.drewN {f : Int} {B : Nat} {W w : World} {n : Nat} {vx vy : Value} {X Y : List Nat} (h : One f B W w n vx vy X Y) (k : Nat) : One f B W (w.drewN k) n vx vy X Y :=
  ⟨h.1.drewN k, h.2.1, h.2.2.1, h.2.2.2.1, h.2.2.2.2⟩
/-- Both lists take one more. -/
theorem One.more {f : Int} {B : Nat} {W w w1 w2 : World} {n x y : Nat} {vx vy vx' vy' : Value} {X Y : List Nat} (h : One f B W w n vx vy X Y) (hn : n < 24) (hx : x ≤ 18446744073709551615) (hy : y ≤ 18446744073709551615) (ha : amongB X (pOf f) (x % pOf f) n = false)
    (o1 : Ow B w1 vx' (X ++ [x])) (g1 : w.grownBy w1 vx.ownBlock) (b1 : vx'.ownBlock = vx.ownBlock ∨ ∃ g, vx'.ownBlock = some g ∧ w.heap.size ≤ g)
    (o2 : Ow B w2 vy' (Y ++ [y])) (g2 : w1.grownBy w2 vy.ownBlock) (b2 : vy'.ownBlock = vy.ownBlock ∨ ∃ g, vy'.ownBlock = some g ∧ w1.heap.size ≤ g) : One f B W w2 (n + 1) vx' vy' (X ++ [x]) (Y ++ [y]) := by
  obtain ⟨h1, h2, h3, h4, h5, h6, h7, h8, h9, h10, h11, h12⟩ := h
  have hO1 := h1.grown h2 h4 g1
  have hy1 := h5.kept' g1 h6.symm
  have hap1 : Apart vy vx' := h6.symm.grown h5 b1
  have hO2 := hO1.grown h2 hy1 g2
  have hap2 : Apart vx' vy' := hap1.symm.grown o1 b2
  have hs1 := g1.size; have hs2 := g2.size
  refine ⟨hO2, h2, by omega, o1.kept' g2 hap1.symm, o2, hap2, by simp [h7], by simp [h8], by omega, ?_, ?_, ?_⟩
  · intro z hz; rcases List.mem_append.1 hz with hz | hz
    · exact h10 z hz
    · simp at hz; subst hz; exact hx
  · intro z hz; rcases List.mem_append.1 hz with hz | hz
    · exact h11 z hz
    · simp at hz; subst hz; exact hy
  · exact h12.snoc (by rw [h7]; exact ha)
theorem One.appX {f : Int} {B : Nat} {W w : World} {n : Nat} {vx vy : Value} {X Y : List Nat} (h : One f B W w n vx vy X Y) (x : Nat) (C : Nat) (hC : C = w.heap.size) :
    ∃ a c w', (∀ ty, (Builtin.append_ #[22, 22] ty #[vx, .slice (some ⟨C, 0, none⟩) 1 1]).run Tryd.prog (w.alloc (.cells #[.int .u64 (x : Int)] 23)) = .ok (.slice a (n + 1) c) w') ∧
      Ow B w' (.slice a (n + 1) c) (X ++ [x]) ∧ w.grownBy w' vx.ownBlock ∧ ((Value.slice a (n + 1) c).ownBlock = vx.ownBlock ∨ ∃ g, (Value.slice a (n + 1) c).ownBlock = some g ∧ w.heap.size ≤ g) := by
  obtain ⟨h1, h2, h3, h4, h5, h6, h7, h8, h9, h10, h11, h12⟩ := h
  obtain ⟨v', w', a1, a2, a3, a4⟩ := append_own B x _ rfl X vx w C hC h4 h3 (by omega)
  obtain ⟨a, c, rfl⟩ := a2.shape
  have e : (X ++ [x]).length = n + 1 := by simp [h7]
  rw [e] at a1 a2 a4
  exact ⟨a, c, w', a1, a2, a3, a4⟩
theorem One.appY {f : Int} {B : Nat} {W w w1 : World} {n : Nat} {vx vy : Value} {X Y : List Nat} (h : One f B W w n vx vy X Y) (g1 : w.grownBy w1 vx.ownBlock) (y : Nat) (C : Nat) (hC : C = w1.heap.size) :
    ∃ a c w', (∀ ty, (Builtin.append_ #[22, 22] ty #[vy, .slice (some ⟨C, 0, none⟩) 1 1]).run Tryd.prog (w1.alloc (.cells #[.int .u64 (y : Int)] 23)) = .ok (.slice a (n + 1) c) w') ∧
      Ow B w' (.slice a (n + 1) c) (Y ++ [y]) ∧ w1.grownBy w' vy.ownBlock ∧ ((Value.slice a (n + 1) c).ownBlock = vy.ownBlock ∨ ∃ g, (Value.slice a (n + 1) c).ownBlock = some g ∧ w1.heap.size ≤ g) := by
  obtain ⟨h1, h2, h3, h4, h5, h6, h7, h8, h9, h10, h11, h12⟩ := h
  have hs1 := g1.size
  obtain ⟨v', w', a1, a2, a3, a4⟩ := append_own B y _ rfl Y vy w1 C hC (h5.kept' g1 h6.symm) (by omega) (by omega)
  obtain ⟨a, c, rfl⟩ := a2.shape
  have e : (Y ++ [y]).length = n + 1 := by simp [h8]
  rw [e] at a1 a2 a4
  exact ⟨a, c, w', a1, a2, a3, a4⟩
theorem w_through2 (f : Int) (xs ys : List Nat) (v v' : Value) (w : World) (hT : Tab w) (hv : validB f = true) (hR : Reads w v xs) (hR' : Reads w v' ys) (hl : ys.length = xs.length) (hL : xs.length ≤ 1024) (hx : ∀ x ∈ xs, x ≤ 18446744073709551615) (hy : ∀ x ∈ ys, x ≤ 18446744073709551615) :
    Calls Tryd.prog 50 #[.int .i64 f, v, v'] w fun e w' =>
      ((okN f (ptsL xs ys hx hy) ∧ ∃ a, e = .returned (.tuple #[.slice a (thruL f (ptsL xs ys hx hy)).length (thruL f (ptsL xs ys hx hy)).length, .int .i64 0]) ∧ Reads w' (.slice a (thruL f (ptsL xs ys hx hy)).length (thruL f (ptsL xs ys hx hy)).length) (thruL f (ptsL xs ys hx hy))) ∨
        (¬ okN f (ptsL xs ys hx hy) ∧ e = .returned (.tuple #[.slice none 0 0, .int .i64 6]))) ∧ On w w' := w_through f xs ys v v' w hT hv hR hR' hl hL hx hy
end Go.Proofs.YtdhacfagmfecgaaDoor
