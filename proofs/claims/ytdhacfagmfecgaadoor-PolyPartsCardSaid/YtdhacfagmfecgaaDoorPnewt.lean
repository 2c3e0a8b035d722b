/- Plain numbers: the polynomial through points, a point more with each step. -/
import Derived.Test.YtdhacfagmfecgaaDoorPwalkH
namespace Go.Proofs.YtdhacfagmfecgaaDoor

/-- A point: two numbers of 64 bits. -/
abbrev Pt := { p : Nat × Nat // p.1 ≤ 18446744073709551615 ∧ p.2 ≤ 18446744073709551615 }
/-- What a further point makes of the polynomial and of the product. -/
def stepN (f : Int) (s : List Nat × List Nat) (p : Pt) : List Nat × List Nat :=
  ((List.range (s.1.length + 1)).map fun i => addF f (s.1.getD i 0) (mulF f (divF f (subF f p.1.2 (evF f s.1 p.1.1)) (evF f s.2 p.1.1)) (s.2.getD i 0)), rootL f s.2 p.1.1)
def stN (f : Int) (ps : List Pt) : List Nat × List Nat := ps.foldl (stepN f) ([], [1])
theorem stN_snoc (f : Int) (ps : List Pt) (p : Pt) : stN f (ps ++ [p]) = stepN f (stN f ps) p := by unfold stN; rw [List.foldl_append]; rfl
theorem pt_cases (l : List Pt) : l = [] ∨ ∃ l' c, l = l' ++ [c] := by
  rcases List.eq_nil_or_concat l with h | ⟨l', c, h⟩
  · exact .inl h
  · exact .inr ⟨l', c, by rw [h, List.concat_eq_append]⟩
theorem stN_facts (f : Int) (ps : List Pt) : (stN f ps).1.length = ps.length ∧ (stN f ps).2.length = ps.length + 1 ∧ (∀ y ∈ (stN f ps).1, y ≤ 998244353) ∧ (∀ y ∈ (stN f ps).2, y ≤ 998244353) := by
  generalize hk : ps.length = k
  induction k generalizing ps with
  | zero =>
    obtain rfl := List.length_eq_zero_iff.1 hk
    exact ⟨rfl, rfl, by simp [stN], by simp [stN]⟩
  | succ k ih =>
    rcases pt_cases ps with rfl | ⟨l, c, rfl⟩
    · simp at hk
    · obtain ⟨h1, h2, h3, h4⟩ := ih l (by simp at hk; omega)
      rw [stN_snoc]
      unfold stepN
      refine ⟨by simp [h1], by rw [rootL_len, h2], fun y hy => ?_, rootL_le _ _ _⟩
      obtain ⟨i, _, rfl⟩ := List.mem_map.1 hy
      exact addF_le _ _ _
/-- No two of the points so far have the same first number. -/
def okN (f : Int) : List Pt → Prop := fun ps => ∀ pre p suf, ps = pre ++ p :: suf → evF f (stN f pre).2 p.1.1 ≠ 0
theorem okN_nil (f : Int) : okN f [] := fun pre p suf h => by simp at h
theorem okN_snoc {f : Int} {ps : List Pt} {p : Pt} (h : okN f ps) (hp : evF f (stN f ps).2 p.1.1 ≠ 0) : okN f (ps ++ [p]) := by
  intro pre q suf e
  rcases pt_cases suf with rfl | ⟨s', c, rfl⟩
  · obtain ⟨rfl, e2⟩ := List.append_inj' e rfl
    simp at e2; subst e2; exact hp
  · rw [show pre ++ q :: (s' ++ [c]) = (pre ++ q :: s') ++ [c] by simp] at e
    obtain ⟨rfl, _⟩ := List.append_inj' e rfl
    exact h pre q s' rfl
/-- The points of two lists. -/
def ptAt (X Y : Nat → Nat) (hX : ∀ j, X j ≤ 18446744073709551615) (hY : ∀ j, Y j ≤ 18446744073709551615) (j : Nat) : Pt := ⟨(X j, Y j), hX j, hY j⟩
def uptoN {α : Type} (g : Nat → α) (k : Nat) : List α := (List.range k).map g
theorem uptoN_succ {α : Type} (g : Nat → α) (k : Nat) : uptoN g (k + 1) = uptoN g k ++ [g k] := by simp [uptoN, List.range_succ]
theorem uptoN_len {α : Type} (g : Nat → α) (k : Nat) : (uptoN g k).length = k := by simp [uptoN]
theorem okN_prefix {f : Int} {a b : List Pt} (h : okN f (a ++ b)) : okN f a := fun pre p suf e => h pre p (suf ++ b) (by rw [e]; simp)
theorem uptoN_split {α : Type} (g : Nat → α) {k n : Nat} (h : k ≤ n) : ∃ b, uptoN g n = uptoN g k ++ b := by
  refine ⟨(uptoN g n).drop k, ?_⟩
  rw [show uptoN g k = (uptoN g n).take k by unfold uptoN; rw [← List.map_take, List.take_range, Nat.min_eq_left h]]
  exact (List.take_append_drop k _).symm
end Go.Proofs.YtdhacfagmfecgaaDoor
