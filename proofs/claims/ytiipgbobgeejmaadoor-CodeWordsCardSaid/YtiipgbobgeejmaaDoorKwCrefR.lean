/- The document's own answers for polynomials: Through: plain facts. -/
import Derived.Test.YtiipgbobgeejmaaDoorKwCrefQ
import Derived.Test.YtiipgbobgeejmaaDoorKb11
import Derived.Test.YtiipgbobgeejmaaDoorKb05
namespace Go.Proofs.YtiipgbobgeejmaaDoor
open Go.RowKit
set_option linter.unusedVariables false

theorem among_take (xs : List Nat) (n r i : Nat) : amongB (xs.take i) n r (xs.take i).length = amongB xs n r i := by
  unfold amongB; rw [List.take_length]
theorem Diff.next {f : Int} {xs : List Nat} {i : Nat} (hi : i < xs.length) (h : Diff f (xs.take i)) (k : amongB xs (pOf f) (xs.getD i 0 % pOf f) i = false) : Diff f (xs.take (i + 1)) := by
  rw [take_snoc xs i hi]
  exact h.snoc (by rw [among_take]; exact k)
theorem Diff.not {f : Int} {xs : List Nat} {i k : Nat} (hi : i < xs.length) (hk : k < i) (h : xs.getD i 0 % pOf f = xs.getD k 0 % pOf f) : ¬ Diff f xs := fun hd => by
  have h1 : Diff f (xs.take (i + 1)) := List.Pairwise.sublist (List.take_sublist _ _) hd
  rw [take_snoc xs i hi] at h1
  unfold Diff at h1
  rw [List.pairwise_append] at h1
  have hm : xs.getD k 0 ∈ xs.take i := by
    have := getD_mem (xs.take i) k (by rw [List.length_take]; omega)
    rwa [getD_take, if_pos hk] at this
  exact h1.2.2 _ hm _ (by simp) h.symm
/-- The first k numbers but that at place i. -/
def oth (xs : List Nat) (i k : Nat) : List Nat := ((List.range k).filter fun j => j != i).map fun j => xs.getD j 0
theorem oth_at (xs : List Nat) (i : Nat) : oth xs i (i + 1) = oth xs i i := by
  unfold oth; rw [List.range_succ, List.filter_append, List.map_append]; simp
theorem oth_off (xs : List Nat) (i k : Nat) (h : k ≠ i) : oth xs i (k + 1) = oth xs i k ++ [xs.getD k 0] := by
  unfold oth; rw [List.range_succ, List.filter_append, List.map_append]; simp [h]
theorem oth_len (xs : List Nat) (i : Nat) : ∀ k, (oth xs i k).length = if i < k then k - 1 else k := by
  intro k
  induction k with
  | zero => rfl
  | succ k ih =>
    by_cases e : k = i
    · subst e; rw [oth_at, ih, if_neg (by omega), if_pos (by omega)]; omega
    · rw [oth_off xs i k e, List.length_append, ih, List.length_singleton]; split <;> split <;> omega
theorem oth_mem (xs : List Nat) (i k y : Nat) : y ∈ oth xs i k ↔ ∃ j, j < k ∧ j ≠ i ∧ xs.getD j 0 = y := by
  unfold oth
  simp [List.mem_map, List.mem_filter, and_assoc]
theorem oth_le (xs : List Nat) (hU : ∀ x ∈ xs, x ≤ 18446744073709551615) (i k : Nat) : ∀ y ∈ oth xs i k, y ≤ 18446744073709551615 := fun y hy => by
  obtain ⟨j, _, _, rfl⟩ := (oth_mem xs i k y).1 hy
  exact bdL xs hU j
/-- What Through has summed after i points. -/
def thA (f : Int) (xs ys : List Nat) : Nat → List Nat
  | 0 => []
  | i + 1 => addL f (thA f xs ys i) (scaleF f (vanL f (oth xs i xs.length)) (divF f (ys.getD i 0) (evF f (vanL f (oth xs i xs.length)) (xs.getD i 0))))
theorem scaleF_len (f : Int) (l : List Nat) (s : Nat) : (scaleF f l s).length ≤ l.length := by
  unfold scaleF
  have := normF_len f (l.map fun x => mulF f x s)
  rwa [List.length_map] at this
theorem addL_len (f : Int) (l m : List Nat) : (addL f l m).length ≤ max l.length m.length := by
  unfold addL
  have := normF_len f ((List.range (max l.length m.length)).map fun i => addF f (l.getD i 0) (m.getD i 0))
  rwa [List.length_map, List.length_range] at this
theorem thA_len (f : Int) (xs ys : List Nat) : ∀ i, i ≤ xs.length → (thA f xs ys i).length ≤ xs.length := by
  intro i
  induction i with
  | zero => intro _; exact Nat.zero_le _
  | succ i ih =>
    intro h
    have h1 := ih (by omega)
    have h2 := scaleF_len f (vanL f (oth xs i xs.length)) (divF f (ys.getD i 0) (evF f (vanL f (oth xs i xs.length)) (xs.getD i 0)))
    rw [vanL_len, oth_len, if_pos (by omega)] at h2
    have h3 := addL_len f (thA f xs ys i) (scaleF f (vanL f (oth xs i xs.length)) (divF f (ys.getD i 0) (evF f (vanL f (oth xs i xs.length)) (xs.getD i 0))))
    unfold thA
    omega
theorem thA_val {f : Int} (hv : validB f = true) (xs ys : List Nat) (hd : Diff f xs) : ∀ i, i ≤ xs.length → ∀ j, j < xs.length → evF f (thA f xs ys i) (xs.getD j 0) = if j < i then ys.getD j 0 % pOf f else 0 := by
  have hp := (valid_iff f).1 hv
  intro i
  induction i with
  | zero =>
    intro _ j hj
    rw [if_neg (by omega)]
    unfold thA
    rw [evF_pos _ _ hp]; show 0 % _ = 0; exact Nat.zero_mod _
  | succ i ih =>
    intro hi j hj
    have hih := ih (by omega) j hj
    unfold thA
    rw [val_add hv, val_scale hv, hih]
    by_cases e : j = i
    · subst e
      rw [if_neg (Nat.lt_irrefl j), if_pos (Nat.lt_succ_self j)]
      have hne : evF f (vanL f (oth xs j xs.length)) (xs.getD j 0) ≠ 0 := fun h => by
        obtain ⟨y, hy, h2⟩ := (vanL_zero hv _ _).1 h
        obtain ⟨k, hk, hkj, rfl⟩ := (oth_mem xs j xs.length y).1 hy
        rcases Nat.lt_or_ge k j with h3 | h3
        · exact Diff.not hj h3 h2.symm hd
        · exact Diff.not hk (by omega : j < k) h2 hd
      have hmc : mulF f (evF f (vanL f (oth xs j xs.length)) (xs.getD j 0)) (divF f (ys.getD j 0) (evF f (vanL f (oth xs j xs.length)) (xs.getD j 0))) = ys.getD j 0 % pOf f := by
        have h4 := div_mul f (evF f (vanL f (oth xs j xs.length)) (xs.getD j 0)) (ys.getD j 0) hv (by rw [Nat.mod_eq_of_lt (evF_lt _ _ hp)]; exact hne)
        rw [mulF_pos _ _ _ hp] at h4 ⊢
        rw [Nat.mul_comm]; exact h4
      rw [hmc, addF_pos _ _ _ hp, Nat.zero_add, Nat.mod_mod]
    · have hz : evF f (vanL f (oth xs i xs.length)) (xs.getD j 0) = 0 := (vanL_zero hv _ _).2 ⟨xs.getD j 0, (oth_mem _ _ _ _).2 ⟨j, hj, e, rfl⟩, rfl⟩
      rw [hz, mulF_pos _ _ _ hp, Nat.zero_mul, Nat.zero_mod, addF_pos _ _ _ hp, Nat.add_zero]
      by_cases c : j < i
      · rw [if_pos c, if_pos (by omega), Nat.mod_mod]
      · rw [if_neg c, if_neg (by omega), Nat.zero_mod]
theorem thA_norm {f : Int} (hv : validB f = true) (xs ys : List Nat) (i : Nat) : normF f (thA f xs ys i) = thA f xs ys i := by
  have hp := (valid_iff f).1 hv
  cases i with
  | zero => exact normF_id hp (.inl rfl) (by simp [thA])
  | succ i => unfold thA addL; exact normF_id hp (normF_norm _ _) (normF_lt _ _ hp)
theorem thA_done {f : Int} (hv : validB f = true) (xs ys : List Nat) (hx : ∀ x ∈ xs, x ≤ 18446744073709551615) (hy : ∀ x ∈ ys, x ≤ 18446744073709551615) (hd : Diff f xs) : thA f xs ys xs.length = thruL f (ptsL xs ys hx hy) := by
  rw [← thA_norm hv]
  refine thruL_only hv (one_ok hv ys hx hy hd) _ (by rw [ptsL_len]; exact thA_len f xs ys _ (Nat.le_refl _)) fun p hpm => ?_
  obtain ⟨j, hj, rfl⟩ := (ptsL_mem _ _ hx hy p).1 hpm
  show evF f (thA f xs ys xs.length) (xs.getD j 0) = ys.getD j 0 % pOf f
  rw [thA_val hv xs ys hd _ (Nat.le_refl _) j hj, if_pos hj]
end Go.Proofs.YtiipgbobgeejmaaDoor
