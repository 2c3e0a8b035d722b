/- Plain facts of FoldLinear: the fold of a sum of multiples. -/
import Derived.Test.YtiibcfajcndcnaaDoorKg02
/- Plain facts of FoldLinear: the fold of a sum of multiples. -/
namespace Go.Proofs.YtiibcfajcndcnaaDoor
set_option linter.unusedVariables false
set_option linter.unusedSimpArgs false

/-- A multiple of a list and another one, place by place. -/
def linL (f : Int) (A B : List Nat) (m n : Nat) : List Nat := (List.range n).map fun i => addF f (mulF f (A.getD i 0) m) (B.getD i 0)
theorem linL_len (f : Int) (A B : List Nat) (m n : Nat) : (linL f A B m n).length = n := by simp [linL]
theorem linL_getD (f : Int) (A B : List Nat) (m n i : Nat) (h : i < n) : (linL f A B m n).getD i 0 = addF f (mulF f (A.getD i 0) m) (B.getD i 0) := by unfold linL; rw [getD_range, if_pos h]
theorem linL_le (f : Int) (A B : List Nat) (m n : Nat) : ∀ x ∈ linL f A B m n, x ≤ 18446744073709551615 := fun x hx => by
  unfold linL at hx
  obtain ⟨i, _, rfl⟩ := List.mem_map.1 hx
  have := addF_le f (mulF f (A.getD i 0) m) (B.getD i 0)
  omega
theorem linL_take (f : Int) (A B : List Nat) (m n i : Nat) (hi : i < n) : (linL f A B m n).take (i + 1) = (linL f A B m n).take i ++ [addF f (mulF f (A.getD i 0) m) (B.getD i 0)] := by
  rw [take_snoc _ i (by rw [linL_len]; exact hi), linL_getD _ _ _ _ _ _ hi]
theorem pad_le9 {l : List Nat} (h : ∀ x ∈ l, x ≤ 18446744073709551615) (n : Nat) : ∀ x ∈ pad l n, x ≤ 18446744073709551615 := fun x hx => by
  unfold pad at hx
  obtain ⟨i, _, rfl⟩ := List.mem_map.1 hx
  rcases Nat.lt_or_ge i l.length with h1 | h1
  · exact h _ (getD_mem l i h1)
  · rw [getD_over h1]; omega
theorem fold_lin {f : Int} {K s : Nat} (hv : validD f K s = true) (h3 : 3 ≤ K) (A B : List Nat) (m z : Nat) : fldL f K s (linL f A B m (2 ^ K)) z = linL f (fldL f K s A z) (fldL f K s B z) m (2 ^ K / 8) := by
  obtain ⟨hvf, -, hk2, -, -, -, -⟩ := validD_nat hv
  have hp := (valid_iff f).1 hvf
  refine list_ext (by rw [fldL_len, linL_len]) fun i hi => ?_
  rw [fldL_len] at hi
  rw [fldL_getD _ _ _ _ _ _ hi, linL_getD _ _ _ _ _ _ hi, fldL_getD _ _ _ _ _ _ hi, fldL_getD _ _ _ _ _ _ hi]
  have hxn : ptF f K s i % pOf f ≠ 0 := by
    have := point_sh hv i
    unfold shB at this
    rw [hvf, Bool.true_and, decide_eq_true_eq, redF_pos _ _ hp] at this
    exact this
  unfold fldF locF
  refine at_lin hvf _ hxn _ _ m z (pickL_len _ _ _) (pickL_len _ _ _) _ (pickL_len _ _ _) fun j hj => ?_
  have h8 := eight_of h3
  have hij : i + j * (2 ^ K / 8) < 2 ^ K := by
    have : j * (2 ^ K / 8) ≤ 7 * (2 ^ K / 8) := Nat.mul_le_mul_right _ (by omega)
    omega
  unfold pickL
  simp only [getD_range, if_pos hj]
  rw [linL_getD _ _ _ _ _ _ hij, redF_pos _ _ hp, addF_pos _ _ _ hp, Nat.mod_mod]
end Go.Proofs.YtiibcfajcndcnaaDoor
