/- The law's own call sized: the field, the size, a shift that is not 0, and as many numbers as the size. -/
import Derived.Test.YtiipgbobgeejmaaDoorKb07
namespace Go.Proofs.YtiipgbobgeejmaaDoor
open Go.RowKit
set_option linter.unusedVariables false

/-- The greatest size that sized takes. -/
def limF (X : Int) : Nat := if X = 0 then 5 else if X = 1 then 8 else 9
theorem limF_gr (X : Int) (h : validB X = true) : limF X ≤ grF X ∧ limF X ≤ 9 := by
  rcases field_cases X h with rfl | rfl | rfl | rfl <;> decide
/-- The shift that counts. -/
def shF (X : Int) (s : Nat) : Nat := if redF X s = 0 then 1 else s
theorem shF_bd (X : Int) (s : Nat) (h : s ≤ 18446744073709551615) : shF X s ≤ 18446744073709551615 := by unfold shF; split <;> omega
theorem shF_ok (X : Int) (s : Nat) (h : validB X = true) : shB X (shF X s) = true := by
  have hp := (valid_iff X).1 h
  have h97 := big X h
  unfold shB shF
  rw [h, Bool.true_and]
  split
  · rw [redF_pos _ _ hp, Nat.mod_eq_of_lt (by omega)]; rfl
  · rename_i h0; exact decide_eq_true h0
theorem shB_ne {X : Int} {s : Nat} (h : shB X s = true) : s % pOf X ≠ 0 := by
  unfold shB at h
  simp only [Bool.and_eq_true, decide_eq_true_eq] at h
  have hp := (valid_iff X).1 h.1
  rw [redF_pos _ _ hp] at h
  exact h.2
end Go.Proofs.YtiipgbobgeejmaaDoor
