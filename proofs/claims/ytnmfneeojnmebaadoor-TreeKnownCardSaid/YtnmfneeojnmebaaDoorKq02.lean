/- The calls of package field that only compute: what each returns, over the tied table of the four fields. -/
import Derived.Test.YtnmfneeojnmebaaDoorProg
import Derived.Test.YtnmfneeojnmebaaDoorKq01
import Derived.Handy
import Derived.Laws.Bits64b
import Derived.Lib.Hide
set_option linter.unusedSimpArgs false
set_option linter.unusedVariables false
/- The calls of package field that only compute: what each returns, over the tied table of the four fields. -/
namespace Go.Proofs.YtnmfneeojnmebaaDoor
open Go.RowKit
set_option linter.unusedVariables false

/-- What the tied table holds, cell by cell. -/
def Tab (w : World) : Prop :=
  (w.cell? ⟨0, 0, none⟩ = some (.int .u64 97) ∧ w.cell? ⟨0, 1, none⟩ = some (.int .u64 5) ∧ w.cell? ⟨0, 2, none⟩ = some (.int .i64 5) ∧ w.cell? ⟨0, 3, none⟩ = some (.int .u64 5)) ∧
  (w.cell? ⟨0, 4, none⟩ = some (.int .u64 257) ∧ w.cell? ⟨0, 5, none⟩ = some (.int .u64 3) ∧ w.cell? ⟨0, 6, none⟩ = some (.int .i64 8) ∧ w.cell? ⟨0, 7, none⟩ = some (.int .u64 3)) ∧
  (w.cell? ⟨0, 8, none⟩ = some (.int .u64 12289) ∧ w.cell? ⟨0, 9, none⟩ = some (.int .u64 11) ∧ w.cell? ⟨0, 10, none⟩ = some (.int .i64 12) ∧ w.cell? ⟨0, 11, none⟩ = some (.int .u64 5)) ∧
  (w.cell? ⟨0, 12, none⟩ = some (.int .u64 998244353) ∧ w.cell? ⟨0, 13, none⟩ = some (.int .u64 3) ∧ w.cell? ⟨0, 14, none⟩ = some (.int .i64 23) ∧ w.cell? ⟨0, 15, none⟩ = some (.int .u64 3))

theorem ret_int {k : IntKind} {a b : Int} (h : a = b) : Ending.returned (.int k a) = .returned (.int k b) := by rw [h]
theorem ret_nat {k : IntKind} {a b : Nat} (h : a = b) : Ending.returned (.int k (a : Int)) = .returned (.int k (b : Int)) := by rw [h]

theorem valid_any (f : Int) (w : World) : Calls Tryd.prog 38 #[.int .i64 f] w fun e w' => e = .returned (.bool (validB f)) ∧ w = w' := by
  by_cases h : 0 ≤ f ∧ f ≤ 3
  · have hv : validB f = true := by unfold validB; simp [h]
    rw [hv]
    obtain ⟨h0, h1⟩ := h
    go_enter Tryd.func38, Tryd.ntmps38
    go_wp2
    go_ret
    exact ⟨by simp; omega, rfl⟩
  · have hv : validB f = false := by unfold validB; simp; omega
    rw [hv]
    have h2 : ¬ (0 ≤ f) ∨ (0 ≤ f ∧ ¬ f < 4) := by omega
    rcases h2 with h2 | ⟨h2, h3⟩
    all_goals
      go_enter Tryd.func38, Tryd.ntmps38
      go_wp2
      go_ret
      exact ⟨by simp <;> omega, rfl⟩

theorem p_any (f : Int) (w : World) (hT : Tab w) : Calls Tryd.prog 59 #[.int .i64 f] w fun e w' => e = .returned (.int .u64 ((pOf f : Nat) : Int)) ∧ w = w' := by
  obtain ⟨⟨a0, _⟩, ⟨a1, _⟩, ⟨a2, _⟩, a3, _⟩ := hT
  cases hv : validB f
  · have hp := (pOf_zero_iff f).2 hv
    rw [hp]
    go_enter Tryd.func59, Tryd.ntmps59
    go_wp2_with (go_at_call 38; refine (valid_any _ _).mono ?_; rintro e w' ⟨rfl, rfl⟩)
    go_ret
    exact ⟨rfl, rfl⟩
  · rcases field_cases f hv with rfl | rfl | rfl | rfl
    all_goals
      go_enter Tryd.func59, Tryd.ntmps59
      go_wp2_with (go_at_call 38; refine (valid_any _ _).mono ?_; rintro e w' ⟨rfl, rfl⟩)
      go_ret
      exact ⟨rfl, rfl⟩

theorem eq0_pos {n : Nat} (h : 0 < n) : (((n : Nat) : Int) == 0) = false := by simp; omega

end Go.Proofs.YtnmfneeojnmebaaDoor

/- The powers of package field, and what is made of them: what each call returns, over the tied table. -/
namespace Go.Proofs.YtnmfneeojnmebaaDoor
open Go.RowKit
set_option linter.unusedVariables false

theorem and_one_u64 (n : Nat) (h1 : n ≤ 18446744073709551615) : bits BinOp.and IntKind.u64 (n : Int) 1 = ((n % 2 : Nat) : Int) := by
  have h := bits_and_u64_nat n 1 (by omega) (by omega)
  rw [Nat.and_one_is_mod] at h
  exact h

end Go.Proofs.YtnmfneeojnmebaaDoor
