/- The numbers of a field, and Root: what each call returns, over the tied table; the orders of the roots. -/
import Derived.Test.YtnmfneeojnmebaaDoorPmem
import Derived.Test.YtnmfneeojnmebaaDoorOrd
namespace Go.Proofs.YtnmfneeojnmebaaDoor
open Go.RowKit
set_option linter.unusedVariables false

def ofV (f : Int) : Value := .agg #[.int .u64 ((pOf f : Nat) : Int), .int .u64 ((gOf f : Nat) : Int), .int .i64 ((twoOf f : Nat) : Int), .int .u64 ((expOf f : Nat) : Int)]
theorem of_any (f : Int) (W w : World) (hW : On W w) :
    Calls Tryd.prog 65 #[.int .i64 f] w fun e w' => e = .returned (.tuple #[ofV f, .bool (validB f)]) ∧ On W w' := by
  have hT := hW.tab
  have hz := hT.size
  obtain ⟨⟨a0, b0, c0, d0⟩, ⟨a1, b1, c1, d1⟩, ⟨a2, b2, c2, d2⟩, a3, b3, c3, d3⟩ := hT
  cases hv : validB f
  · have hp : f ≠ 0 ∧ f ≠ 1 ∧ f ≠ 2 ∧ f ≠ 3 := by unfold validB at hv; simp at hv; omega
    have hV : ofV f = .agg #[.int .u64 0, .int .u64 0, .int .i64 0, .int .u64 0] := by simp [ofV, pOf, gOf, twoOf, expOf, hp]
    rw [hV]; clear hV
    go_enter Tryd.func65, Tryd.ntmps65
    go_wp2_with (go_at_call 38; refine (valid_any _ _).mono ?_; rintro e w' ⟨rfl, rfl⟩)
    go_returns
    exact ⟨rfl, hW.alloc _⟩
  · rcases field_cases f hv with rfl | rfl | rfl | rfl
    all_goals
      go_enter Tryd.func65, Tryd.ntmps65
      go_wp2_with (go_at_call 38; refine (valid_any _ _).mono ?_; rintro e w' ⟨rfl, rfl⟩)
      go_returns
      exact ⟨rfl, hW.alloc _⟩

def rootsB : Bool := [(0 : Int), 1, 2, 3].all fun f => (List.range 24).all fun n => decide (twoOf f < n) || (ordK f (rootK f n) == 2 ^ n && (n == 0 || mulF f (rootK f n) (rootK f n) == rootK f ((n : Int) - 1)))
theorem rootsB_true : rootsB = true := by decide +kernel
theorem roots_tab (f : Int) (n : Nat) (hv : validB f = true) (hn : n ≤ twoOf f) : ordF f (rootF f n) = 2 ^ n ∧ (0 < n → mulF f (rootF f n) (rootF f n) = rootF f ((n : Int) - 1)) := by
  have h := rootsB_true
  have hf : f ∈ [(0 : Int), 1, 2, 3] := by rcases field_cases f hv with rfl | rfl | rfl | rfl <;> simp
  have h1 := List.all_eq_true.1 h f hf
  have h2 := List.all_eq_true.1 h1 n (List.mem_range.2 (by have := twoOf_le f; omega))
  rw [ordK_eq f _ hv, rootK_eq, rootK_eq]
  simp only [Bool.or_eq_true, Bool.and_eq_true, beq_iff_eq, decide_eq_true_eq] at h2
  rcases h2 with h2 | ⟨h2, h3⟩
  · omega
  · refine ⟨h2, fun h0 => ?_⟩
    rcases h3 with h3 | h3
    · omega
    · exact h3
theorem roots_ends (f : Int) (hv : validB f = true) : rootF f 1 = pOf f - 1 ∧ rootF f 0 = 1 ∧ 1 ≤ twoOf f := by
  rw [rootK_eq, rootK_eq]
  rcases field_cases f hv with rfl | rfl | rfl | rfl <;> decide +kernel

theorem rootF_le (f k : Int) : rootF f k ≤ 998244353 := by
  unfold rootF; split
  · exact powF_le _ _ _
  · omega


end Go.Proofs.YtnmfneeojnmebaaDoor
