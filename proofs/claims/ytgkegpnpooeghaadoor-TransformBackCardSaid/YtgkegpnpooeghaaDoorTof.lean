/- The numbers of a field, and Root: what each call returns, over the tied table; the orders of the roots. -/
import Derived.Test.YtgkegpnpooeghaaDoorPmem
import Derived.Test.YtgkegpnpooeghaaDoorOrd
namespace Go.Proofs.YtgkegpnpooeghaaDoor
open Go.RowKit
set_option linter.unusedVariables false

def ofV (f : Int) : Value := .agg #[.int .u64 ((pOf f : Nat) : Int), .int .u64 ((gOf f : Nat) : Int), .int .i64 ((twoOf f : Nat) : Int), .int .u64 ((expOf f : Nat) : Int)]
theorem of_any (f : Int) (W w : World) (hW : On W w) :
    Calls Tryd.prog 62 #[.int .i64 f] w fun e w' => e = .returned (.tuple #[ofV f, .bool (validB f)]) ∧ On W w' := by
  have hT := hW.tab
  have hz := hT.size
  obtain ⟨⟨a0, b0, c0, d0⟩, ⟨a1, b1, c1, d1⟩, ⟨a2, b2, c2, d2⟩, a3, b3, c3, d3⟩ := hT
  cases hv : validB f
  · have hp : f ≠ 0 ∧ f ≠ 1 ∧ f ≠ 2 ∧ f ≠ 3 := by unfold validB at hv; simp at hv; omega
    have hV : ofV f = .agg #[.int .u64 0, .int .u64 0, .int .i64 0, .int .u64 0] := by simp [ofV, pOf, gOf, twoOf, expOf, hp]
    rw [hV]; clear hV
    go_enter Tryd.func62, Tryd.ntmps62
    go_wp2_with (go_at_call 54; refine (valid_any _ _).mono ?_; rintro e w' ⟨rfl, rfl⟩)
    go_returns
    exact ⟨rfl, hW.alloc _⟩
  · rcases field_cases f hv with rfl | rfl | rfl | rfl
    all_goals
      go_enter Tryd.func62, Tryd.ntmps62
      go_wp2_with (go_at_call 54; refine (valid_any _ _).mono ?_; rintro e w' ⟨rfl, rfl⟩)
      go_returns
      exact ⟨rfl, hW.alloc _⟩

theorem gen_any (f : Int) (W w : World) (hW : On W w) :
    Calls Tryd.prog 29 #[.int .i64 f] w fun e w' => e = .returned (.int .u64 ((gOf f : Nat) : Int)) ∧ On W w' := by
  go_enter Tryd.func29, Tryd.ntmps29
  go_wp2_with (go_at_call 62; refine (of_any _ _ _ hW).mono ?_; rintro e w1 ⟨rfl, hW1⟩; unfold ofV)
  go_returns
  exact ⟨rfl, hW1.alloc _⟩
theorem twos_any (f : Int) (W w : World) (hW : On W w) :
    Calls Tryd.prog 61 #[.int .i64 f] w fun e w' => e = .returned (.int .i64 ((twoOf f : Nat) : Int)) ∧ On W w' := by
  go_enter Tryd.func61, Tryd.ntmps61
  go_wp2_with (go_at_call 62; refine (of_any _ _ _ hW).mono ?_; rintro e w1 ⟨rfl, hW1⟩; unfold ofV)
  go_returns
  exact ⟨rfl, hW1.alloc _⟩
theorem root_any (f k : Int) (W w : World) (hW : On W w) :
    Calls Tryd.prog 28 #[.int .i64 f, .int .i64 k] w fun e w' => e = .returned (.int .u64 ((rootF f k : Nat) : Int)) ∧ On W w' := by
  have ht := twoOf_le f
  cases hv : validB f
  · have hr : rootF f k = 0 := by unfold rootF; simp [hv]
    rw [hr]; clear hr
    go_enter Tryd.func28, Tryd.ntmps28
    go_wp2_with (go_at_call 54; refine (valid_any _ _).mono ?_; rintro e w' ⟨rfl, rfl⟩)
    go_ret
    exact ⟨rfl, hW⟩
  · have h := (valid_iff f).1 hv
    have hle := pOf_le f
    have hg := gOf_le f
    by_cases h0 : k < 0
    · have hr : rootF f k = 0 := by unfold rootF; rw [if_neg]; omega
      rw [hr]; clear hr
      go_enter Tryd.func28, Tryd.ntmps28
      go_wp2_with (go_at_call 54; refine (valid_any _ _).mono ?_; rintro e w' ⟨rfl, rfl⟩)
      go_ret
      exact ⟨rfl, hW⟩
    · by_cases h1 : (twoOf f : Int) < k
      · have hr : rootF f k = 0 := by unfold rootF; rw [if_neg]; omega
        rw [hr]; clear hr
        have h0' : 0 ≤ k := by omega
        go_enter Tryd.func28, Tryd.ntmps28
        go_wp2_with (first
          | (go_at_call 54; refine (valid_any _ _).mono ?_; rintro e w' ⟨rfl, rfl⟩)
          | (go_at_call 61; refine (twos_any _ _ _ hW).mono ?_; rintro e w1 ⟨rfl, hW1⟩))
        go_ret
        exact ⟨rfl, hW1⟩
      · have h0' : 0 ≤ k := by omega
        have h1' : k ≤ (twoOf f : Int) := by omega
        obtain ⟨K, rfl⟩ : ∃ K : Nat, k = (K : Int) := ⟨k.toNat, by omega⟩
        have hr : rootF f K = powF f (gOf f) ((pOf f - 1) / 2 ^ K) := by unfold rootF; rw [if_pos ⟨hv, h0', h1'⟩]; rfl
        rw [hr]; clear hr
        have h23 : K ≤ 23 := by omega
        have hsh : (((pOf f : Nat) : Int) - 1) / 2 ^ K = (((pOf f - 1) / 2 ^ K : Nat) : Int) := by
          rw [Int.natCast_ediv, Int.natCast_pow, Int.natCast_sub h]; rfl
        have hq : (pOf f - 1) / 2 ^ K ≤ 998244353 := Nat.le_trans (Nat.div_le_self _ _) (by omega)
        have HS := Lib.hid hsh; clear hsh
        go_enter Tryd.func28, Tryd.ntmps28
        go_wp2_with (first
          | (go_at_call 54; refine (valid_any _ _).mono ?_; rintro e w' ⟨rfl, rfl⟩)
          | (go_at_call 61; refine (twos_any _ _ _ hW).mono ?_; rintro e w1 ⟨rfl, hW1⟩)
          | (go_at_call 29; refine (gen_any _ _ _ hW1).mono ?_; rintro e w2 ⟨rfl, hW2⟩)
          | (go_at_call 59; refine (p_any _ _ hW2.tab).mono ?_; rintro e w' ⟨rfl, rfl⟩)
          | (go_at_call 27; rw [HS.out]; refine (pow_any _ _ _ _ hW2.tab (by omega) (by omega)).mono ?_; rintro e w' ⟨rfl, rfl⟩))
        go_ret
        exact ⟨rfl, hW2⟩

def rootsB : Bool := [(0 : Int), 1, 2, 3].all fun f => (List.range 24).all fun n => decide (twoOf f < n) || (ordK f (rootK f n) == 2 ^ n && (n == 0 || mulF f (rootK f n) (rootK f n) == rootK f ((n : Int) - 1)))
theorem rootsB_true : rootsB = true := by decide +kernel
theorem roots_tab (f : Int) (n : Nat) (hv : validB f = true) (hn : n ≤ twoOf f) : ordF f (rootF f n) = 2 ^ n ∧ (0 < n → mulF f (rootF f n) (rootF f n) = rootF f ((n : Int) - 1)) := by
  have h := rootsB_true
  have hf : f ∈ [(0 : Int), 1, 2, 3] := by rcases field_cases f hv with rfl | rfl | rfl | rfl <;> simp
  have h1 := List.all_eq_true.1 h f hf
  have h2 := List.all_eq_true.1 h1 n (List.mem_range.2 (by have := twoOf_le f; omega))
  rw [ordK_eq f _ hv, rootK_eq, rootK_eq]
  simp only [Bool.or_eq_true, Bool.and_eq_true, beq_iff_eq, decide_eq_true_eq] at h2
  rcases h2 with h2 | ⟨h2, h3⟩
  · omega
  · refine ⟨h2, fun h0 => ?_⟩
    rcases h3 with h3 | h3
    · omega
    · exact h3
theorem roots_ends (f : Int) (hv : validB f = true) : rootF f 1 = pOf f - 1 ∧ rootF f 0 = 1 ∧ 1 ≤ twoOf f := by
  rw [rootK_eq, rootK_eq]
  rcases field_cases f hv with rfl | rfl | rfl | rfl <;> decide +kernel

theorem rootF_le (f k : Int) : rootF f k ≤ 998244353 := by
  unfold rootF; split
  · exact powF_le _ _ _
  · omega


end Go.Proofs.YtgkegpnpooeghaaDoor
