/- The walk of the law FieldRoots: it returns true. -/
import Derived.Test.YtndaaibjcfddhaaDoorWorks
namespace Go.Proofs.YtndaaibjcfddhaaDoor
open Go.RowKit
set_option linter.unusedVariables false

def rootsB : Bool := [(0 : Int), 1, 2, 3].all fun f => (List.range 24).all fun n => decide (twoOf f < n) || (ordK f (rootK f n) == 2 ^ n && (n == 0 || mulF f (rootK f n) (rootK f n) == rootK f ((n : Int) - 1)))
theorem rootsB_true : rootsB = true := by decide +kernel
theorem roots_tab (f : Int) (n : Nat) (hv : validB f = true) (hn : n ≤ twoOf f) : ordF f (rootF f n) = 2 ^ n ∧ (0 < n → mulF f (rootF f n) (rootF f n) = rootF f ((n : Int) - 1)) := by
  have h := rootsB_true
  have hf : f ∈ [(0 : Int), 1, 2, 3] := by rcases field_cases f hv with rfl | rfl | rfl | rfl <;> simp
  have h1 := List.all_eq_true.1 h f hf
  have h2 := List.all_eq_true.1 h1 n (List.mem_range.2 (by have := twoOf_le f; omega))
  rw [ordK_eq f _ hv, rootK_eq, rootK_eq]
  simp only [Bool.or_eq_true, Bool.and_eq_true, beq_iff_eq, decide_eq_true_eq] at h2
  rcases h2 with h2 | ⟨h2, h3⟩
  · omega
  · refine ⟨h2, fun h0 => ?_⟩
    rcases h3 with h3 | h3
    · omega
    · exact h3
theorem roots_ends (f : Int) (hv : validB f = true) : rootF f 1 = pOf f - 1 ∧ rootF f 0 = 1 ∧ 1 ≤ twoOf f := by
  rw [rootK_eq, rootK_eq]
  rcases field_cases f hv with rfl | rfl | rfl | rfl <;> decide +kernel

theorem rootF_le (f k : Int) : rootF f k ≤ 998244353 := by
  unfold rootF; split
  · exact powF_le _ _ _
  · omega

set_option maxRecDepth 100000 in
theorem roots_any (X : Int) (N A K : Nat) (W w : World) (hW : On W w) (hv : validB X = true) (hA : (A : Int) % 4 = X) (hA1 : A ≤ 255) (hK1 : K ≤ 255) (hN : (K : Int) % (((twoOf X : Nat) : Int) + 1) = (N : Int)) :
    Calls Tryd.prog 8 #[.int .u8 (A : Int), .int .u8 (K : Int)] w fun e w' => e = .returned (.bool true) ∧ On W w' := by
  have ht := twoOf_le X
  have hX : 0 ≤ X ∧ X ≤ 3 := by unfold validB at hv; simpa using hv
  obtain ⟨hX0, hX3⟩ := hX
  have hNle : N ≤ twoOf X := by
    have := Int.emod_lt_of_pos (K : Int) (show (0 : Int) < ((twoOf X : Nat) : Int) + 1 by omega)
    omega
  have h23 : N ≤ 23 := by omega
  obtain ⟨t1, t2⟩ := roots_tab X N hv hNle
  obtain ⟨t3, t4, t5⟩ := roots_ends X hv
  have hb := big X hv
  have hle := pOf_le X
  have hr := rootF_le X N
  have HV := Lib.hid hv; clear hv
  have T1 := Lib.hid t1; clear t1
  have t3' : ((rootF X 1 : Nat) : Int) = ((pOf X : Nat) : Int) - 1 := by omega
  have t4' : ((rootF X 0 : Nat) : Int) = 1 := by omega
  clear t3 t4
  have T3 := Lib.hid t3'; clear t3'
  have T4 := Lib.hid t4'; clear t4'
  have hw : IntKind.u64.wrap ((2 : Int) ^ N) = 2 ^ N := by
    have h1 : 2 ^ N ≤ 2 ^ 23 := Nat.pow_le_pow_right (by omega) h23
    have h2 : (2 : Int) ^ N = ((2 ^ N : Nat) : Int) := by rw [Int.natCast_pow]; rfl
    rw [h2]; exact IntWalk.u64_in _ ⟨Int.natCast_nonneg _, Int.ofNat_le.2 (Nat.le_trans h1 (by decide))⟩
  by_cases h0 : 0 < N
  · have T2 := Lib.hid (t2 h0)
    clear t2
    go_enter Tryd.func8, Tryd.ntmps8
    go_wp2_with (first
      | (go_at_call 18; refine (twos_any _ W _ (by assumption)).mono ?_; rintro e w1 ⟨rfl, hW1⟩)
      | (go_at_call 14; refine (p_any _ _ (On.tab (W := W) (by assumption))).mono ?_; rintro e w' ⟨rfl, rfl⟩)
      | (go_at_call 43; refine (root_any _ _ W _ (by assumption)).mono ?_; rintro e w1 ⟨rfl, hW1⟩; (try rw [T3.out]); (try rw [T4.out]))
      | (go_at_call 45; refine (order_any X (rootF X N) W _ (by assumption) (by omega)).mono ?_; rintro e w1 ⟨rfl, hW1⟩; rw [T1.out]; clear hN hA)
      | (go_at_call 32; refine (mul_any X (rootF X N) (rootF X N) _ (On.tab (W := W) (by assumption)) (by omega) (by omega)).mono ?_; rintro e w' ⟨rfl, rfl⟩; rw [T2.out])
      | (go_at_call 42; refine (works_any W _ (by assumption)).mono ?_; rintro e w1 ⟨rfl, hW1⟩))
    go_ret
    exact ⟨rfl, by assumption⟩
  · clear t2
    obtain rfl : N = 0 := by omega
    have t0 : ordF X 1 = 1 := by
      have h1 : ordF X (rootF X 0) = 1 := T1.out
      have h2 : rootF X 0 = 1 := by have := T4.out; omega
      rw [h2] at h1; exact h1
    have T0 := Lib.hid t0
    clear t0 hw T1
    go_enter Tryd.func8, Tryd.ntmps8
    go_wp2_with (first
      | (go_at_call 18; refine (twos_any _ W _ (by assumption)).mono ?_; rintro e w1 ⟨rfl, hW1⟩)
      | (go_at_call 14; refine (p_any _ _ (On.tab (W := W) (by assumption))).mono ?_; rintro e w' ⟨rfl, rfl⟩)
      | (go_at_call 43; refine (root_any _ _ W _ (by assumption)).mono ?_; rintro e w1 ⟨rfl, hW1⟩; (try rw [T3.out]); (try rw [T4.out]))
      | (go_at_call 45; refine (order_any X 1 W _ (by assumption) (by omega)).mono ?_; rintro e w1 ⟨rfl, hW1⟩; rw [T0.out]; clear hN hA)
      | (go_at_call 42; refine (works_any W _ (by assumption)).mono ?_; rintro e w1 ⟨rfl, hW1⟩))
    go_ret
    exact ⟨rfl, by assumption⟩
end Go.Proofs.YtndaaibjcfddhaaDoor
