/- Root of package field: what the call returns, over the tied table. -/
import Derived.Test.YtndaaibjcfddhaaDoorWalkC
namespace Go.Proofs.YtndaaibjcfddhaaDoor
open Go.RowKit
set_option linter.unusedVariables false

theorem root_any (f k : Int) (W w : World) (hW : On W w) :
    Calls Tryd.prog 43 #[.int .i64 f, .int .i64 k] w fun e w' => e = .returned (.int .u64 ((rootF f k : Nat) : Int)) ∧ On W w' := by
  have ht := twoOf_le f
  cases hv : validB f
  · have hr : rootF f k = 0 := by unfold rootF; simp [hv]
    rw [hr]; clear hr
    go_enter Tryd.func43, Tryd.ntmps43
    go_wp2_with (go_at_call 12; refine (valid_any _ _).mono ?_; rintro e w' ⟨rfl, rfl⟩)
    go_ret
    exact ⟨rfl, hW⟩
  · have h := (valid_iff f).1 hv
    have hle := pOf_le f
    have hg := gOf_le f
    by_cases h0 : k < 0
    · have hr : rootF f k = 0 := by unfold rootF; rw [if_neg]; omega
      rw [hr]; clear hr
      go_enter Tryd.func43, Tryd.ntmps43
      go_wp2_with (go_at_call 12; refine (valid_any _ _).mono ?_; rintro e w' ⟨rfl, rfl⟩)
      go_ret
      exact ⟨rfl, hW⟩
    · by_cases h1 : (twoOf f : Int) < k
      · have hr : rootF f k = 0 := by unfold rootF; rw [if_neg]; omega
        rw [hr]; clear hr
        have h0' : 0 ≤ k := by omega
        go_enter Tryd.func43, Tryd.ntmps43
        go_wp2_with (first
          | (go_at_call 12; refine (valid_any _ _).mono ?_; rintro e w' ⟨rfl, rfl⟩)
          | (go_at_call 18; refine (twos_any _ _ _ hW).mono ?_; rintro e w1 ⟨rfl, hW1⟩))
        go_ret
        exact ⟨rfl, hW1⟩
      · have h0' : 0 ≤ k := by omega
        have h1' : k ≤ (twoOf f : Int) := by omega
        obtain ⟨K, rfl⟩ : ∃ K : Nat, k = (K : Int) := ⟨k.toNat, by omega⟩
        have hr : rootF f K = powF f (gOf f) ((pOf f - 1) / 2 ^ K) := by unfold rootF; rw [if_pos ⟨hv, h0', h1'⟩]; rfl
        rw [hr]; clear hr
        have h23 : K ≤ 23 := by omega
        have hsh : (((pOf f : Nat) : Int) - 1) / 2 ^ K = (((pOf f - 1) / 2 ^ K : Nat) : Int) := by
          rw [Int.natCast_ediv, Int.natCast_pow, Int.natCast_sub h]; rfl
        have hq : (pOf f - 1) / 2 ^ K ≤ 998244353 := Nat.le_trans (Nat.div_le_self _ _) (by omega)
        have HS := Lib.hid hsh; clear hsh
        go_enter Tryd.func43, Tryd.ntmps43
        go_wp2_with (first
          | (go_at_call 12; refine (valid_any _ _).mono ?_; rintro e w' ⟨rfl, rfl⟩)
          | (go_at_call 18; refine (twos_any _ _ _ hW).mono ?_; rintro e w1 ⟨rfl, hW1⟩)
          | (go_at_call 16; refine (gen_any _ _ _ hW1).mono ?_; rintro e w2 ⟨rfl, hW2⟩)
          | (go_at_call 14; refine (p_any _ _ hW2.tab).mono ?_; rintro e w' ⟨rfl, rfl⟩)
          | (go_at_call 40; rw [HS.out]; refine (pow_any _ _ _ _ hW2.tab (by omega) (by omega)).mono ?_; rintro e w' ⟨rfl, rfl⟩))
        go_ret
        exact ⟨rfl, hW2⟩
end Go.Proofs.YtndaaibjcfddhaaDoor
