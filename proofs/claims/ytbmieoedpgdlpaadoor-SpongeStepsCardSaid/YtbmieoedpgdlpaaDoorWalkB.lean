/- The powers of package field, and what is made of them: what each call returns, over the tied table. -/
import Derived.Test.YtbmieoedpgdlpaaDoorWalkA
namespace Go.Proofs.YtbmieoedpgdlpaaDoor
open Go.RowKit
set_option linter.unusedVariables false

theorem and_one_u64 (n : Nat) (h1 : n ≤ 18446744073709551615) : bits BinOp.and IntKind.u64 (n : Int) 1 = ((n % 2 : Nat) : Int) := by
  have h := bits_and_u64_nat n 1 (by omega) (by omega)
  rw [Nat.and_one_is_mod] at h
  exact h

theorem pow_any (f : Int) (a n : Nat) (w : World) (hT : Tab w) (ha : a ≤ 18446744073709551615) (hn : n ≤ 18446744073709551615) :
    Calls Tryd.prog 58 #[.int .i64 f, .int .u64 (a : Int), .int .u64 (n : Int)] w fun e w' => e = .returned (.int .u64 ((powF f a n : Nat) : Int)) ∧ w = w' := by
  go_enter Tryd.func58, Tryd.ntmps58
  go_wp2_with (go_at_call 59; refine (reduce_any f 1 _ hT (by omega)).mono ?_; rintro e w' ⟨rfl, rfl⟩)
  go_loop [1, 2, 7] (fun va vn vx => ∃ A N X : Nat, va = .int .u64 (A : Int) ∧ vn = .int .u64 (N : Int) ∧ vx = .int .u64 (X : Int) ∧ A ≤ 18446744073709551615 ∧ N ≤ 18446744073709551615 ∧ X ≤ 998244353 ∧ PowR f X A N (powF f a n)) (fun _ vn _ => (intOf vn).toNat)
  case atStart => exact ⟨a, n, redF f 1, rfl, rfl, rfl, ha, hn, redF_le _ _, PowR.start _ _ _⟩
  case round =>
    obtain ⟨A, N, X, rfl, rfl, rfl, hA, hN, hX, hR⟩ := hrel
    have hm := mulF_le f A A
    have hm2 := mulF_le f X A
    by_cases hpos : 0 < N
    · have hand := and_one_u64 N hN
      rcases Nat.mod_two_eq_zero_or_one N with h2 | h2
      · have h2' := hR.even h2
        rw [h2] at hand
        go_wp2_with (go_at_call 60; refine (mul_any f A A _ hT hA hA).mono ?_; rintro e w' ⟨rfl, rfl⟩)
        go_round
        case rel => exact ⟨mulF f A A, N / 2, X, rfl, rfl, rfl, by omega, by omega, hX, h2'⟩
        case measure => simp [intOf]; omega
      · have h2' := hR.odd h2
        rw [h2] at hand
        go_wp2_with (go_at_call 60; refine (mul_any _ _ _ _ hT (by omega) (by omega)).mono ?_; rintro e w' ⟨rfl, rfl⟩)
        go_round
        case rel => exact ⟨mulF f A A, N / 2, mulF f X A, rfl, rfl, rfl, by omega, by omega, by omega, h2'⟩
        case measure => simp [intOf]; omega
    · obtain rfl : N = 0 := by omega
      have H := Lib.hid hR.done; clear hR
      go_wp2
      go_ret
      exact ⟨ret_nat H.out, rfl⟩

theorem inv_any (f : Int) (a : Nat) (w : World) (hT : Tab w) (ha : a ≤ 18446744073709551615) :
    Calls Tryd.prog 49 #[.int .i64 f, .int .u64 (a : Int)] w fun e w' => e = .returned (.int .u64 ((invF f a : Nat) : Int)) ∧ w = w' := by
  have hle := pOf_le f
  cases hv : validB f
  · have hz : invF f a = 0 := powF_zero _ _ _ ((pOf_zero_iff f).2 hv)
    rw [hz]; clear hz
    go_enter Tryd.func49, Tryd.ntmps49
    go_wp2_with (go_at_call 56; refine (valid_any _ _).mono ?_; rintro e w' ⟨rfl, rfl⟩)
    go_ret
    exact ⟨rfl, rfl⟩
  · have h := (valid_iff f).1 hv
    have h97 : 97 ≤ pOf f := by have := pOf_cases f; omega
    go_enter Tryd.func49, Tryd.ntmps49
    go_wp2_with (first
      | (go_at_call 56; refine (valid_any _ _).mono ?_; rintro e w' ⟨rfl, rfl⟩)
      | (go_at_call 45; refine (p_any _ _ hT).mono ?_; rintro e w' ⟨rfl, rfl⟩)
      | (go_at_call 58; rw [show ((pOf f : Nat) : Int) - 2 = ((pOf f - 2 : Nat) : Int) by omega]; refine (pow_any f a _ _ hT ha (by omega)).mono ?_; rintro e w' ⟨rfl, rfl⟩))
    go_ret
    exact ⟨rfl, rfl⟩

end Go.Proofs.YtbmieoedpgdlpaaDoor
