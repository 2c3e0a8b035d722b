/- The powers and the numbers of the document's own answers for layer 1: what each call returns. -/
import Derived.Test.YtcbmeegmdgllkaaDoorPrefA
namespace Go.Proofs.YtcbmeegmdgllkaaDoor
open Go.RowKit
set_option linter.unusedVariables false

theorem pow_half_even (f : Int) (a n : Nat) (h : n % 2 = 0) : mulF f (powF f a (n / 2)) (powF f a (n / 2)) = powF f a n := by
  rw [← powF_add]; congr 1; omega
theorem pow_half_odd (f : Int) (a n : Nat) (hp : 0 < pOf f) (h : n % 2 = 1) : mulF f (mulF f (powF f a (n / 2)) (powF f a (n / 2))) a = powF f a n := by
  rw [← powF_add, ← mulF_modR f _ a, ← powF_one f a hp, ← powF_add]; congr 1; omega

theorem rpow_any (f : Int) (a : Nat) (ha : a ≤ 18446744073709551615) (k : Nat) : ∀ (n : Nat) (w : World), n < 2 ^ k → n ≤ 18446744073709551615 →
    Calls Tryd.prog 44 #[.int .i64 f, .int .u64 (a : Int), .int .u64 (n : Int)] w fun e w' => e = .returned (.int .u64 ((powF f a n : Nat) : Int)) ∧ Drawn w w' := by
  induction k with
  | zero =>
    intro n w hn _
    obtain rfl : n = 0 := by omega
    cases hv : validB f
    · rw [powF_zero f a 0 ((pOf_zero_iff f).2 hv)]
      have HV := Lib.hid hv; clear hv
      go_enter Tryd.func44, Tryd.ntmps44
      go_wp2_with (go_at_call 27; refine (rvalid_any _ _).mono ?_; rintro e w' ⟨rfl, rfl⟩; rw [HV.out])
      go_ret
      exact ⟨rfl, Drawn.refl _⟩
    · rw [powF_nil f a hv]
      have HV := Lib.hid hv; clear hv
      go_enter Tryd.func44, Tryd.ntmps44
      go_wp2_with (go_at_call 27; refine (rvalid_any _ _).mono ?_; rintro e w' ⟨rfl, rfl⟩; rw [HV.out])
      go_ret
      exact ⟨rfl, Drawn.refl _⟩
  | succ k ih =>
    intro n w hn hn1
    by_cases h0 : n = 0
    · subst h0; exact ih 0 w (Nat.two_pow_pos _) (by omega)
    · cases hv : validB f
      · rw [powF_zero f a n ((pOf_zero_iff f).2 hv)]
        have HV := Lib.hid hv; clear hv
        have HI := Lib.hid ih; clear ih
        go_enter Tryd.func44, Tryd.ntmps44
        go_wp2_with (go_at_call 27; refine (rvalid_any _ _).mono ?_; rintro e w' ⟨rfl, rfl⟩; rw [HV.out])
        go_ret
        exact ⟨rfl, Drawn.refl _⟩
      · have hp := (valid_iff f).1 hv
        have l1 := powF_le f a (n / 2)
        have l2 := mulF_le f (powF f a (n / 2)) (powF f a (n / 2))
        have hz : ((n : Int) == 0) = false := by simp; omega
        have hlt : n / 2 < 2 ^ k := by rw [Nat.pow_succ] at hn; omega
        have hdc : (n : Int) / 2 = ((n / 2 : Nat) : Int) := rfl
        have HI := Lib.hid ih; clear ih
        have HV := Lib.hid hv; clear hv
        have HDC := Lib.hid hdc; clear hdc
        have H0 := Lib.hid h0; clear h0
        rcases Nat.mod_two_eq_zero_or_one n with h2 | h2
        · have he := pow_half_even f a n h2
          have hm : ((n : Int) % 2 == 1) = false := by simp; omega
          have HE := Lib.hid he; clear he
          have H2 := Lib.hid h2; clear h2
          go_enter Tryd.func44, Tryd.ntmps44
          go_wp2_with (first
            | (go_at_call 27; refine (rvalid_any _ _).mono ?_; rintro e w' ⟨rfl, rfl⟩; rw [HV.out])
            | (go_at_call 44; rw [HDC.out]; refine (HI.out (n / 2) _ hlt (by omega)).mono ?_; rintro e w1 ⟨rfl, hd1⟩)
            | (go_at_call 47; refine (rmul_any _ _ _ _ (by omega) (by omega)).mono ?_; rintro e w2 ⟨rfl, hd2⟩))
          go_ret
          exact ⟨ret_nat HE.out, hd1.trans hd2⟩
        · have he := pow_half_odd f a n hp h2
          have hm : ((n : Int) % 2 == 1) = true := by simp; omega
          have HE := Lib.hid he; clear he
          have H2 := Lib.hid h2; clear h2
          go_enter Tryd.func44, Tryd.ntmps44
          go_wp2_with (first
            | (go_at_call 27; refine (rvalid_any _ _).mono ?_; rintro e w' ⟨rfl, rfl⟩; rw [HV.out])
            | (go_at_call 44; rw [HDC.out]; refine (HI.out (n / 2) _ hlt (by omega)).mono ?_; rintro e w1 ⟨rfl, hd1⟩)
            | (go_at_call 47; refine (rmul_any _ _ _ _ (by omega) (by omega)).mono ?_; rintro e w2 ⟨rfl, hd2⟩; have hdd := Drawn.trans (by assumption) hd2))
          go_ret
          exact ⟨ret_nat HE.out, (hd1.trans (by assumption)).trans (by assumption)⟩

theorem rpow_all (f : Int) (a n : Nat) (w : World) (ha : a ≤ 18446744073709551615) (hn : n ≤ 18446744073709551615) :
    Calls Tryd.prog 44 #[.int .i64 f, .int .u64 (a : Int), .int .u64 (n : Int)] w fun e w' => e = .returned (.int .u64 ((powF f a n : Nat) : Int)) ∧ Drawn w w' :=
  rpow_any f a ha 64 n w (by omega) hn

end Go.Proofs.YtcbmeegmdgllkaaDoor
