/- The calls of the document's own answers for layer 1: what each returns; they only draw orders. -/
import Derived.Test.YtiibcfajcndcnaaDoorKf03
import Derived.BigQuiet
import Derived.Test.YtiibcfajcndcnaaDoorKf01
/- The calls of the document's own answers for layer 1: what each returns; they only draw orders. -/
namespace Go.Proofs.YtiibcfajcndcnaaDoor
open Go.RowKit
set_option linter.unusedVariables false

/-- The world has at most drawn orders. -/
def Drawn (w w' : World) : Prop := ∃ n, w' = w.drewN n
theorem Drawn.refl (w : World) : Drawn w w := ⟨0, rfl⟩
theorem Drawn.drewN (w : World) (n : Nat) : Drawn w (w.drewN n) := ⟨n, rfl⟩
theorem Drawn.trans {a b c : World} (h : Drawn a b) (k : Drawn b c) : Drawn a c := by
  obtain ⟨n, rfl⟩ := h; obtain ⟨m, rfl⟩ := k; exact ⟨n + m, World.drewN_drewN _ _ _⟩
theorem Drawn.on {W w w' : World} (h : Drawn w w') (hW : On W w) : On W w' := by obtain ⟨n, rfl⟩ := h; exact hW.drewN n
theorem quiet_of_drawn {P : Program} {f : FuncId} {args : Array Value} {w : World} {n : Nat} {v : Value}
    (h : Calls P f args (w.drewN n) fun e w' => e = .returned v ∧ Drawn (w.drewN n) w') : Calls P f args (w.drewN n) fun e w'' => e = .returned v ∧ ∃ m, w'' = w.drewN m :=
  h.mono fun _ _ ⟨he, hm⟩ => ⟨he, (Drawn.drewN w n).trans hm⟩

theorem rvalid_any (f : Int) (w : World) : Calls Tryd.prog 70 #[.int .i64 f] w fun e w' => e = .returned (.bool (validB f)) ∧ w = w' := by
  by_cases h : 0 ≤ f ∧ f ≤ 3
  · have hv : validB f = true := by unfold validB; simp [h]
    rw [hv]
    obtain ⟨h0, h1⟩ := h
    go_enter Tryd.func70, Tryd.ntmps70
    go_wp2
    go_ret
    exact ⟨rfl, rfl⟩
  · have hv : validB f = false := by unfold validB; simp; omega
    rw [hv]
    have h2 : ¬ (0 ≤ f) ∨ (0 ≤ f ∧ ¬ f ≤ 3) := by omega
    rcases h2 with h2 | ⟨h2, h3⟩
    all_goals
      go_enter Tryd.func70, Tryd.ntmps70
      go_wp2
      go_ret
      exact ⟨by simp <;> omega, rfl⟩
theorem fcases (f : Int) : f = 0 ∨ f = 1 ∨ f = 2 ∨ f = 3 ∨ (f ≠ 0 ∧ f ≠ 1 ∧ f ≠ 2 ∧ f ≠ 3) := by omega
theorem rp_no (f : Int) (w : World) (h : validB f = false) : Calls Tryd.prog 72 #[.int .i64 f] w fun e w' => e = .returned (.int .u64 0) ∧ w = w' := by
  have h4 : ¬ (0 ≤ f ∧ f ≤ 3) := by unfold validB at h; simpa using h
  have t0 : (f == 0) = false := by simp; omega
  have t1 : (f == 1) = false := by simp; omega
  have t2 : (f == 2) = false := by simp; omega
  have t3 : (f == 3) = false := by simp; omega
  clear h h4
  go_enter Tryd.func72, Tryd.ntmps72
  go_wp2
  go_ret
  exact ⟨rfl, rfl⟩
theorem rp_any (f : Int) (w : World) : Calls Tryd.prog 72 #[.int .i64 f] w fun e w' => e = .returned (.int .u64 ((pOf f : Nat) : Int)) ∧ w = w' := by
  cases hv : validB f
  · have hz : pOf f = 0 := by
      have h4 : ¬ (0 ≤ f ∧ f ≤ 3) := by unfold validB at hv; simpa using hv
      unfold pOf; (repeat' split) <;> omega
    rw [hz]; exact rp_no f w hv
  · rcases field_cases f hv with rfl | rfl | rfl | rfl
    all_goals
      go_enter Tryd.func72, Tryd.ntmps72
      go_wp2
      go_ret
      exact ⟨rfl, rfl⟩
theorem rem_nat (a p : Nat) : ((a : Int)).tmod ((p : Nat) : Int) = ((rd p a : Nat) : Int) := by
  rw [Int.tmod_eq_emod_of_nonneg (by omega)]; rfl
theorem rem_nat' (a p : Nat) : (a : Int) % ((p : Nat) : Int) = ((rd p a : Nat) : Int) := rfl

theorem rreduce_any (f : Int) (a : Nat) (w : World) (ha : a ≤ 18446744073709551615) :
    Calls Tryd.prog 47 #[.int .i64 f, .int .u64 (a : Int)] w fun e w' => e = .returned (.int .u64 ((redF f a : Nat) : Int)) ∧ Drawn w w' := by
  cases hv : validB f
  · rw [redF_zero f a ((pOf_zero_iff f).2 hv)]
    have HV := Lib.hid hv; clear hv
    go_enter Tryd.func47, Tryd.ntmps47
    go_wp2_with (go_at_call 70; refine (rvalid_any _ _).mono ?_; rintro e w' ⟨rfl, rfl⟩; rw [HV.out])
    go_ret
    exact ⟨rfl, Drawn.refl _⟩
  · have hp := (valid_iff f).1 hv
    have hR : redF f a = rd (pOf f) a := redF_pos f a hp
    rw [hR]; clear hR
    have h1 := rem_nat' a (pOf f)
    have HV := Lib.hid hv; clear hv
    go_enter Tryd.func47, Tryd.ntmps47
    go_wp2_with (first
      | (go_at_call 70; refine (rvalid_any _ _).mono ?_; rintro e w' ⟨rfl, rfl⟩; rw [HV.out])
      | (go_at_call 72; refine (rp_any _ _).mono ?_; rintro e w' ⟨rfl, rfl⟩))
    go_ret
    exact ⟨rfl, Drawn.refl _⟩

set_option maxHeartbeats 400000 in
theorem radd_any (f : Int) (a b : Nat) (w : World) (ha : a ≤ 18446744073709551615) (hb : b ≤ 18446744073709551615) :
    Calls Tryd.prog 81 #[.int .i64 f, .int .u64 (a : Int), .int .u64 (b : Int)] w fun e w' => e = .returned (.int .u64 ((addF f a b : Nat) : Int)) ∧ Drawn w w' := by
  cases hv : validB f
  · rw [addF_zero f a b ((pOf_zero_iff f).2 hv)]
    have HV := Lib.hid hv; clear hv
    go_enter Tryd.func81, Tryd.ntmps81
    go_wp2_with (go_at_call 70; refine (rvalid_any _ _).mono ?_; rintro e w' ⟨rfl, rfl⟩; rw [HV.out])
    go_ret
    exact ⟨rfl, Drawn.refl _⟩
  · have hp := (valid_iff f).1 hv
    have hle := pOf_le f
    have l1 := rd_lt (pOf f) a hp
    have l2 := rd_lt (pOf f) b hp
    obtain ⟨S, hS⟩ : ∃ S : Nat, S = rd (pOf f) a + rd (pOf f) b := ⟨_, rfl⟩
    have hR : addF f a b = rd (pOf f) S := by rw [hS]; rw [addF_pos _ _ _ hp]; exact Nat.add_mod _ _ _
    rw [hR]; clear hR
    have k1 := rem_nat' a (pOf f); have k2 := rem_nat' b (pOf f); have k3 := rem_nat' S (pOf f)
    have j1 := rem_nat a (pOf f); have j2 := rem_nat b (pOf f); have j3 := rem_nat S (pOf f)
    have s1 : IntKind.u64.wrap (((rd (pOf f) a : Nat) : Int) + ((rd (pOf f) b : Nat) : Int)) = (S : Int) := by rw [← Int.natCast_add, ← hS]; exact IntWalk.u64_in _ (by omega)
    have s2 : ((rd (pOf f) a : Nat) : Int) + ((rd (pOf f) b : Nat) : Int) = (S : Int) := by omega
    have HV := Lib.hid hv; clear hv
    have HS := Lib.hid hS; clear hS
    go_enter Tryd.func81, Tryd.ntmps81
    go_wp2_with (go_at_call 70; refine (rvalid_any _ _).mono ?_; rintro e w' ⟨rfl, rfl⟩; rw [HV.out])
    go_quiet ((go_at_call 72; exact quiet_of_eq (rp_any _ _)))
    go_wp2
    go_ret
    exact ⟨rfl, Drawn.drewN _ _⟩

set_option maxHeartbeats 400000 in
theorem rsub_any (f : Int) (a b : Nat) (w : World) (ha : a ≤ 18446744073709551615) (hb : b ≤ 18446744073709551615) :
    Calls Tryd.prog 76 #[.int .i64 f, .int .u64 (a : Int), .int .u64 (b : Int)] w fun e w' => e = .returned (.int .u64 ((subF f a b : Nat) : Int)) ∧ Drawn w w' := by
  cases hv : validB f
  · rw [subF_zero f a b ((pOf_zero_iff f).2 hv)]
    have HV := Lib.hid hv; clear hv
    go_enter Tryd.func76, Tryd.ntmps76
    go_wp2_with (go_at_call 70; refine (rvalid_any _ _).mono ?_; rintro e w' ⟨rfl, rfl⟩; rw [HV.out])
    go_ret
    exact ⟨rfl, Drawn.refl _⟩
  · have hp := (valid_iff f).1 hv
    have hle := pOf_le f
    have l1 := rd_lt (pOf f) a hp
    have l2 := rd_lt (pOf f) b hp
    obtain ⟨S, hS⟩ : ∃ S : Nat, S = rd (pOf f) a + pOf f - rd (pOf f) b := ⟨_, rfl⟩
    have hR : subF f a b = rd (pOf f) S := by rw [hS]; rw [subF_pos _ _ _ hp, ← Nat.mod_add_mod]; unfold rd at l2 ⊢; rw [Nat.add_sub_assoc (by omega)]
    rw [hR]; clear hR
    have k1 := rem_nat' a (pOf f); have k2 := rem_nat' b (pOf f); have k3 := rem_nat' S (pOf f)
    have j1 := rem_nat a (pOf f); have j2 := rem_nat b (pOf f); have j3 := rem_nat S (pOf f)
    have s1 : IntKind.u64.wrap (((rd (pOf f) a : Nat) : Int) + ((pOf f : Nat) : Int)) = ((rd (pOf f) a : Nat) : Int) + ((pOf f : Nat) : Int) := IntWalk.u64_in _ (by omega)
    have s2 : IntKind.u64.wrap (((rd (pOf f) a : Nat) : Int) + ((pOf f : Nat) : Int) - ((rd (pOf f) b : Nat) : Int)) = (S : Int) := by rw [show ((rd (pOf f) a : Nat) : Int) + ((pOf f : Nat) : Int) - ((rd (pOf f) b : Nat) : Int) = (S : Int) by omega]; exact IntWalk.u64_in _ (by omega)
    have s3 : ((rd (pOf f) a : Nat) : Int) + ((pOf f : Nat) : Int) - ((rd (pOf f) b : Nat) : Int) = (S : Int) := by omega
    have HV := Lib.hid hv; clear hv
    have HS := Lib.hid hS; clear hS
    go_enter Tryd.func76, Tryd.ntmps76
    go_wp2_with (go_at_call 70; refine (rvalid_any _ _).mono ?_; rintro e w' ⟨rfl, rfl⟩; rw [HV.out])
    go_quiet ((go_at_call 72; exact quiet_of_eq (rp_any _ _)))
    go_wp2
    go_ret
    exact ⟨rfl, Drawn.drewN _ _⟩

set_option maxHeartbeats 400000 in
theorem rmul_any (f : Int) (a b : Nat) (w : World) (ha : a ≤ 18446744073709551615) (hb : b ≤ 18446744073709551615) :
    Calls Tryd.prog 49 #[.int .i64 f, .int .u64 (a : Int), .int .u64 (b : Int)] w fun e w' => e = .returned (.int .u64 ((mulF f a b : Nat) : Int)) ∧ Drawn w w' := by
  cases hv : validB f
  · rw [mulF_zero f a b ((pOf_zero_iff f).2 hv)]
    have HV := Lib.hid hv; clear hv
    go_enter Tryd.func49, Tryd.ntmps49
    go_wp2_with (go_at_call 70; refine (rvalid_any _ _).mono ?_; rintro e w' ⟨rfl, rfl⟩; rw [HV.out])
    go_ret
    exact ⟨rfl, Drawn.refl _⟩
  · have hp := (valid_iff f).1 hv
    have hle := pOf_le f
    have l1 := rd_lt (pOf f) a hp
    have l2 := rd_lt (pOf f) b hp
    obtain ⟨S, hS⟩ : ∃ S : Nat, S = rd (pOf f) a * rd (pOf f) b := ⟨_, rfl⟩
    have hR : mulF f a b = rd (pOf f) S := by rw [hS]; rw [mulF_pos _ _ _ hp]; exact (mul_rd _ _ _).symm
    rw [hR]; clear hR
    have k1 := rem_nat' a (pOf f); have k2 := rem_nat' b (pOf f); have k3 := rem_nat' S (pOf f)
    have j1 := rem_nat a (pOf f); have j2 := rem_nat b (pOf f); have j3 := rem_nat S (pOf f)
    have hm := rd_mul_le (a := a) (b := b) hp hle
    have s2 : ((rd (pOf f) a : Nat) : Int) * ((rd (pOf f) b : Nat) : Int) = (S : Int) := by rw [← Int.natCast_mul, ← hS]
    have s1 : IntKind.u64.wrap (((rd (pOf f) a : Nat) : Int) * ((rd (pOf f) b : Nat) : Int)) = (S : Int) := by rw [s2]; exact IntWalk.u64_in _ (by omega)
    have HV := Lib.hid hv; clear hv
    have HS := Lib.hid hS; clear hS
    go_enter Tryd.func49, Tryd.ntmps49
    go_wp2_with (go_at_call 70; refine (rvalid_any _ _).mono ?_; rintro e w' ⟨rfl, rfl⟩; rw [HV.out])
    go_quiet ((go_at_call 72; exact quiet_of_eq (rp_any _ _)))
    go_wp2
    go_ret
    exact ⟨rfl, Drawn.drewN _ _⟩
end Go.Proofs.YtiibcfajcndcnaaDoor

/- The powers and the numbers of the document's own answers for layer 1: what each call returns. -/
namespace Go.Proofs.YtiibcfajcndcnaaDoor
open Go.RowKit
set_option linter.unusedVariables false

theorem rneg_any (f : Int) (a : Nat) (w : World) (ha : a ≤ 18446744073709551615) :
    Calls Tryd.prog 91 #[.int .i64 f, .int .u64 (a : Int)] w fun e w' => e = .returned (.int .u64 ((subF f 0 a : Nat) : Int)) ∧ Drawn w w' := by
  go_enter Tryd.func91, Tryd.ntmps91
  go_wp2_with (go_at_call 76; refine (rsub_any f 0 a _ (by omega) ha).mono ?_; rintro e w1 ⟨rfl, hd⟩)
  go_ret
  exact ⟨rfl, hd⟩

theorem pow_half_even (f : Int) (a n : Nat) (h : n % 2 = 0) : mulF f (powF f a (n / 2)) (powF f a (n / 2)) = powF f a n := by
  rw [← powF_add]; congr 1; omega
theorem pow_half_odd (f : Int) (a n : Nat) (hp : 0 < pOf f) (h : n % 2 = 1) : mulF f (mulF f (powF f a (n / 2)) (powF f a (n / 2))) a = powF f a n := by
  rw [← powF_add, ← mulF_modR f _ a, ← powF_one f a hp, ← powF_add]; congr 1; omega

theorem rpow_any (f : Int) (a : Nat) (ha : a ≤ 18446744073709551615) (k : Nat) : ∀ (n : Nat) (w : World), n < 2 ^ k → n ≤ 18446744073709551615 →
    Calls Tryd.prog 45 #[.int .i64 f, .int .u64 (a : Int), .int .u64 (n : Int)] w fun e w' => e = .returned (.int .u64 ((powF f a n : Nat) : Int)) ∧ Drawn w w' := by
  induction k with
  | zero =>
    intro n w hn _
    obtain rfl : n = 0 := by omega
    cases hv : validB f
    · rw [powF_zero f a 0 ((pOf_zero_iff f).2 hv)]
      have HV := Lib.hid hv; clear hv
      go_enter Tryd.func45, Tryd.ntmps45
      go_wp2_with (go_at_call 70; refine (rvalid_any _ _).mono ?_; rintro e w' ⟨rfl, rfl⟩; rw [HV.out])
      go_ret
      exact ⟨rfl, Drawn.refl _⟩
    · rw [powF_nil f a hv]
      have HV := Lib.hid hv; clear hv
      go_enter Tryd.func45, Tryd.ntmps45
      go_wp2_with (go_at_call 70; refine (rvalid_any _ _).mono ?_; rintro e w' ⟨rfl, rfl⟩; rw [HV.out])
      go_ret
      exact ⟨rfl, Drawn.refl _⟩
  | succ k ih =>
    intro n w hn hn1
    by_cases h0 : n = 0
    · subst h0; exact ih 0 w (Nat.two_pow_pos _) (by omega)
    · cases hv : validB f
      · rw [powF_zero f a n ((pOf_zero_iff f).2 hv)]
        have HV := Lib.hid hv; clear hv
        have HI := Lib.hid ih; clear ih
        go_enter Tryd.func45, Tryd.ntmps45
        go_wp2_with (go_at_call 70; refine (rvalid_any _ _).mono ?_; rintro e w' ⟨rfl, rfl⟩; rw [HV.out])
        go_ret
        exact ⟨rfl, Drawn.refl _⟩
      · have hp := (valid_iff f).1 hv
        have l1 := powF_le f a (n / 2)
        have l2 := mulF_le f (powF f a (n / 2)) (powF f a (n / 2))
        have hz : ((n : Int) == 0) = false := by simp; omega
        have hlt : n / 2 < 2 ^ k := by rw [Nat.pow_succ] at hn; omega
        have hdc : (n : Int) / 2 = ((n / 2 : Nat) : Int) := rfl
        have HI := Lib.hid ih; clear ih
        have HV := Lib.hid hv; clear hv
        have HDC := Lib.hid hdc; clear hdc
        have H0 := Lib.hid h0; clear h0
        rcases Nat.mod_two_eq_zero_or_one n with h2 | h2
        · have he := pow_half_even f a n h2
          have hm : ((n : Int) % 2 == 1) = false := by simp; omega
          have HE := Lib.hid he; clear he
          have H2 := Lib.hid h2; clear h2
          go_enter Tryd.func45, Tryd.ntmps45
          go_wp2_with (first
            | (go_at_call 70; refine (rvalid_any _ _).mono ?_; rintro e w' ⟨rfl, rfl⟩; rw [HV.out])
            | (go_at_call 45; rw [HDC.out]; refine (HI.out (n / 2) _ hlt (by omega)).mono ?_; rintro e w1 ⟨rfl, hd1⟩)
            | (go_at_call 49; refine (rmul_any _ _ _ _ (by omega) (by omega)).mono ?_; rintro e w2 ⟨rfl, hd2⟩))
          go_ret
          exact ⟨ret_nat HE.out, hd1.trans hd2⟩
        · have he := pow_half_odd f a n hp h2
          have hm : ((n : Int) % 2 == 1) = true := by simp; omega
          have HE := Lib.hid he; clear he
          have H2 := Lib.hid h2; clear h2
          go_enter Tryd.func45, Tryd.ntmps45
          go_wp2_with (first
            | (go_at_call 70; refine (rvalid_any _ _).mono ?_; rintro e w' ⟨rfl, rfl⟩; rw [HV.out])
            | (go_at_call 45; rw [HDC.out]; refine (HI.out (n / 2) _ hlt (by omega)).mono ?_; rintro e w1 ⟨rfl, hd1⟩)
            | (go_at_call 49; refine (rmul_any _ _ _ _ (by omega) (by omega)).mono ?_; rintro e w2 ⟨rfl, hd2⟩; have hdd := Drawn.trans (by assumption) hd2))
          go_ret
          exact ⟨ret_nat HE.out, (hd1.trans (by assumption)).trans (by assumption)⟩

theorem rpow_all (f : Int) (a n : Nat) (w : World) (ha : a ≤ 18446744073709551615) (hn : n ≤ 18446744073709551615) :
    Calls Tryd.prog 45 #[.int .i64 f, .int .u64 (a : Int), .int .u64 (n : Int)] w fun e w' => e = .returned (.int .u64 ((powF f a n : Nat) : Int)) ∧ Drawn w w' :=
  rpow_any f a ha 64 n w (by omega) hn

theorem rinv_any (f : Int) (a : Nat) (w : World) (ha : a ≤ 18446744073709551615) :
    Calls Tryd.prog 94 #[.int .i64 f, .int .u64 (a : Int)] w fun e w' => e = .returned (.int .u64 ((invF f a : Nat) : Int)) ∧ Drawn w w' := by
  have hle := pOf_le f
  cases hv : validB f
  · have hz : invF f a = 0 := powF_zero _ _ _ ((pOf_zero_iff f).2 hv)
    rw [hz]; clear hz
    have HV := Lib.hid hv; clear hv
    go_enter Tryd.func94, Tryd.ntmps94
    go_wp2_with (go_at_call 70; refine (rvalid_any _ _).mono ?_; rintro e w' ⟨rfl, rfl⟩; rw [HV.out])
    go_ret
    exact ⟨rfl, Drawn.refl _⟩
  · have hb := big f hv
    have HV := Lib.hid hv; clear hv
    go_enter Tryd.func94, Tryd.ntmps94
    go_wp2_with (first
      | (go_at_call 70; refine (rvalid_any _ _).mono ?_; rintro e w' ⟨rfl, rfl⟩; rw [HV.out])
      | (go_at_call 72; refine (rp_any _ _).mono ?_; rintro e w' ⟨rfl, rfl⟩)
      | (go_at_call 45; rw [show ((pOf f : Nat) : Int) - 2 = ((pOf f - 2 : Nat) : Int) by omega]; refine (rpow_all f a _ _ ha (by omega)).mono ?_; rintro e w1 ⟨rfl, hd1⟩))
    go_ret
    exact ⟨rfl, hd1⟩

theorem rdiv_any (f : Int) (a b : Nat) (w : World) (ha : a ≤ 18446744073709551615) (hb : b ≤ 18446744073709551615) :
    Calls Tryd.prog 80 #[.int .i64 f, .int .u64 (a : Int), .int .u64 (b : Int)] w fun e w' => e = .returned (.int .u64 ((divF f a b : Nat) : Int)) ∧ Drawn w w' := by
  have hi := invF_le f b
  go_enter Tryd.func80, Tryd.ntmps80
  go_wp2_with (first
    | (go_at_call 94; refine (rinv_any _ _ _ hb).mono ?_; rintro e w1 ⟨rfl, hd1⟩)
    | (go_at_call 49; refine (rmul_any _ _ _ _ ha (by omega)).mono ?_; rintro e w2 ⟨rfl, hd2⟩))
  go_ret
  exact ⟨rfl, hd1.trans hd2⟩

end Go.Proofs.YtiibcfajcndcnaaDoor

/- The document's own numbers of a field, Root and Same: what each call returns. -/
namespace Go.Proofs.YtiibcfajcndcnaaDoor
open Go.RowKit
set_option linter.unusedVariables false

theorem rgen_no (f : Int) (w : World) (h : validB f = false) : Calls Tryd.prog 75 #[.int .i64 f] w fun e w' => e = .returned (.int .u64 0) ∧ w = w' := by
  have h4 : ¬ (0 ≤ f ∧ f ≤ 3) := by unfold validB at h; simpa using h
  have t0 : (f == 0) = false := by simp; omega
  have t1 : (f == 1) = false := by simp; omega
  have t2 : (f == 2) = false := by simp; omega
  have t3 : (f == 3) = false := by simp; omega
  clear h h4
  go_enter Tryd.func75, Tryd.ntmps75
  go_wp2
  go_ret
  exact ⟨rfl, rfl⟩
theorem rgen_any (f : Int) (w : World) : Calls Tryd.prog 75 #[.int .i64 f] w fun e w' => e = .returned (.int .u64 ((gOf f : Nat) : Int)) ∧ w = w' := by
  cases hv : validB f
  · have hz : gOf f = 0 := by
      have h4 : ¬ (0 ≤ f ∧ f ≤ 3) := by unfold validB at hv; simpa using hv
      unfold gOf; (repeat' split) <;> omega
    rw [hz]; exact rgen_no f w hv
  · rcases field_cases f hv with rfl | rfl | rfl | rfl
    all_goals
      go_enter Tryd.func75, Tryd.ntmps75
      go_wp2
      go_ret
      exact ⟨rfl, rfl⟩
theorem rtwos_no (f : Int) (w : World) (h : validB f = false) : Calls Tryd.prog 74 #[.int .i64 f] w fun e w' => e = .returned (.int .i64 0) ∧ w = w' := by
  have h4 : ¬ (0 ≤ f ∧ f ≤ 3) := by unfold validB at h; simpa using h
  have t0 : (f == 0) = false := by simp; omega
  have t1 : (f == 1) = false := by simp; omega
  have t2 : (f == 2) = false := by simp; omega
  have t3 : (f == 3) = false := by simp; omega
  clear h h4
  go_enter Tryd.func74, Tryd.ntmps74
  go_wp2
  go_ret
  exact ⟨rfl, rfl⟩
theorem rtwos_any (f : Int) (w : World) : Calls Tryd.prog 74 #[.int .i64 f] w fun e w' => e = .returned (.int .i64 ((twoOf f : Nat) : Int)) ∧ w = w' := by
  cases hv : validB f
  · have hz : twoOf f = 0 := by
      have h4 : ¬ (0 ≤ f ∧ f ≤ 3) := by unfold validB at hv; simpa using hv
      unfold twoOf; (repeat' split) <;> omega
    rw [hz]; exact rtwos_no f w hv
  · rcases field_cases f hv with rfl | rfl | rfl | rfl
    all_goals
      go_enter Tryd.func74, Tryd.ntmps74
      go_wp2
      go_ret
      exact ⟨rfl, rfl⟩

theorem rroot_any (f k : Int) (w : World) :
    Calls Tryd.prog 48 #[.int .i64 f, .int .i64 k] w fun e w' => e = .returned (.int .u64 ((rootF f k : Nat) : Int)) ∧ Drawn w w' := by
  have ht := twoOf_le f
  cases hv : validB f
  · have hr : rootF f k = 0 := by unfold rootF; simp [hv]
    rw [hr]; clear hr
    have HV := Lib.hid hv; clear hv
    go_enter Tryd.func48, Tryd.ntmps48
    go_wp2_with (go_at_call 70; refine (rvalid_any _ _).mono ?_; rintro e w' ⟨rfl, rfl⟩; rw [HV.out])
    go_ret
    exact ⟨rfl, Drawn.refl _⟩
  · have h := (valid_iff f).1 hv
    have hle := pOf_le f
    have hg := gOf_le f
    by_cases h0 : k < 0
    · have hr : rootF f k = 0 := by unfold rootF; rw [if_neg]; omega
      rw [hr]; clear hr
      have HV := Lib.hid hv; clear hv
      go_enter Tryd.func48, Tryd.ntmps48
      go_wp2_with (go_at_call 70; refine (rvalid_any _ _).mono ?_; rintro e w' ⟨rfl, rfl⟩; rw [HV.out])
      go_ret
      exact ⟨rfl, Drawn.refl _⟩
    · have h0' : 0 ≤ k := by omega
      by_cases h1 : (twoOf f : Int) < k
      · have hr : rootF f k = 0 := by unfold rootF; rw [if_neg]; omega
        rw [hr]; clear hr
        have HV := Lib.hid hv; clear hv
        go_enter Tryd.func48, Tryd.ntmps48
        go_wp2_with (first
          | (go_at_call 70; refine (rvalid_any _ _).mono ?_; rintro e w' ⟨rfl, rfl⟩; rw [HV.out])
          | (go_at_call 74; refine (rtwos_any _ _).mono ?_; rintro e w1 ⟨rfl, rfl⟩))
        go_ret
        exact ⟨rfl, Drawn.refl _⟩
      · have h1' : k ≤ (twoOf f : Int) := by omega
        obtain ⟨K, rfl⟩ : ∃ K : Nat, k = (K : Int) := ⟨k.toNat, by omega⟩
        have hr : rootF f K = powF f (gOf f) ((pOf f - 1) / 2 ^ K) := by unfold rootF; rw [if_pos ⟨hv, h0', h1'⟩]; rfl
        rw [hr]; clear hr
        have h23 : K ≤ 23 := by omega
        have hb := big f hv
        have HV := Lib.hid hv; clear hv
        go_enter Tryd.func48, Tryd.ntmps48
        go_wp2_with (first
          | (go_at_call 70; refine (rvalid_any _ _).mono ?_; rintro e w' ⟨rfl, rfl⟩; rw [HV.out])
          | (go_at_call 74; refine (rtwos_any _ _).mono ?_; rintro e w1 ⟨rfl, rfl⟩)
          | (go_at_call 72; refine (rp_any _ _).mono ?_; rintro e w' ⟨rfl, rfl⟩))
        go_loop [5, 6] (fun vn vi => ∃ i N : Nat, i ≤ K ∧ vi = .int .i64 i ∧ vn = .int .u64 (N : Int) ∧ N ≤ 998244353 ∧ Hid (N = (pOf f - 1) / 2 ^ i)) (fun _ vi => K - (intOf vi).toNat)
        case atStart => exact ⟨0, pOf f - 1, by omega, rfl, by simp; omega, by omega, Lib.hid (by simp)⟩
        case round =>
          obtain ⟨i, N, hi, rfl, rfl, hN, HN⟩ := hrel
          by_cases hlt : i < K
          · go_wp2
            go_round
            case rel => exact ⟨i + 1, N / 2, by omega, by go_num, rfl, by omega, by unfold Hid; rw [HN.out, Nat.pow_succ, Nat.div_div_eq_div_mul]⟩
            case measure => simp [intOf]; omega
          · obtain rfl : i = K := by omega
            go_wp2_with (first
              | (go_at_call 75; refine (rgen_any _ _).mono ?_; rintro e w' ⟨rfl, rfl⟩)
              | (go_at_call 45; refine (rpow_all _ _ _ _ (by omega) (by omega)).mono ?_; rintro e w1 ⟨rfl, hd1⟩))
            go_ret
            exact ⟨ret_nat (by rw [HN.out]), hd1⟩

set_option maxHeartbeats 400000 in
theorem rsame_any (l m : List Nat) (v v' : Value) (w : World) (hR : Reads w v l) (hR' : Reads w v' m) :
    Calls Tryd.prog 25 #[v, v'] w fun e w' => e = .returned (.bool (decide (l = m))) ∧ ∃ n, w' = w.drewN n := by
  by_cases hlen : l.length = m.length
  · obtain ⟨hU, hL, ⟨rfl, a, cap, rfl⟩ | ⟨b, off, cap, rfl, hc⟩⟩ := hR
    · obtain rfl : m = [] := List.length_eq_zero_iff.1 hlen.symm
      obtain ⟨hU', hL', ⟨_, a', cap', rfl⟩ | ⟨b', off', cap', rfl, hc'⟩⟩ := hR'
      all_goals
        try clear hc'
        go_enter Tryd.func25, Tryd.ntmps25
        go_wp2
        go_rounds 1
        go_ret
        exact ⟨rfl, 0, rfl⟩
    · obtain ⟨hU', hL', ⟨rfl, a', cap', rfl⟩ | ⟨b', off', cap', rfl, hc'⟩⟩ := hR'
      · obtain rfl : l = [] := List.length_eq_zero_iff.1 hlen
        clear hc
        go_enter Tryd.func25, Tryd.ntmps25
        go_wp2
        go_rounds 1
        go_ret
        exact ⟨rfl, 0, rfl⟩
      · have hle1 : l.length ≤ m.length := by omega
        have hne : ((l.length : Int) == (m.length : Int)) = true := by simp; omega
        have HL := Lib.hid hlen; clear hlen
        go_enter Tryd.func25, Tryd.ntmps25
        go_hidden (go_wp2)
        go_loopw [5] (fun vi wr => ∃ k n : Nat, k ≤ l.length ∧ vi = .int .i64 k ∧ Hid (l.take k = m.take k) ∧ Hid (wr = w.drewN n)) (fun vi _ => l.length - (intOf vi).toNat)
        case atStart => exact ⟨0, 0, Nat.zero_le _, rfl, Lib.hid rfl, Lib.hid rfl⟩
        case round =>
          obtain ⟨k, n, hk, rfl, HT, HW⟩ := hrel
          by_cases hlt : k < l.length
          · have hcell : wr.cell? ⟨b, off + k, none⟩ = some (.int .u64 ((l.getD k 0 : Nat) : Int)) := by rw [HW.out]; exact hc k hlt
            have hcell' : wr.cell? ⟨b', off' + k, none⟩ = some (.int .u64 ((m.getD k 0 : Nat) : Int)) := by rw [HW.out]; exact hc' k (by omega)
            have hlt' : k < m.length := by omega
            have hstep := fun hx => take_eq_succ HT.out hlt hlt' hx
            have hno : l.getD k 0 ≠ m.getD k 0 → l ≠ m := fun h e => h (by rw [e])
            have HS := Lib.hid hstep; clear hstep
            have HN := Lib.hid hno; clear hno
            clear hc hc' hU hU'
            generalize l.getD k 0 = x at hcell HS HN
            generalize m.getD k 0 = y at hcell' HS HN
            by_cases hxy : x = y
            · have hne2 : (((x : Nat) : Int) != ((y : Nat) : Int)) = false := by simp [hxy]
              have HT2 := Lib.hid (HS.out hxy)
              have HXY := Lib.hid hxy; clear hxy
              go_wp2
              go_quiet (fail)
              go_wp2
              go_roundw
              case rel => exact ⟨k + 1, n + nq, by omega, by go_num, HT2, by unfold Hid; rw [HW.out]; exact World.drewN_drewN _ _ _⟩
              case measure => simp [intOf]; omega
            · have hne2 : (((x : Nat) : Int) != ((y : Nat) : Int)) = true := by simp; omega
              have HD : Hid (decide (l = m) = false) := by unfold Hid; simpa using HN.out hxy
              have HXY := Lib.hid hxy; clear hxy
              go_wp2
              go_quiet (fail)
              go_wp2
              go_ret
              exact ⟨ret_bool HD.out.symm, n + nq, by rw [HW.out]; exact World.drewN_drewN _ _ _⟩
          · obtain rfl : k = l.length := by omega
            have HE : Hid (decide (l = m) = true) := by
              unfold Hid; have h := HT.out; have h2 := HL.out; rw [List.take_length, h2, List.take_length] at h; simpa using h
            clear hc hc' hU hU'
            go_wp2
            go_ret
            exact ⟨ret_bool HE.out.symm, n, HW.out⟩
  · have hd : decide (l = m) = false := by simp; intro h; exact hlen (by rw [h])
    have HD := Lib.hid hd; clear hd
    have hne : ((l.length : Int) == (m.length : Int)) = false := by simp; omega
    have hL := hR.2.1
    have hL' := hR'.2.1
    obtain ⟨a, cap, rfl⟩ : ∃ a cap, v = .slice a l.length cap := by
      rcases hR.2.2 with ⟨rfl, a, cap, rfl⟩ | ⟨b, off, cap, rfl, _⟩
      · exact ⟨_, _, rfl⟩
      · exact ⟨_, _, rfl⟩
    obtain ⟨a', cap', rfl⟩ : ∃ a cap, v' = .slice a m.length cap := by
      rcases hR'.2.2 with ⟨rfl, a, cap, rfl⟩ | ⟨b, off, cap, rfl, _⟩
      · exact ⟨_, _, rfl⟩
      · exact ⟨_, _, rfl⟩
    clear hR hR'
    have HL := Lib.hid hlen; clear hlen
    go_enter Tryd.func25, Tryd.ntmps25
    go_wp2
    go_ret
    exact ⟨ret_bool HD.out.symm, 0, rfl⟩
end Go.Proofs.YtiibcfajcndcnaaDoor
