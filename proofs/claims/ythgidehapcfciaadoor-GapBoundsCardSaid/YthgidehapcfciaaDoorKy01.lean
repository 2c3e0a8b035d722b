/- The calls of the document's own answers for layer 1: what each returns; they only draw orders. -/
import Derived.Test.YthgidehapcfciaaDoorKx03
import Derived.BigQuiet
import Derived.Test.YthgidehapcfciaaDoorKx01
set_option linter.unusedSimpArgs false
set_option linter.unusedVariables false
/- The calls of the document's own answers for layer 1: what each returns; they only draw orders. -/
namespace Go.Proofs.YthgidehapcfciaaDoor
open Go.RowKit
set_option linter.unusedVariables false

/-- The world has at most drawn orders. -/
def Drawn (w w' : World) : Prop := ∃ n, w' = w.drewN n
theorem Drawn.refl (w : World) : Drawn w w := ⟨0, rfl⟩
theorem Drawn.drewN (w : World) (n : Nat) : Drawn w (w.drewN n) := ⟨n, rfl⟩
theorem Drawn.trans {a b c : World} (h : Drawn a b) (k : Drawn b c) : Drawn a c := by
  obtain ⟨n, rfl⟩ := h; obtain ⟨m, rfl⟩ := k; exact ⟨n + m, World.drewN_drewN _ _ _⟩
theorem Drawn.on {W w w' : World} (h : Drawn w w') (hW : On W w) : On W w' := by obtain ⟨n, rfl⟩ := h; exact hW.drewN n
theorem quiet_of_drawn {P : Program} {f : FuncId} {args : Array Value} {w : World} {n : Nat} {v : Value}
    (h : Calls P f args (w.drewN n) fun e w' => e = .returned v ∧ Drawn (w.drewN n) w') : Calls P f args (w.drewN n) fun e w'' => e = .returned v ∧ ∃ m, w'' = w.drewN m :=
  h.mono fun _ _ ⟨he, hm⟩ => ⟨he, (Drawn.drewN w n).trans hm⟩

theorem rvalid_any (f : Int) (w : World) : Calls Tryd.prog 39 #[.int .i64 f] w fun e w' => e = .returned (.bool (validB f)) ∧ w = w' := by
  by_cases h : 0 ≤ f ∧ f ≤ 3
  · have hv : validB f = true := by unfold validB; simp [h]
    rw [hv]
    obtain ⟨h0, h1⟩ := h
    go_enter Tryd.func39, Tryd.ntmps39
    go_wp2
    go_ret
    exact ⟨rfl, rfl⟩
  · have hv : validB f = false := by unfold validB; simp; omega
    rw [hv]
    have h2 : ¬ (0 ≤ f) ∨ (0 ≤ f ∧ ¬ f ≤ 3) := by omega
    rcases h2 with h2 | ⟨h2, h3⟩
    all_goals
      go_enter Tryd.func39, Tryd.ntmps39
      go_wp2
      go_ret
      exact ⟨by simp <;> omega, rfl⟩
theorem fcases (f : Int) : f = 0 ∨ f = 1 ∨ f = 2 ∨ f = 3 ∨ (f ≠ 0 ∧ f ≠ 1 ∧ f ≠ 2 ∧ f ≠ 3) := by omega
theorem rp_no (f : Int) (w : World) (h : validB f = false) : Calls Tryd.prog 42 #[.int .i64 f] w fun e w' => e = .returned (.int .u64 0) ∧ w = w' := by
  have h4 : ¬ (0 ≤ f ∧ f ≤ 3) := by unfold validB at h; simpa using h
  have t0 : (f == 0) = false := by simp; omega
  have t1 : (f == 1) = false := by simp; omega
  have t2 : (f == 2) = false := by simp; omega
  have t3 : (f == 3) = false := by simp; omega
  clear h h4
  go_enter Tryd.func42, Tryd.ntmps42
  go_wp2
  go_ret
  exact ⟨rfl, rfl⟩
theorem rp_any (f : Int) (w : World) : Calls Tryd.prog 42 #[.int .i64 f] w fun e w' => e = .returned (.int .u64 ((pOf f : Nat) : Int)) ∧ w = w' := by
  cases hv : validB f
  · have hz : pOf f = 0 := by
      have h4 : ¬ (0 ≤ f ∧ f ≤ 3) := by unfold validB at hv; simpa using hv
      unfold pOf; (repeat' split) <;> omega
    rw [hz]; exact rp_no f w hv
  · rcases field_cases f hv with rfl | rfl | rfl | rfl
    all_goals
      go_enter Tryd.func42, Tryd.ntmps42
      go_wp2
      go_ret
      exact ⟨rfl, rfl⟩
theorem rem_nat (a p : Nat) : ((a : Int)).tmod ((p : Nat) : Int) = ((rd p a : Nat) : Int) := by
  rw [Int.tmod_eq_emod_of_nonneg (by omega)]; rfl
theorem rem_nat' (a p : Nat) : (a : Int) % ((p : Nat) : Int) = ((rd p a : Nat) : Int) := rfl

set_option maxHeartbeats 400000 in
theorem radd_any (f : Int) (a b : Nat) (w : World) (ha : a ≤ 18446744073709551615) (hb : b ≤ 18446744073709551615) :
    Calls Tryd.prog 65 #[.int .i64 f, .int .u64 (a : Int), .int .u64 (b : Int)] w fun e w' => e = .returned (.int .u64 ((addF f a b : Nat) : Int)) ∧ Drawn w w' := by
  cases hv : validB f
  · rw [addF_zero f a b ((pOf_zero_iff f).2 hv)]
    have HV := Lib.hid hv; clear hv
    go_enter Tryd.func65, Tryd.ntmps65
    go_wp2_with (go_at_call 39; refine (rvalid_any _ _).mono ?_; rintro e w' ⟨rfl, rfl⟩; rw [HV.out])
    go_ret
    exact ⟨rfl, Drawn.refl _⟩
  · have hp := (valid_iff f).1 hv
    have hle := pOf_le f
    have l1 := rd_lt (pOf f) a hp
    have l2 := rd_lt (pOf f) b hp
    obtain ⟨S, hS⟩ : ∃ S : Nat, S = rd (pOf f) a + rd (pOf f) b := ⟨_, rfl⟩
    have hR : addF f a b = rd (pOf f) S := by rw [hS]; rw [addF_pos _ _ _ hp]; exact Nat.add_mod _ _ _
    rw [hR]; clear hR
    have k1 := rem_nat' a (pOf f); have k2 := rem_nat' b (pOf f); have k3 := rem_nat' S (pOf f)
    have j1 := rem_nat a (pOf f); have j2 := rem_nat b (pOf f); have j3 := rem_nat S (pOf f)
    have s1 : IntKind.u64.wrap (((rd (pOf f) a : Nat) : Int) + ((rd (pOf f) b : Nat) : Int)) = (S : Int) := by rw [← Int.natCast_add, ← hS]; exact IntWalk.u64_in _ (by omega)
    have s2 : ((rd (pOf f) a : Nat) : Int) + ((rd (pOf f) b : Nat) : Int) = (S : Int) := by omega
    have HV := Lib.hid hv; clear hv
    have HS := Lib.hid hS; clear hS
    go_enter Tryd.func65, Tryd.ntmps65
    go_wp2_with (go_at_call 39; refine (rvalid_any _ _).mono ?_; rintro e w' ⟨rfl, rfl⟩; rw [HV.out])
    go_quiet ((go_at_call 42; exact quiet_of_eq (rp_any _ _)))
    go_wp2
    go_ret
    exact ⟨rfl, Drawn.drewN _ _⟩

set_option maxHeartbeats 400000 in
theorem rmul_any (f : Int) (a b : Nat) (w : World) (ha : a ≤ 18446744073709551615) (hb : b ≤ 18446744073709551615) :
    Calls Tryd.prog 58 #[.int .i64 f, .int .u64 (a : Int), .int .u64 (b : Int)] w fun e w' => e = .returned (.int .u64 ((mulF f a b : Nat) : Int)) ∧ Drawn w w' := by
  cases hv : validB f
  · rw [mulF_zero f a b ((pOf_zero_iff f).2 hv)]
    have HV := Lib.hid hv; clear hv
    go_enter Tryd.func58, Tryd.ntmps58
    go_wp2_with (go_at_call 39; refine (rvalid_any _ _).mono ?_; rintro e w' ⟨rfl, rfl⟩; rw [HV.out])
    go_ret
    exact ⟨rfl, Drawn.refl _⟩
  · have hp := (valid_iff f).1 hv
    have hle := pOf_le f
    have l1 := rd_lt (pOf f) a hp
    have l2 := rd_lt (pOf f) b hp
    obtain ⟨S, hS⟩ : ∃ S : Nat, S = rd (pOf f) a * rd (pOf f) b := ⟨_, rfl⟩
    have hR : mulF f a b = rd (pOf f) S := by rw [hS]; rw [mulF_pos _ _ _ hp]; exact (mul_rd _ _ _).symm
    rw [hR]; clear hR
    have k1 := rem_nat' a (pOf f); have k2 := rem_nat' b (pOf f); have k3 := rem_nat' S (pOf f)
    have j1 := rem_nat a (pOf f); have j2 := rem_nat b (pOf f); have j3 := rem_nat S (pOf f)
    have hm := rd_mul_le (a := a) (b := b) hp hle
    have s2 : ((rd (pOf f) a : Nat) : Int) * ((rd (pOf f) b : Nat) : Int) = (S : Int) := by rw [← Int.natCast_mul, ← hS]
    have s1 : IntKind.u64.wrap (((rd (pOf f) a : Nat) : Int) * ((rd (pOf f) b : Nat) : Int)) = (S : Int) := by rw [s2]; exact IntWalk.u64_in _ (by omega)
    have HV := Lib.hid hv; clear hv
    have HS := Lib.hid hS; clear hS
    go_enter Tryd.func58, Tryd.ntmps58
    go_wp2_with (go_at_call 39; refine (rvalid_any _ _).mono ?_; rintro e w' ⟨rfl, rfl⟩; rw [HV.out])
    go_quiet ((go_at_call 42; exact quiet_of_eq (rp_any _ _)))
    go_wp2
    go_ret
    exact ⟨rfl, Drawn.drewN _ _⟩
end Go.Proofs.YthgidehapcfciaaDoor
