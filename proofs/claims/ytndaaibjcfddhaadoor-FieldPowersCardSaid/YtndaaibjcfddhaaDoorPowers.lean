/- The walk of the law FieldPowers: it returns true. -/
import Derived.Test.YtndaaibjcfddhaaDoorRing
import Derived.Deep.RegionWith
namespace Go.Proofs.YtndaaibjcfddhaaDoor
open Go.RowKit
set_option linter.unusedVariables false

def backOf (X : Int) : Nat := if X = 0 then 77 else if X = 1 then 171 else if X = 2 then 7373 else 665496235
theorem back_le (X : Int) : backOf X ≤ 665496235 := by unfold backOf; (repeat' split) <;> omega
theorem back_run (X : Int) (hv : validB X = true) (w : World) :
    (Instr.index 44 (.agg #[.int .u64 77, .int .u64 171, .int .u64 7373, .int .u64 665496235]) (.int .i64 X)).run Tryd.prog w = .ok (.int .u64 ((backOf X : Nat) : Int)) w := by
  rcases field_cases X hv with rfl | rfl | rfl | rfl <;> kernel_rfl
theorem pow_back (X : Int) (a : Nat) (hv : validB X = true) : powF X (powF X a (expOf X)) (backOf X) = a % pOf X := by
  rw [powF_mul, ← powF_round X a ((expOf X * backOf X - 1) / (pOf X - 1)) hv]
  congr 1
  rcases field_cases X hv with rfl | rfl | rfl | rfl <;> decide

set_option maxHeartbeats 1000000 in
set_option maxRecDepth 100000 in
theorem powers_zero (X : Int) (A a m n : Nat) (W w : World) (hW : On W w) (hv : validB X = true) (hA : (A : Int) % 4 = X) (hA1 : A ≤ 255) (ha : a ≤ 18446744073709551615) (hm : m ≤ 18446744073709551615) (hn : n ≤ 18446744073709551615) (hz : a % pOf X = 0) :
    Calls Tryd.prog 7 #[.int .u8 (A : Int), .int .u64 (a : Int), .int .u64 (m : Int), .int .u64 (n : Int)] w fun e w' => e = .returned (.bool true) ∧ On W w' := by
  obtain ⟨hX0, hX3⟩ := valid_range hv
  have hp := (valid_iff X).1 hv
  have hbig := big X hv
  have hle := pOf_le X
  have hbk := back_le X
  have hex := expOf_le X
  have e0 := eq0_pos hp
  have hidx := fun w => back_run X hv w
  obtain ⟨M, hM⟩ : ∃ M : Nat, (m : Int) % 2147483648 = (M : Int) := ⟨m % 2147483648, by omega⟩
  obtain ⟨N, hN⟩ : ∃ N : Nat, (n : Int) % 2147483648 = (N : Int) := ⟨n % 2147483648, by omega⟩
  have hMle : M ≤ 2147483647 := by omega
  have hNle : N ≤ 2147483647 := by omega
  obtain ⟨S, hS⟩ : ∃ S : Nat, S = M + N := ⟨_, rfl⟩
  obtain ⟨Q, hQ⟩ : ∃ Q : Nat, Q = M * N := ⟨_, rfl⟩
  have hQle : Q ≤ 4611686014132420609 := by rw [hQ]; exact Nat.le_trans (Nat.mul_le_mul hMle hNle) (by decide)
  have hS1 : (M : Int) + (N : Int) = (S : Int) := by omega
  have hQ1 : IntKind.u64.wrap ((M : Int) * (N : Int)) = (Q : Int) := by rw [← Int.natCast_mul, ← hQ]; exact IntWalk.u64_in _ (by omega)
  have hQ2 : (M : Int) * (N : Int) = (Q : Int) := by rw [← Int.natCast_mul, ← hQ]
  have e1 : powF X a S = mulF X (powF X a M) (powF X a N) := by rw [hS, powF_add]
  have e2 : powF X (powF X a M) N = powF X a Q := by rw [hQ, powF_mul]
  obtain ⟨R, hR⟩ : ∃ R : Nat, R = pOf X - 1 := ⟨_, rfl⟩
  have hR1 : ((pOf X : Nat) : Int) - 1 = (R : Int) := by omega
  have hRle : R ≤ 998244353 := by omega
  have hSle : S ≤ 4294967294 := by omega
  have e4 : ((powF X (powF X a (expOf X)) (backOf X) : Nat) : Int) = (a : Int) % ((pOf X : Nat) : Int) := by rw [pow_back X a hv]; rfl
  have l1 := powF_le X a M; have l2 := powF_le X a N; have l3 := powF_le X a S; have l4 := powF_le X a (expOf X)
  have hT := hW.tab
  have HV := Lib.hid hv; clear hv
  have HQ := Lib.hid hQ; clear hQ
  have HS := Lib.hid hS; clear hS
  have HR := Lib.hid hR; clear hR
  have z1 : ((((a : Int) % ((pOf X : Nat) : Int))) != 0) = false := by rw [← cast_mod, hz]; rfl
  have HZ := Lib.hid hz; clear hz
  go_enter Tryd.func7, Tryd.ntmps7
  go_wp2_with (first
    | (go_at_call 14; refine (p_any _ _ hT).mono ?_; rintro e w' ⟨rfl, rfl⟩)
    | (go_at_call 40; refine (pow_any _ _ _ _ hT (by omega) (by omega)).mono ?_; rintro e w' ⟨rfl, rfl⟩)
    | (go_at_call 32; refine (mul_any _ _ _ _ hT (by omega) (by omega)).mono ?_; rintro e w' ⟨rfl, rfl⟩))
  have b1 : expOf X ≤ 18446744073709551615 := by omega
  have b2 : powF X a (expOf X) ≤ 18446744073709551615 := by omega
  have b3 : backOf X ≤ 18446744073709551615 := by omega
  have w1e : IntKind.u64.wrap ((expOf X : Nat) : Int) = ((expOf X : Nat) : Int) := IntWalk.u64_in _ (by omega)
  have w2e : ((a : Int)).tmod ((pOf X : Nat) : Int) = (a : Int) % ((pOf X : Nat) : Int) := IntWalk.rem_in _ _ (by omega)
  go_region_with (first
    | (go_at_call 20; refine (exp_any X W _ (by first | assumption | exact On.drew (by assumption))).mono ?_; rintro e w1 ⟨rfl, hW1⟩)
    | (go_at_call 40; ((with_reducible refine (pow_any X a (expOf X) _ (On.tab (W := W) (by first | assumption | exact On.drew (by assumption))) ha b1).mono ?_)); rintro e w' ⟨rfl, rfl⟩)
    | (go_at_call 40; ((with_reducible refine (pow_any X (powF X a (expOf X)) (backOf X) _ (On.tab (W := W) (by first | assumption | exact On.drew (by assumption))) b2 b3).mono ?_)); rintro e w' ⟨rfl, rfl⟩)
    | (go_at_call 42; refine (works_any W _ (by first | assumption | exact On.drew (by assumption))).mono ?_; rintro e w2 ⟨rfl, hW2⟩))
  all_goals go_wp2
  all_goals go_ret
  all_goals exact ⟨rfl, by first | assumption | exact On.drew (by assumption)⟩

set_option maxHeartbeats 1000000 in
set_option maxRecDepth 100000 in
theorem powers_unit (X : Int) (A a m n : Nat) (W w : World) (hW : On W w) (hv : validB X = true) (hA : (A : Int) % 4 = X) (hA1 : A ≤ 255) (ha : a ≤ 18446744073709551615) (hm : m ≤ 18446744073709551615) (hn : n ≤ 18446744073709551615) (hz : a % pOf X ≠ 0) :
    Calls Tryd.prog 7 #[.int .u8 (A : Int), .int .u64 (a : Int), .int .u64 (m : Int), .int .u64 (n : Int)] w fun e w' => e = .returned (.bool true) ∧ On W w' := by
  obtain ⟨hX0, hX3⟩ := valid_range hv
  have hp := (valid_iff X).1 hv
  have hbig := big X hv
  have hle := pOf_le X
  have hbk := back_le X
  have hex := expOf_le X
  have e0 := eq0_pos hp
  have hidx := fun w => back_run X hv w
  obtain ⟨M, hM⟩ : ∃ M : Nat, (m : Int) % 2147483648 = (M : Int) := ⟨m % 2147483648, by omega⟩
  obtain ⟨N, hN⟩ : ∃ N : Nat, (n : Int) % 2147483648 = (N : Int) := ⟨n % 2147483648, by omega⟩
  have hMle : M ≤ 2147483647 := by omega
  have hNle : N ≤ 2147483647 := by omega
  obtain ⟨S, hS⟩ : ∃ S : Nat, S = M + N := ⟨_, rfl⟩
  obtain ⟨Q, hQ⟩ : ∃ Q : Nat, Q = M * N := ⟨_, rfl⟩
  have hQle : Q ≤ 4611686014132420609 := by rw [hQ]; exact Nat.le_trans (Nat.mul_le_mul hMle hNle) (by decide)
  have hS1 : (M : Int) + (N : Int) = (S : Int) := by omega
  have hQ1 : IntKind.u64.wrap ((M : Int) * (N : Int)) = (Q : Int) := by rw [← Int.natCast_mul, ← hQ]; exact IntWalk.u64_in _ (by omega)
  have hQ2 : (M : Int) * (N : Int) = (Q : Int) := by rw [← Int.natCast_mul, ← hQ]
  have e1 : powF X a S = mulF X (powF X a M) (powF X a N) := by rw [hS, powF_add]
  have e2 : powF X (powF X a M) N = powF X a Q := by rw [hQ, powF_mul]
  obtain ⟨R, hR⟩ : ∃ R : Nat, R = pOf X - 1 := ⟨_, rfl⟩
  have hR1 : ((pOf X : Nat) : Int) - 1 = (R : Int) := by omega
  have hRle : R ≤ 998244353 := by omega
  have hSle : S ≤ 4294967294 := by omega
  have e4 : ((powF X (powF X a (expOf X)) (backOf X) : Nat) : Int) = (a : Int) % ((pOf X : Nat) : Int) := by rw [pow_back X a hv]; rfl
  have l1 := powF_le X a M; have l2 := powF_le X a N; have l3 := powF_le X a S; have l4 := powF_le X a (expOf X)
  have hT := hW.tab
  have HV := Lib.hid hv; clear hv
  have HQ := Lib.hid hQ; clear hQ
  have HS := Lib.hid hS; clear hS
  have HR := Lib.hid hR; clear hR
  have z1 : ((((a : Int) % ((pOf X : Nat) : Int))) != 0) = true := by rw [← cast_mod]; simp only [bne_iff_ne, ne_eq]; omega
  have e3 : powF X a R = 1 := by rw [HR.out]; exact powF_fermat X a HV.out hz
  have HZ := Lib.hid hz; clear hz
  go_enter Tryd.func7, Tryd.ntmps7
  go_wp2_with (first
    | (go_at_call 14; refine (p_any _ _ hT).mono ?_; rintro e w' ⟨rfl, rfl⟩)
    | (go_at_call 40; refine (pow_any _ _ _ _ hT (by omega) (by omega)).mono ?_; rintro e w' ⟨rfl, rfl⟩)
    | (go_at_call 32; refine (mul_any _ _ _ _ hT (by omega) (by omega)).mono ?_; rintro e w' ⟨rfl, rfl⟩))
  have b1 : expOf X ≤ 18446744073709551615 := by omega
  have b2 : powF X a (expOf X) ≤ 18446744073709551615 := by omega
  have b3 : backOf X ≤ 18446744073709551615 := by omega
  have w1e : IntKind.u64.wrap ((expOf X : Nat) : Int) = ((expOf X : Nat) : Int) := IntWalk.u64_in _ (by omega)
  have w2e : ((a : Int)).tmod ((pOf X : Nat) : Int) = (a : Int) % ((pOf X : Nat) : Int) := IntWalk.rem_in _ _ (by omega)
  go_region_with (first
    | (go_at_call 20; refine (exp_any X W _ (by first | assumption | exact On.drew (by assumption))).mono ?_; rintro e w1 ⟨rfl, hW1⟩)
    | (go_at_call 40; ((with_reducible refine (pow_any X a (expOf X) _ (On.tab (W := W) (by first | assumption | exact On.drew (by assumption))) ha b1).mono ?_)); rintro e w' ⟨rfl, rfl⟩)
    | (go_at_call 40; ((with_reducible refine (pow_any X (powF X a (expOf X)) (backOf X) _ (On.tab (W := W) (by first | assumption | exact On.drew (by assumption))) b2 b3).mono ?_)); rintro e w' ⟨rfl, rfl⟩)
    | (go_at_call 42; refine (works_any W _ (by first | assumption | exact On.drew (by assumption))).mono ?_; rintro e w2 ⟨rfl, hW2⟩))
  all_goals go_wp2
  all_goals go_ret
  all_goals exact ⟨rfl, by first | assumption | exact On.drew (by assumption)⟩

end Go.Proofs.YtndaaibjcfddhaaDoor
