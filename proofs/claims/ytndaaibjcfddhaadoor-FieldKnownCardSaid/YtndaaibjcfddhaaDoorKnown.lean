/- The walk of the law FieldKnown: it returns true. -/
import Derived.Test.YtndaaibjcfddhaaDoorWorks
namespace Go.Proofs.YtndaaibjcfddhaaDoor
open Go.RowKit
set_option linter.unusedVariables false

theorem i_inv (f a : Int) (w : World) (hT : Tab w) (h0 : 0 ≤ a) (h1 : a ≤ 18446744073709551615) : Calls Tryd.prog 36 #[.int .i64 f, .int .u64 a] w fun e w' => e = .returned (.int .u64 ((invF f a.toNat : Nat) : Int)) ∧ w = w' := by
  obtain ⟨n, rfl⟩ : ∃ n : Nat, a = n := ⟨a.toNat, by omega⟩
  exact inv_any f n w hT (by omega)
theorem i_neg (f a : Int) (w : World) (hT : Tab w) (h0 : 0 ≤ a) (h1 : a ≤ 18446744073709551615) : Calls Tryd.prog 34 #[.int .i64 f, .int .u64 a] w fun e w' => e = .returned (.int .u64 ((subF f 0 a.toNat : Nat) : Int)) ∧ w = w' := by
  obtain ⟨n, rfl⟩ : ∃ n : Nat, a = n := ⟨a.toNat, by omega⟩
  exact neg_any f n w hT (by omega)
theorem i_order (f a : Int) (W w : World) (hW : On W w) (h0 : 0 ≤ a) (h1 : a ≤ 18446744073709551615) : Calls Tryd.prog 45 #[.int .i64 f, .int .u64 a] w fun e w' => e = .returned (.int .u64 ((ordF f a.toNat : Nat) : Int)) ∧ On W w' := by
  obtain ⟨n, rfl⟩ : ∃ n : Nat, a = n := ⟨a.toNat, by omega⟩
  exact order_any f n W w hW (by omega)
theorem i_pow (f a b : Int) (w : World) (hT : Tab w) (h0 : 0 ≤ a) (h1 : a ≤ 18446744073709551615) (h2 : 0 ≤ b) (h3 : b ≤ 18446744073709551615) : Calls Tryd.prog 40 #[.int .i64 f, .int .u64 a, .int .u64 b] w fun e w' => e = .returned (.int .u64 ((powF f a.toNat b.toNat : Nat) : Int)) ∧ w = w' := by
  obtain ⟨n, rfl⟩ : ∃ n : Nat, a = n := ⟨a.toNat, by omega⟩
  obtain ⟨m, rfl⟩ : ∃ n : Nat, b = n := ⟨b.toNat, by omega⟩
  exact pow_any f n m w hT (by omega) (by omega)
theorem i_mul (f a b : Int) (w : World) (hT : Tab w) (h0 : 0 ≤ a) (h1 : a ≤ 18446744073709551615) (h2 : 0 ≤ b) (h3 : b ≤ 18446744073709551615) : Calls Tryd.prog 32 #[.int .i64 f, .int .u64 a, .int .u64 b] w fun e w' => e = .returned (.int .u64 ((mulF f a.toNat b.toNat : Nat) : Int)) ∧ w = w' := by
  obtain ⟨n, rfl⟩ : ∃ n : Nat, a = n := ⟨a.toNat, by omega⟩
  obtain ⟨m, rfl⟩ : ∃ n : Nat, b = n := ⟨b.toNat, by omega⟩
  exact mul_any f n m w hT (by omega) (by omega)
theorem i_add (f a b : Int) (w : World) (hT : Tab w) (h0 : 0 ≤ a) (h1 : a ≤ 18446744073709551615) (h2 : 0 ≤ b) (h3 : b ≤ 18446744073709551615) : Calls Tryd.prog 28 #[.int .i64 f, .int .u64 a, .int .u64 b] w fun e w' => e = .returned (.int .u64 ((addF f a.toNat b.toNat : Nat) : Int)) ∧ w = w' := by
  obtain ⟨n, rfl⟩ : ∃ n : Nat, a = n := ⟨a.toNat, by omega⟩
  obtain ⟨m, rfl⟩ : ∃ n : Nat, b = n := ⟨b.toNat, by omega⟩
  exact add_any f n m w hT (by omega) (by omega)
theorem k_none (W w : World) (B : Nat) (hW : On W w) (hB : w.heap[B]? = some (.cells #[.int .u64 1] 22 (0, 0))) :
    Calls Tryd.prog 47 #[.int .i64 4, .slice (some ⟨B, 0, none⟩) 1 1] w fun r w' => r = .returned (.slice none 0 0) ∧ On W w' :=
  (invs_any 4 [1] _ W w hW (reads_at _ B [1] 1 _ hB rfl (by decide) (by decide)) (by decide)).mono fun r w' ⟨h2, _, h3⟩ => ⟨h2 (by decide), h3⟩
theorem k_nil (w : World) (hT : Tab w) : Calls Tryd.prog 50 #[.int .i64 2, .slice none 0 0] w fun r w' => r = .returned (.int .u64 0) ∧ w = w' :=
  (sum_any 2 [] _ w hT ⟨by simp, by simp, .inl ⟨rfl, none, 0, rfl⟩⟩)

theorem root_tab : (rootF 0 5 = 28 ∧ rootF 0 4 = 8 ∧ rootF 0 2 = 22 ∧ rootF 0 6 = 0 ∧ rootF 0 (-1) = 0) ∧ rootF 1 8 = 3 ∧ rootF 1 3 = 64 ∧ rootF 1 2 = 241 ∧ rootF 2 12 = 1331 := by
  simp only [rootK_eq]; decide +kernel
theorem ord_tab : ordF 0 5 = 96 ∧ ordF 0 96 = 2 ∧ ordF 1 16 = 4 ∧ ordF 0 97 = 0 := by
  rw [ordK_eq 0 _ (by decide), ordK_eq 0 _ (by decide), ordK_eq 1 _ (by decide), ordK_eq 0 _ (by decide)]; decide +kernel
theorem inv_tab : invF 3 2 = 499122177 ∧ invF 0 0 = 0 := by
  rw [invK_eq 3 _ (by decide), invK_eq 0 _ (by decide)]; decide +kernel

theorem k_root0 (W w : World) (hW : On W w) : Calls Tryd.prog 43 #[.int .i64 0, .int .i64 5] w fun e w' => e = .returned (.int .u64 28) ∧ On W w' := by
  have h := root_any 0 5 W w hW
  rw [show rootF 0 5 = 28 from root_tab.1.1] at h
  exact h

theorem k_root1 (W w : World) (hW : On W w) : Calls Tryd.prog 43 #[.int .i64 0, .int .i64 4] w fun e w' => e = .returned (.int .u64 8) ∧ On W w' := by
  have h := root_any 0 4 W w hW
  rw [show rootF 0 4 = 8 from root_tab.1.2.1] at h
  exact h

theorem k_root2 (W w : World) (hW : On W w) : Calls Tryd.prog 43 #[.int .i64 0, .int .i64 2] w fun e w' => e = .returned (.int .u64 22) ∧ On W w' := by
  have h := root_any 0 2 W w hW
  rw [show rootF 0 2 = 22 from root_tab.1.2.2.1] at h
  exact h

theorem k_root3 (W w : World) (hW : On W w) : Calls Tryd.prog 43 #[.int .i64 0, .int .i64 6] w fun e w' => e = .returned (.int .u64 0) ∧ On W w' := by
  have h := root_any 0 6 W w hW
  rw [show rootF 0 6 = 0 from root_tab.1.2.2.2.1] at h
  exact h

theorem k_root4 (W w : World) (hW : On W w) : Calls Tryd.prog 43 #[.int .i64 0, .int .i64 (-1)] w fun e w' => e = .returned (.int .u64 0) ∧ On W w' := by
  have h := root_any 0 (-1) W w hW
  rw [show rootF 0 (-1) = 0 from root_tab.1.2.2.2.2] at h
  exact h

theorem k_root5 (W w : World) (hW : On W w) : Calls Tryd.prog 43 #[.int .i64 1, .int .i64 8] w fun e w' => e = .returned (.int .u64 3) ∧ On W w' := by
  have h := root_any 1 8 W w hW
  rw [show rootF 1 8 = 3 from root_tab.2.1] at h
  exact h

theorem k_root6 (W w : World) (hW : On W w) : Calls Tryd.prog 43 #[.int .i64 1, .int .i64 3] w fun e w' => e = .returned (.int .u64 64) ∧ On W w' := by
  have h := root_any 1 3 W w hW
  rw [show rootF 1 3 = 64 from root_tab.2.2.1] at h
  exact h

theorem k_root7 (W w : World) (hW : On W w) : Calls Tryd.prog 43 #[.int .i64 1, .int .i64 2] w fun e w' => e = .returned (.int .u64 241) ∧ On W w' := by
  have h := root_any 1 2 W w hW
  rw [show rootF 1 2 = 241 from root_tab.2.2.2.1] at h
  exact h

theorem k_root8 (W w : World) (hW : On W w) : Calls Tryd.prog 43 #[.int .i64 2, .int .i64 12] w fun e w' => e = .returned (.int .u64 1331) ∧ On W w' := by
  have h := root_any 2 12 W w hW
  rw [show rootF 2 12 = 1331 from root_tab.2.2.2.2] at h
  exact h

theorem k_ord0 (W w : World) (hW : On W w) : Calls Tryd.prog 45 #[.int .i64 0, .int .u64 5] w fun e w' => e = .returned (.int .u64 96) ∧ On W w' := by
  have h := order_any 0 5 W w hW (by omega)
  rw [show ordF 0 5 = 96 from ord_tab.1] at h
  exact h

theorem k_ord1 (W w : World) (hW : On W w) : Calls Tryd.prog 45 #[.int .i64 0, .int .u64 96] w fun e w' => e = .returned (.int .u64 2) ∧ On W w' := by
  have h := order_any 0 96 W w hW (by omega)
  rw [show ordF 0 96 = 2 from ord_tab.2.1] at h
  exact h

theorem k_ord2 (W w : World) (hW : On W w) : Calls Tryd.prog 45 #[.int .i64 1, .int .u64 16] w fun e w' => e = .returned (.int .u64 4) ∧ On W w' := by
  have h := order_any 1 16 W w hW (by omega)
  rw [show ordF 1 16 = 4 from ord_tab.2.2.1] at h
  exact h

theorem k_ord3 (W w : World) (hW : On W w) : Calls Tryd.prog 45 #[.int .i64 0, .int .u64 97] w fun e w' => e = .returned (.int .u64 0) ∧ On W w' := by
  have h := order_any 0 97 W w hW (by omega)
  rw [show ordF 0 97 = 0 from ord_tab.2.2.2] at h
  exact h

theorem k_inv0 (w : World) (hT : Tab w) : Calls Tryd.prog 36 #[.int .i64 3, .int .u64 2] w fun e w' => e = .returned (.int .u64 499122177) ∧ w = w' := by
  have h := inv_any 3 2 w hT (by omega)
  rw [show invF 3 2 = 499122177 from inv_tab.1] at h
  exact h

theorem k_inv1 (w : World) (hT : Tab w) : Calls Tryd.prog 36 #[.int .i64 0, .int .u64 0] w fun e w' => e = .returned (.int .u64 0) ∧ w = w' := by
  have h := inv_any 0 0 w hT (by omega)
  rw [show invF 0 0 = 0 from inv_tab.2] at h
  exact h

theorem k_neg (w : World) (hT : Tab w) : Calls Tryd.prog 34 #[.int .i64 0, .int .u64 0] w fun e w' => e = .returned (.int .u64 0) ∧ w = w' := by
  have h := neg_any 0 0 w hT (by omega)
  rw [show subF 0 0 0 = 0 from by decide] at h
  exact h

theorem k_pow0 (w : World) (hT : Tab w) : Calls Tryd.prog 40 #[.int .i64 0, .int .u64 0, .int .u64 0] w fun e w' => e = .returned (.int .u64 1) ∧ w = w' := by
  have h := pow_any 0 0 0 w hT (by omega) (by omega)
  rw [show powF 0 0 0 = 1 from by decide] at h
  exact h

theorem k_pow1 (w : World) (hT : Tab w) : Calls Tryd.prog 40 #[.int .i64 (-1), .int .u64 2, .int .u64 0] w fun e w' => e = .returned (.int .u64 0) ∧ w = w' := by
  have h := pow_any (-1) 2 0 w hT (by omega) (by omega)
  rw [show powF (-1) 2 0 = 0 from by decide] at h
  exact h

theorem k_mul (w : World) (hT : Tab w) : Calls Tryd.prog 32 #[.int .i64 3, .int .u64 998244352, .int .u64 998244352] w fun e w' => e = .returned (.int .u64 1) ∧ w = w' := by
  have h := mul_any 3 998244352 998244352 w hT (by omega) (by omega)
  rw [show mulF 3 998244352 998244352 = 1 from by decide +kernel] at h
  exact h

theorem k_add0 (w : World) (hT : Tab w) : Calls Tryd.prog 28 #[.int .i64 4, .int .u64 1, .int .u64 1] w fun e w' => e = .returned (.int .u64 0) ∧ w = w' := by
  have h := add_any 4 1 1 w hT (by omega) (by omega)
  rw [show addF 4 1 1 = 0 from by decide] at h
  exact h

theorem k_add1 (w : World) (hT : Tab w) : Calls Tryd.prog 28 #[.int .i64 0, .int .u64 18446744073709551615, .int .u64 18446744073709551615] w fun e w' => e = .returned (.int .u64 23) ∧ w = w' := by
  have h := add_any 0 18446744073709551615 18446744073709551615 w hT (by omega) (by omega)
  rw [show addF 0 18446744073709551615 18446744073709551615 = 23 from by decide +kernel] at h
  exact h

theorem k_add2 (w : World) (hT : Tab w) : Calls Tryd.prog 28 #[.int .i64 0, .int .u64 60, .int .u64 60] w fun e w' => e = .returned (.int .u64 23) ∧ w = w' := by
  have h := add_any 0 60 60 w hT (by omega) (by omega)
  rw [show addF 0 60 60 = 23 from by decide] at h
  exact h

theorem k_gen (W w : World) (hW : On W w) : Calls Tryd.prog 16 #[.int .i64 2] w fun e w' => e = .returned (.int .u64 11) ∧ On W w' := by
  have h := gen_any 2 W w hW
  rw [show gOf 2 = 11 from by decide] at h
  exact h

theorem k_two (W w : World) (hW : On W w) : Calls Tryd.prog 18 #[.int .i64 3] w fun e w' => e = .returned (.int .i64 23) ∧ On W w' := by
  have h := twos_any 3 W w hW
  rw [show twoOf 3 = 23 from by decide] at h
  exact h

theorem k_exp (W w : World) (hW : On W w) : Calls Tryd.prog 20 #[.int .i64 2] w fun e w' => e = .returned (.int .i64 5) ∧ On W w' := by
  have h := exp_any 2 W w hW
  rw [show expOf 2 = 5 from by decide] at h
  exact h

set_option maxHeartbeats 1000000 in
set_option maxRecDepth 100000 in
theorem known_any (W w : World) (hW : On W w) : Calls Tryd.prog 11 #[] w fun e w' => e = .returned (.bool true) ∧ On W w' := by
  go_enter Tryd.func11, Tryd.ntmps11
  go_wp2_with (first
    | (go_at_call 43; ((with_reducible refine (k_root0 W _ (by assumption)).mono ?_)); rintro e w1 ⟨rfl, hW1⟩)
    | (go_at_call 43; ((with_reducible refine (k_root1 W _ (by assumption)).mono ?_)); rintro e w1 ⟨rfl, hW1⟩)
    | (go_at_call 43; ((with_reducible refine (k_root2 W _ (by assumption)).mono ?_)); rintro e w1 ⟨rfl, hW1⟩)
    | (go_at_call 43; ((with_reducible refine (k_root3 W _ (by assumption)).mono ?_)); rintro e w1 ⟨rfl, hW1⟩)
    | (go_at_call 43; ((with_reducible refine (k_root4 W _ (by assumption)).mono ?_)); rintro e w1 ⟨rfl, hW1⟩)
    | (go_at_call 43; ((with_reducible refine (k_root5 W _ (by assumption)).mono ?_)); rintro e w1 ⟨rfl, hW1⟩)
    | (go_at_call 43; ((with_reducible refine (k_root6 W _ (by assumption)).mono ?_)); rintro e w1 ⟨rfl, hW1⟩)
    | (go_at_call 43; ((with_reducible refine (k_root7 W _ (by assumption)).mono ?_)); rintro e w1 ⟨rfl, hW1⟩)
    | (go_at_call 43; ((with_reducible refine (k_root8 W _ (by assumption)).mono ?_)); rintro e w1 ⟨rfl, hW1⟩)
    | (go_at_call 45; ((with_reducible refine (k_ord0 W _ (by assumption)).mono ?_)); rintro e w1 ⟨rfl, hW1⟩)
    | (go_at_call 45; ((with_reducible refine (k_ord1 W _ (by assumption)).mono ?_)); rintro e w1 ⟨rfl, hW1⟩)
    | (go_at_call 45; ((with_reducible refine (k_ord2 W _ (by assumption)).mono ?_)); rintro e w1 ⟨rfl, hW1⟩)
    | (go_at_call 45; ((with_reducible refine (k_ord3 W _ (by assumption)).mono ?_)); rintro e w1 ⟨rfl, hW1⟩)
    | (go_at_call 36; ((with_reducible refine (k_inv0 _ (On.tab (W := W) (by assumption))).mono ?_)); rintro e w' ⟨rfl, rfl⟩)
    | (go_at_call 36; ((with_reducible refine (k_inv1 _ (On.tab (W := W) (by assumption))).mono ?_)); rintro e w' ⟨rfl, rfl⟩)
    | (go_at_call 34; ((with_reducible refine (k_neg _ (On.tab (W := W) (by assumption))).mono ?_)); rintro e w' ⟨rfl, rfl⟩)
    | (go_at_call 40; ((with_reducible refine (k_pow0 _ (On.tab (W := W) (by assumption))).mono ?_)); rintro e w' ⟨rfl, rfl⟩)
    | (go_at_call 40; ((with_reducible refine (k_pow1 _ (On.tab (W := W) (by assumption))).mono ?_)); rintro e w' ⟨rfl, rfl⟩)
    | (go_at_call 32; ((with_reducible refine (k_mul _ (On.tab (W := W) (by assumption))).mono ?_)); rintro e w' ⟨rfl, rfl⟩)
    | (go_at_call 28; ((with_reducible refine (k_add0 _ (On.tab (W := W) (by assumption))).mono ?_)); rintro e w' ⟨rfl, rfl⟩)
    | (go_at_call 28; ((with_reducible refine (k_add1 _ (On.tab (W := W) (by assumption))).mono ?_)); rintro e w' ⟨rfl, rfl⟩)
    | (go_at_call 28; ((with_reducible refine (k_add2 _ (On.tab (W := W) (by assumption))).mono ?_)); rintro e w' ⟨rfl, rfl⟩)
    | (go_at_call 16; ((with_reducible refine (k_gen W _ (by assumption)).mono ?_)); rintro e w1 ⟨rfl, hW1⟩)
    | (go_at_call 18; ((with_reducible refine (k_two W _ (by assumption)).mono ?_)); rintro e w1 ⟨rfl, hW1⟩)
    | (go_at_call 20; ((with_reducible refine (k_exp W _ (by assumption)).mono ?_)); rintro e w1 ⟨rfl, hW1⟩)
    | (go_at_call 47; refine (k_none W _ _ (On.alloc (by assumption) _) (heap_at _ _ _ rfl)).mono ?_; rintro e w1 ⟨rfl, hW1⟩)
    | (go_at_call 50; refine (k_nil _ (On.tab (W := W) (by assumption))).mono ?_; rintro e w' ⟨rfl, rfl⟩)
    | (go_at_call 42; refine (works_any W _ (by assumption)).mono ?_; rintro e w1 ⟨rfl, hW1⟩))
  go_ret
  exact ⟨rfl, by assumption⟩
end Go.Proofs.YtndaaibjcfddhaaDoor
