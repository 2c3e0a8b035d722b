/- The walk of the law FieldRing: it returns true. -/
import Derived.Test.YtndaaibjcfddhaaDoorWorks
namespace Go.Proofs.YtndaaibjcfddhaaDoor
open Go.RowKit
set_option linter.unusedVariables false

theorem valid_range {X : Int} (h : validB X = true) : 0 ≤ X ∧ X ≤ 3 := by unfold validB at h; simpa using h
theorem cast_mod (a p : Nat) : ((a % p : Nat) : Int) = (a : Int) % (p : Int) := rfl

set_option maxHeartbeats 1000000 in
set_option maxRecDepth 100000 in
theorem ring_zero (X : Int) (A a b c : Nat) (W w : World) (hW : On W w) (hv : validB X = true) (hA : (A : Int) % 4 = X) (hA1 : A ≤ 255) (ha : a ≤ 18446744073709551615) (hb : b ≤ 18446744073709551615) (hc : c ≤ 18446744073709551615) (hz : a % pOf X = 0) :
    Calls Tryd.prog 6 #[.int .u8 (A : Int), .int .u64 (a : Int), .int .u64 (b : Int), .int .u64 (c : Int)] w fun e w' => e = .returned (.bool true) ∧ On W w' := by
  obtain ⟨hX0, hX3⟩ := valid_range hv
  have hp := (valid_iff X).1 hv
  have hbig := big X hv
  have hle := pOf_le X
  have e0 := eq0_pos hp
  have e1 := addF_comm X b a
  have e2 := mulF_comm X b a
  have e3 := addF_assoc X a b c
  have e4 := mulF_assoc X a b c
  have e5 := mulF_add X a b c
  have e6 : ((addF X a 0 : Nat) : Int) = (a : Int) % ((pOf X : Nat) : Int) := by rw [addF_zeroR X a hp]; rfl
  have e7 : ((mulF X a 1 : Nat) : Int) = (a : Int) % ((pOf X : Nat) : Int) := by rw [mulF_oneR X a hp]; rfl
  have e8 := addF_neg X a hp
  have e9 : ((subF X (addF X a b) b : Nat) : Int) = (a : Int) % ((pOf X : Nat) : Int) := by rw [subF_add X a b hp]; rfl
  have l1 := addF_le X a b; have l2 := addF_le X b c; have l3 := mulF_le X a b; have l4 := mulF_le X b c; have l5 := mulF_le X a c; have l6 := subF_le X 0 a; have l7 := invF_le X a; have l8 := divF_le X b a
  have g1 := addF_lt X a b hp
  have g2 := mulF_lt X a b hp
  have hT := hW.tab
  have HV := Lib.hid hv; clear hv
  have z1 : ((((a : Int) % ((pOf X : Nat) : Int))) != 0) = false := by rw [← cast_mod, hz]; rfl
  have HZ := Lib.hid hz; clear hz
  go_enter Tryd.func6, Tryd.ntmps6
  go_wp2_with (first
    | (go_at_call 14; refine (p_any _ _ hT).mono ?_; rintro e w' ⟨rfl, rfl⟩)
    | (go_at_call 28; refine (add_any _ _ _ _ hT (by omega) (by omega)).mono ?_; rintro e w' ⟨rfl, rfl⟩)
    | (go_at_call 32; refine (mul_any _ _ _ _ hT (by omega) (by omega)).mono ?_; rintro e w' ⟨rfl, rfl⟩))
  go_quiet ((first
    | (go_at_call 28; first | ((with_reducible exact quiet_of_eq (add_any _ _ _ _ (hT.drewN _) (by omega) (by omega)))) | exact quiet_of_eq (add_any X a 0 _ (hT.drewN _) (by omega) (by omega)))
    | (go_at_call 32; first | ((with_reducible exact quiet_of_eq (mul_any _ _ _ _ (hT.drewN _) (by omega) (by omega)))) | exact quiet_of_eq (mul_any X a 1 _ (hT.drewN _) (by omega) (by omega)))
    | (go_at_call 34; exact quiet_of_eq (neg_any _ _ _ (hT.drewN _) (by omega)))
    | (go_at_call 30; exact quiet_of_eq (sub_any _ _ _ _ (hT.drewN _) (by omega) (by omega)))
    | (go_at_call 36; exact quiet_of_eq (inv_any _ _ _ (hT.drewN _) (by omega)))
    | (go_at_call 38; exact quiet_of_eq (div_any _ _ _ _ (hT.drewN _) (by omega) (by omega)))))
  have hW := hW.drewN nq
  have hT := hT.drewN nq
  generalize w.drewN nq = w at *
  go_wp2
  go_quiet ((first
    | (go_at_call 28; first | ((with_reducible exact quiet_of_eq (add_any _ _ _ _ (hT.drewN _) (by omega) (by omega)))) | exact quiet_of_eq (add_any X a 0 _ (hT.drewN _) (by omega) (by omega)))
    | (go_at_call 32; first | ((with_reducible exact quiet_of_eq (mul_any _ _ _ _ (hT.drewN _) (by omega) (by omega)))) | exact quiet_of_eq (mul_any X a 1 _ (hT.drewN _) (by omega) (by omega)))
    | (go_at_call 34; exact quiet_of_eq (neg_any _ _ _ (hT.drewN _) (by omega)))
    | (go_at_call 30; exact quiet_of_eq (sub_any _ _ _ _ (hT.drewN _) (by omega) (by omega)))
    | (go_at_call 36; exact quiet_of_eq (inv_any _ _ _ (hT.drewN _) (by omega)))
    | (go_at_call 38; exact quiet_of_eq (div_any _ _ _ _ (hT.drewN _) (by omega) (by omega)))))
  have hW := hW.drewN nq
  have hT := hT.drewN nq
  generalize w.drewN nq = w at *
  go_wp2_with (first
    | (go_at_call 28; refine (add_any _ _ _ _ hT (by omega) (by omega)).mono ?_; rintro e w' ⟨rfl, rfl⟩)
    | (go_at_call 32; refine (mul_any _ _ _ _ hT (by omega) (by omega)).mono ?_; rintro e w' ⟨rfl, rfl⟩)
    | (go_at_call 42; refine (works_any W _ hW).mono ?_; rintro e w1 ⟨rfl, hW1⟩))
  go_ret
  exact ⟨rfl, hW1⟩

set_option maxHeartbeats 1000000 in
set_option maxRecDepth 100000 in
theorem ring_unit (X : Int) (A a b c : Nat) (W w : World) (hW : On W w) (hv : validB X = true) (hA : (A : Int) % 4 = X) (hA1 : A ≤ 255) (ha : a ≤ 18446744073709551615) (hb : b ≤ 18446744073709551615) (hc : c ≤ 18446744073709551615) (hz : a % pOf X ≠ 0) :
    Calls Tryd.prog 6 #[.int .u8 (A : Int), .int .u64 (a : Int), .int .u64 (b : Int), .int .u64 (c : Int)] w fun e w' => e = .returned (.bool true) ∧ On W w' := by
  obtain ⟨hX0, hX3⟩ := valid_range hv
  have hp := (valid_iff X).1 hv
  have hbig := big X hv
  have hle := pOf_le X
  have e0 := eq0_pos hp
  have e1 := addF_comm X b a
  have e2 := mulF_comm X b a
  have e3 := addF_assoc X a b c
  have e4 := mulF_assoc X a b c
  have e5 := mulF_add X a b c
  have e6 : ((addF X a 0 : Nat) : Int) = (a : Int) % ((pOf X : Nat) : Int) := by rw [addF_zeroR X a hp]; rfl
  have e7 : ((mulF X a 1 : Nat) : Int) = (a : Int) % ((pOf X : Nat) : Int) := by rw [mulF_oneR X a hp]; rfl
  have e8 := addF_neg X a hp
  have e9 : ((subF X (addF X a b) b : Nat) : Int) = (a : Int) % ((pOf X : Nat) : Int) := by rw [subF_add X a b hp]; rfl
  have l1 := addF_le X a b; have l2 := addF_le X b c; have l3 := mulF_le X a b; have l4 := mulF_le X b c; have l5 := mulF_le X a c; have l6 := subF_le X 0 a; have l7 := invF_le X a; have l8 := divF_le X b a
  have g1 := addF_lt X a b hp
  have g2 := mulF_lt X a b hp
  have hT := hW.tab
  have HV := Lib.hid hv; clear hv
  have z1 : ((((a : Int) % ((pOf X : Nat) : Int))) != 0) = true := by rw [← cast_mod]; simp only [bne_iff_ne, ne_eq]; omega
  have e10 := mul_inv X a HV.out hz
  have e11 : ((mulF X (divF X b a) a : Nat) : Int) = (b : Int) % ((pOf X : Nat) : Int) := by rw [div_mul X a b HV.out hz]; rfl
  have HZ := Lib.hid hz; clear hz
  go_enter Tryd.func6, Tryd.ntmps6
  go_wp2_with (first
    | (go_at_call 14; refine (p_any _ _ hT).mono ?_; rintro e w' ⟨rfl, rfl⟩)
    | (go_at_call 28; refine (add_any _ _ _ _ hT (by omega) (by omega)).mono ?_; rintro e w' ⟨rfl, rfl⟩)
    | (go_at_call 32; refine (mul_any _ _ _ _ hT (by omega) (by omega)).mono ?_; rintro e w' ⟨rfl, rfl⟩))
  go_quiet ((first
    | (go_at_call 28; first | ((with_reducible exact quiet_of_eq (add_any _ _ _ _ (hT.drewN _) (by omega) (by omega)))) | exact quiet_of_eq (add_any X a 0 _ (hT.drewN _) (by omega) (by omega)))
    | (go_at_call 32; first | ((with_reducible exact quiet_of_eq (mul_any _ _ _ _ (hT.drewN _) (by omega) (by omega)))) | exact quiet_of_eq (mul_any X a 1 _ (hT.drewN _) (by omega) (by omega)))
    | (go_at_call 34; exact quiet_of_eq (neg_any _ _ _ (hT.drewN _) (by omega)))
    | (go_at_call 30; exact quiet_of_eq (sub_any _ _ _ _ (hT.drewN _) (by omega) (by omega)))
    | (go_at_call 36; exact quiet_of_eq (inv_any _ _ _ (hT.drewN _) (by omega)))
    | (go_at_call 38; exact quiet_of_eq (div_any _ _ _ _ (hT.drewN _) (by omega) (by omega)))))
  have hW := hW.drewN nq
  have hT := hT.drewN nq
  generalize w.drewN nq = w at *
  go_wp2
  go_quiet ((first
    | (go_at_call 28; first | ((with_reducible exact quiet_of_eq (add_any _ _ _ _ (hT.drewN _) (by omega) (by omega)))) | exact quiet_of_eq (add_any X a 0 _ (hT.drewN _) (by omega) (by omega)))
    | (go_at_call 32; first | ((with_reducible exact quiet_of_eq (mul_any _ _ _ _ (hT.drewN _) (by omega) (by omega)))) | exact quiet_of_eq (mul_any X a 1 _ (hT.drewN _) (by omega) (by omega)))
    | (go_at_call 34; exact quiet_of_eq (neg_any _ _ _ (hT.drewN _) (by omega)))
    | (go_at_call 30; exact quiet_of_eq (sub_any _ _ _ _ (hT.drewN _) (by omega) (by omega)))
    | (go_at_call 36; exact quiet_of_eq (inv_any _ _ _ (hT.drewN _) (by omega)))
    | (go_at_call 38; exact quiet_of_eq (div_any _ _ _ _ (hT.drewN _) (by omega) (by omega)))))
  have hW := hW.drewN nq
  have hT := hT.drewN nq
  generalize w.drewN nq = w at *
  go_wp2_with (first
    | (go_at_call 28; refine (add_any _ _ _ _ hT (by omega) (by omega)).mono ?_; rintro e w' ⟨rfl, rfl⟩)
    | (go_at_call 32; refine (mul_any _ _ _ _ hT (by omega) (by omega)).mono ?_; rintro e w' ⟨rfl, rfl⟩)
    | (go_at_call 42; refine (works_any W _ hW).mono ?_; rintro e w1 ⟨rfl, hW1⟩))
  go_ret
  exact ⟨rfl, hW1⟩

end Go.Proofs.YtndaaibjcfddhaaDoor
