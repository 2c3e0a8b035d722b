/- The walk of the law TransformBack: it returns true. -/
import Derived.Test.YtgkegpnpooeghaaDoorTrefG
import Derived.Test.YtgkegpnpooeghaaDoorTown2
namespace Go.Proofs.YtgkegpnpooeghaaDoor
open Go.RowKit
set_option linter.unusedVariables false

set_option maxHeartbeats 2000000 in
set_option maxRecDepth 100000 in
theorem back_low (f : Int) (s : Nat) (l : List Nat) (b : Int) (hlo : ¬ 1 < b) (v : Value) (w : World) (hT : Tab w) (hD : TabD w) (hs : s ≤ 18446744073709551615) (hbi : -9223372036854775808 ≤ b ∧ b ≤ 9223372036854775807) (hR : Reads w v l) (hS : Shape v l) :
    Calls Tryd.prog 4 #[.int .i64 f, .int .i64 b, .int .u64 (s : Int), v] w fun e w' => e = .returned (.bool true) ∧ On w w' := by
  obtain ⟨hbi1, hbi2⟩ := hbi
  have hg18 := grF_le f
  have HDD := Lib.hid hD
  have HX := Lib.hid (On.refl hT)
  obtain ⟨P, hP⟩ : ∃ P, P = l.take 64 := ⟨_, rfl⟩
  have hPl : P.length ≤ 64 := by rw [hP, List.length_take]; omega
  have HP1 := Lib.hid (fun w' (h : On w w') => hP ▸ w_own2 l 64 v w' h.tab (hR.on h) hS (by omega))
  have HP2 : Hid (∀ (u : Value) w', Tab w' → Reads w' u P → Shape u P → _) := fun u w' h1 h2 h3 => w_own2 P 64 u w' h1 h2 h3 (by omega)
  have HPE : Hid (P.take 64 = P) := by unfold Hid; exact List.take_of_length_le hPl
  rw [HPE.out] at HP2
  obtain ⟨L, c, hA, hB⟩ := coefs_pair f s P hs (by omega)
  obtain ⟨L2, c2, hA2, hB2⟩ := widen_pair f b P (by omega) hPl (.inl (by omega))
  have HA := Lib.hid hA; have HB := Lib.hid hB; have HA2 := Lib.hid hA2; have HB2 := Lib.hid hB2
  clear hA hB hA2 hB2 hP hR hS hT hD HPE
  go_enter Tryd.func4, Tryd.ntmps4
  go_wp2_with fail
  have hO := HX.out
  have hOc := (On.refl HX.out.tab)
  refine (HP1.out _ HX.out).mono ?_
  rintro e w1 ⟨a1, c1, rfl, hR, hS, hO1⟩
  have HX := Lib.hid (hO.trans hO1)
  have R1 := Lib.hid hR
  have R2 := Lib.hid hS
  clear hO1 hO hOc hR hS
  go_wp2_with fail
  have hO := HX.out
  have hOc := (On.refl HX.out.tab)
  refine (HP2.out _ _ hO.tab (R1.out.on hOc) R2.out).mono ?_
  rintro e w2 ⟨a2, c3, rfl, hR, hS, hO1⟩
  have R1 := Lib.hid (R1.out.on (hOc.trans hO1))
  have HX := Lib.hid (hO.trans hO1)
  have R3 := Lib.hid hR
  have R4 := Lib.hid hS
  clear hO1 hO hOc hR hS
  go_wp2_with (first | (go_at_call 10; refine (rgreatest_any f _).mono ?_; rintro e w' ⟨rfl, rfl⟩) | fail)
  have hO := HX.out
  have hOc := (On.refl HX.out.tab)
  refine (HA.out _ _ hO.tab (HDD.out.on hO) (R1.out.on hOc)).mono ?_
  rintro e w3 ⟨a3, n3, rfl, hR, hO1⟩
  have R1 := Lib.hid (R1.out.on (hOc.trans hO1))
  have R3 := Lib.hid (R3.out.on (hOc.trans hO1))
  have HX := Lib.hid (hO.trans hO1)
  have R5 := Lib.hid hR
  clear hO1 hO hOc hR
  go_wp2_with fail
  have hO := HX.out
  have hOc := (On.refl HX.out.tab)
  refine (HB.out _ _ hO.tab (R3.out.on hOc)).mono ?_
  rintro e w4 ⟨a4, n4, rfl, hR, hO1⟩
  have R1 := Lib.hid (R1.out.on (hOc.trans hO1))
  have R3 := Lib.hid (R3.out.on (hOc.trans hO1))
  have R5 := Lib.hid (R5.out.on (hOc.trans hO1))
  have HX := Lib.hid (hO.trans hO1)
  have R6 := Lib.hid hR
  clear hO1 hO hOc hR
  go_wp2_with fail
  have hO := HX.out
  have hOc := (On.refl HX.out.tab)
  refine (HA2.out _ _ hO.tab (HDD.out.on hO) (R1.out.on hOc)).mono ?_
  rintro e w5 ⟨a5, n5, rfl, hR, hO1⟩
  have R1 := Lib.hid (R1.out.on (hOc.trans hO1))
  have R3 := Lib.hid (R3.out.on (hOc.trans hO1))
  have R5 := Lib.hid (R5.out.on (hOc.trans hO1))
  have R6 := Lib.hid (R6.out.on (hOc.trans hO1))
  have HX := Lib.hid (hO.trans hO1)
  have R7 := Lib.hid hR
  clear hO1 hO hOc hR
  go_wp2_with fail
  have hO := HX.out
  have hOc := (On.refl HX.out.tab)
  refine (HB2.out _ _ hO.tab (R3.out.on hOc)).mono ?_
  rintro e w6 ⟨a6, n6, rfl, hR, hO1⟩
  have R1 := Lib.hid (R1.out.on (hOc.trans hO1))
  have R3 := Lib.hid (R3.out.on (hOc.trans hO1))
  have R5 := Lib.hid (R5.out.on (hOc.trans hO1))
  have R6 := Lib.hid (R6.out.on (hOc.trans hO1))
  have R7 := Lib.hid (R7.out.on (hOc.trans hO1))
  have HX := Lib.hid (hO.trans hO1)
  have R8 := Lib.hid hR
  clear hO1 hO hOc hR
  have hcc : ((c : Int) == c) = true := by simp
  have hcc2 : ((c2 : Int) == c2) = true := by simp
  go_wp2_with fail
  have hO := HX.out
  have hOc := (On.refl HX.out.tab)
  refine (w_rsame L L _ _ _ true (by simp) hO.tab (R5.out.on hOc) (R6.out.on hOc)).mono ?_
  rintro e w7 ⟨rfl, hO1⟩
  have R1 := Lib.hid (R1.out.on (hOc.trans hO1))
  have R3 := Lib.hid (R3.out.on (hOc.trans hO1))
  have R5 := Lib.hid (R5.out.on (hOc.trans hO1))
  have R6 := Lib.hid (R6.out.on (hOc.trans hO1))
  have R7 := Lib.hid (R7.out.on (hOc.trans hO1))
  have R8 := Lib.hid (R8.out.on (hOc.trans hO1))
  have HX := Lib.hid (hO.trans hO1)
  clear hO1 hO hOc 
  go_wp2_with fail
  have hO := HX.out
  have hOc := (On.refl HX.out.tab)
  refine (w_rsame L2 L2 _ _ _ true (by simp) hO.tab (R7.out.on hOc) (R8.out.on hOc)).mono ?_
  rintro e w8 ⟨rfl, hO1⟩
  have R1 := Lib.hid (R1.out.on (hOc.trans hO1))
  have R3 := Lib.hid (R3.out.on (hOc.trans hO1))
  have R7 := Lib.hid (R7.out.on (hOc.trans hO1))
  have R8 := Lib.hid (R8.out.on (hOc.trans hO1))
  have HX := Lib.hid (hO.trans hO1)
  clear hO1 hO hOc 
  go_wp2_with fail
  have hO := HX.out
  have hOc := (On.refl HX.out.tab)
  refine (w_rsame P P _ _ _ true (by simp) hO.tab (R1.out.on hOc) (R3.out.on hOc)).mono ?_
  rintro e w9 ⟨rfl, hO1⟩
  have R1 := Lib.hid (R1.out.on (hOc.trans hO1))
  have R3 := Lib.hid (R3.out.on (hOc.trans hO1))
  have HX := Lib.hid (hO.trans hO1)
  clear hO1 hO hOc 
  go_wp2_with fail
  have hO := HX.out
  have hOc := (On.refl HX.out.tab)
  refine (works_any _ hO.tab (HDD.out.on hO)).mono ?_
  rintro e w10 ⟨rfl, hO1⟩
  have HX := Lib.hid (hO.trans hO1)
  clear hO1 hO hOc 
  go_wp2
  go_ret
  exact ⟨rfl, HX.out⟩
set_option maxHeartbeats 2000000 in
set_option maxRecDepth 100000 in
theorem back_high (f : Int) (s : Nat) (l : List Nat) (b : Int) (hlo : 1 < b) (hgr : (grF f : Int) < b) (v : Value) (w : World) (hT : Tab w) (hD : TabD w) (hs : s ≤ 18446744073709551615) (hbi : -9223372036854775808 ≤ b ∧ b ≤ 9223372036854775807) (hR : Reads w v l) (hS : Shape v l) :
    Calls Tryd.prog 4 #[.int .i64 f, .int .i64 b, .int .u64 (s : Int), v] w fun e w' => e = .returned (.bool true) ∧ On w w' := by
  obtain ⟨hbi1, hbi2⟩ := hbi
  have hg18 := grF_le f
  have HDD := Lib.hid hD
  have HX := Lib.hid (On.refl hT)
  obtain ⟨P, hP⟩ : ∃ P, P = l.take 64 := ⟨_, rfl⟩
  have hPl : P.length ≤ 64 := by rw [hP, List.length_take]; omega
  have HP1 := Lib.hid (fun w' (h : On w w') => hP ▸ w_own2 l 64 v w' h.tab (hR.on h) hS (by omega))
  have HP2 : Hid (∀ (u : Value) w', Tab w' → Reads w' u P → Shape u P → _) := fun u w' h1 h2 h3 => w_own2 P 64 u w' h1 h2 h3 (by omega)
  have HPE : Hid (P.take 64 = P) := by unfold Hid; exact List.take_of_length_le hPl
  rw [HPE.out] at HP2
  obtain ⟨L, c, hA, hB⟩ := coefs_pair f s P hs (by omega)
  obtain ⟨L2, c2, hA2, hB2⟩ := widen_pair f b P (by omega) hPl (.inr (.inl hgr))
  have HA := Lib.hid hA; have HB := Lib.hid hB; have HA2 := Lib.hid hA2; have HB2 := Lib.hid hB2
  clear hA hB hA2 hB2 hP hR hS hT hD HPE
  go_enter Tryd.func4, Tryd.ntmps4
  go_wp2_with fail
  have hO := HX.out
  have hOc := (On.refl HX.out.tab)
  refine (HP1.out _ HX.out).mono ?_
  rintro e w1 ⟨a1, c1, rfl, hR, hS, hO1⟩
  have HX := Lib.hid (hO.trans hO1)
  have R1 := Lib.hid hR
  have R2 := Lib.hid hS
  clear hO1 hO hOc hR hS
  go_wp2_with fail
  have hO := HX.out
  have hOc := (On.refl HX.out.tab)
  refine (HP2.out _ _ hO.tab (R1.out.on hOc) R2.out).mono ?_
  rintro e w2 ⟨a2, c3, rfl, hR, hS, hO1⟩
  have R1 := Lib.hid (R1.out.on (hOc.trans hO1))
  have HX := Lib.hid (hO.trans hO1)
  have R3 := Lib.hid hR
  have R4 := Lib.hid hS
  clear hO1 hO hOc hR hS
  go_wp2_with (first | (go_at_call 10; refine (rgreatest_any f _).mono ?_; rintro e w' ⟨rfl, rfl⟩) | fail)
  have hO := HX.out
  have hOc := (On.refl HX.out.tab)
  refine (HA.out _ _ hO.tab (HDD.out.on hO) (R1.out.on hOc)).mono ?_
  rintro e w3 ⟨a3, n3, rfl, hR, hO1⟩
  have R1 := Lib.hid (R1.out.on (hOc.trans hO1))
  have R3 := Lib.hid (R3.out.on (hOc.trans hO1))
  have HX := Lib.hid (hO.trans hO1)
  have R5 := Lib.hid hR
  clear hO1 hO hOc hR
  go_wp2_with fail
  have hO := HX.out
  have hOc := (On.refl HX.out.tab)
  refine (HB.out _ _ hO.tab (R3.out.on hOc)).mono ?_
  rintro e w4 ⟨a4, n4, rfl, hR, hO1⟩
  have R1 := Lib.hid (R1.out.on (hOc.trans hO1))
  have R3 := Lib.hid (R3.out.on (hOc.trans hO1))
  have R5 := Lib.hid (R5.out.on (hOc.trans hO1))
  have HX := Lib.hid (hO.trans hO1)
  have R6 := Lib.hid hR
  clear hO1 hO hOc hR
  go_wp2_with fail
  have hO := HX.out
  have hOc := (On.refl HX.out.tab)
  refine (HA2.out _ _ hO.tab (HDD.out.on hO) (R1.out.on hOc)).mono ?_
  rintro e w5 ⟨a5, n5, rfl, hR, hO1⟩
  have R1 := Lib.hid (R1.out.on (hOc.trans hO1))
  have R3 := Lib.hid (R3.out.on (hOc.trans hO1))
  have R5 := Lib.hid (R5.out.on (hOc.trans hO1))
  have R6 := Lib.hid (R6.out.on (hOc.trans hO1))
  have HX := Lib.hid (hO.trans hO1)
  have R7 := Lib.hid hR
  clear hO1 hO hOc hR
  go_wp2_with fail
  have hO := HX.out
  have hOc := (On.refl HX.out.tab)
  refine (HB2.out _ _ hO.tab (R3.out.on hOc)).mono ?_
  rintro e w6 ⟨a6, n6, rfl, hR, hO1⟩
  have R1 := Lib.hid (R1.out.on (hOc.trans hO1))
  have R3 := Lib.hid (R3.out.on (hOc.trans hO1))
  have R5 := Lib.hid (R5.out.on (hOc.trans hO1))
  have R6 := Lib.hid (R6.out.on (hOc.trans hO1))
  have R7 := Lib.hid (R7.out.on (hOc.trans hO1))
  have HX := Lib.hid (hO.trans hO1)
  have R8 := Lib.hid hR
  clear hO1 hO hOc hR
  have hcc : ((c : Int) == c) = true := by simp
  have hcc2 : ((c2 : Int) == c2) = true := by simp
  go_wp2_with fail
  have hO := HX.out
  have hOc := (On.refl HX.out.tab)
  refine (w_rsame L L _ _ _ true (by simp) hO.tab (R5.out.on hOc) (R6.out.on hOc)).mono ?_
  rintro e w7 ⟨rfl, hO1⟩
  have R1 := Lib.hid (R1.out.on (hOc.trans hO1))
  have R3 := Lib.hid (R3.out.on (hOc.trans hO1))
  have R5 := Lib.hid (R5.out.on (hOc.trans hO1))
  have R6 := Lib.hid (R6.out.on (hOc.trans hO1))
  have R7 := Lib.hid (R7.out.on (hOc.trans hO1))
  have R8 := Lib.hid (R8.out.on (hOc.trans hO1))
  have HX := Lib.hid (hO.trans hO1)
  clear hO1 hO hOc 
  go_wp2_with fail
  have hO := HX.out
  have hOc := (On.refl HX.out.tab)
  refine (w_rsame L2 L2 _ _ _ true (by simp) hO.tab (R7.out.on hOc) (R8.out.on hOc)).mono ?_
  rintro e w8 ⟨rfl, hO1⟩
  have R1 := Lib.hid (R1.out.on (hOc.trans hO1))
  have R3 := Lib.hid (R3.out.on (hOc.trans hO1))
  have R7 := Lib.hid (R7.out.on (hOc.trans hO1))
  have R8 := Lib.hid (R8.out.on (hOc.trans hO1))
  have HX := Lib.hid (hO.trans hO1)
  clear hO1 hO hOc 
  go_wp2_with fail
  have hO := HX.out
  have hOc := (On.refl HX.out.tab)
  refine (w_rsame P P _ _ _ true (by simp) hO.tab (R1.out.on hOc) (R3.out.on hOc)).mono ?_
  rintro e w9 ⟨rfl, hO1⟩
  have R1 := Lib.hid (R1.out.on (hOc.trans hO1))
  have R3 := Lib.hid (R3.out.on (hOc.trans hO1))
  have HX := Lib.hid (hO.trans hO1)
  clear hO1 hO hOc 
  go_wp2_with fail
  have hO := HX.out
  have hOc := (On.refl HX.out.tab)
  refine (works_any _ hO.tab (HDD.out.on hO)).mono ?_
  rintro e w10 ⟨rfl, hO1⟩
  have HX := Lib.hid (hO.trans hO1)
  clear hO1 hO hOc 
  go_wp2
  go_ret
  exact ⟨rfl, HX.out⟩
set_option maxHeartbeats 2000000 in
set_option maxRecDepth 100000 in
theorem back_small (f : Int) (s : Nat) (l : List Nat) (b : Nat) (hlo : 1 < b) (hgr : b ≤ grF f) (hM : (l.take 64).length * 2 ^ b ≤ 128) (v : Value) (w : World) (hT : Tab w) (hD : TabD w) (hs : s ≤ 18446744073709551615) (hbi : -9223372036854775808 ≤ (b : Int) ∧ (b : Int) ≤ 9223372036854775807) (hR : Reads w v l) (hS : Shape v l) :
    Calls Tryd.prog 4 #[.int .i64 f, .int .i64 (b : Int), .int .u64 (s : Int), v] w fun e w' => e = .returned (.bool true) ∧ On w w' := by
  obtain ⟨hbi1, hbi2⟩ := hbi
  have hg18 := grF_le f
  have HDD := Lib.hid hD
  have HX := Lib.hid (On.refl hT)
  obtain ⟨P, hP⟩ : ∃ P, P = l.take 64 := ⟨_, rfl⟩
  have hPl : P.length ≤ 64 := by rw [hP, List.length_take]; omega
  have HP1 := Lib.hid (fun w' (h : On w w') => hP ▸ w_own2 l 64 v w' h.tab (hR.on h) hS (by omega))
  have HP2 : Hid (∀ (u : Value) w', Tab w' → Reads w' u P → Shape u P → _) := fun u w' h1 h2 h3 => w_own2 P 64 u w' h1 h2 h3 (by omega)
  have HPE : Hid (P.take 64 = P) := by unfold Hid; exact List.take_of_length_le hPl
  rw [HPE.out] at HP2
  rw [← hP] at hM
  have h218 : 2 ^ b ≤ 2 ^ 18 := Nat.pow_le_pow_right (by omega) (by omega)
  obtain ⟨M, hMM⟩ : ∃ M, M = P.length * 2 ^ b := ⟨_, rfl⟩
  have hsh : (P.length : Int) * 2 ^ b = (M : Int) := by rw [hMM, Int.natCast_mul, Int.natCast_pow]; rfl
  have hMb : M ≤ 64 * 262144 := by rw [hMM]; exact Nat.mul_le_mul hPl h218
  rw [← hMM] at hM
  have hwM : IntKind.i64.wrap (M : Int) = (M : Int) := IntWalk.i64_in _ (by omega)
  have hwb : IntKind.u64.wrap (b : Int) = (b : Int) := IntWalk.u64_in _ (by omega)
  have hd1 : decide ((128 : Int) < (M : Int)) = false := by exact decide_eq_false (by omega)
  obtain ⟨L, c, hA, hB⟩ := coefs_pair f s P hs (by omega)
  obtain ⟨L2, c2, hA2, hB2⟩ := widen_pair f (b : Int) P (by omega) hPl (.inr (.inr (by rw [Int.toNat_natCast, ← hMM]; exact hM)))
  clear hMM h218
  have HA := Lib.hid hA; have HB := Lib.hid hB; have HA2 := Lib.hid hA2; have HB2 := Lib.hid hB2
  clear hA hB hA2 hB2 hP hR hS hT hD HPE
  go_enter Tryd.func4, Tryd.ntmps4
  go_wp2_with fail
  have hO := HX.out
  have hOc := (On.refl HX.out.tab)
  refine (HP1.out _ HX.out).mono ?_
  rintro e w1 ⟨a1, c1, rfl, hR, hS, hO1⟩
  have HX := Lib.hid (hO.trans hO1)
  have R1 := Lib.hid hR
  have R2 := Lib.hid hS
  clear hO1 hO hOc hR hS
  go_wp2_with fail
  have hO := HX.out
  have hOc := (On.refl HX.out.tab)
  refine (HP2.out _ _ hO.tab (R1.out.on hOc) R2.out).mono ?_
  rintro e w2 ⟨a2, c3, rfl, hR, hS, hO1⟩
  have R1 := Lib.hid (R1.out.on (hOc.trans hO1))
  have HX := Lib.hid (hO.trans hO1)
  have R3 := Lib.hid hR
  have R4 := Lib.hid hS
  clear hO1 hO hOc hR hS
  go_wp2_with (first | (go_at_call 10; refine (rgreatest_any f _).mono ?_; rintro e w' ⟨rfl, rfl⟩) | fail)
  have hO := HX.out
  have hOc := (On.refl HX.out.tab)
  refine (HA.out _ _ hO.tab (HDD.out.on hO) (R1.out.on hOc)).mono ?_
  rintro e w3 ⟨a3, n3, rfl, hR, hO1⟩
  have R1 := Lib.hid (R1.out.on (hOc.trans hO1))
  have R3 := Lib.hid (R3.out.on (hOc.trans hO1))
  have HX := Lib.hid (hO.trans hO1)
  have R5 := Lib.hid hR
  clear hO1 hO hOc hR
  go_wp2_with fail
  have hO := HX.out
  have hOc := (On.refl HX.out.tab)
  refine (HB.out _ _ hO.tab (R3.out.on hOc)).mono ?_
  rintro e w4 ⟨a4, n4, rfl, hR, hO1⟩
  have R1 := Lib.hid (R1.out.on (hOc.trans hO1))
  have R3 := Lib.hid (R3.out.on (hOc.trans hO1))
  have R5 := Lib.hid (R5.out.on (hOc.trans hO1))
  have HX := Lib.hid (hO.trans hO1)
  have R6 := Lib.hid hR
  clear hO1 hO hOc hR
  go_wp2_with fail
  have hO := HX.out
  have hOc := (On.refl HX.out.tab)
  refine (HA2.out _ _ hO.tab (HDD.out.on hO) (R1.out.on hOc)).mono ?_
  rintro e w5 ⟨a5, n5, rfl, hR, hO1⟩
  have R1 := Lib.hid (R1.out.on (hOc.trans hO1))
  have R3 := Lib.hid (R3.out.on (hOc.trans hO1))
  have R5 := Lib.hid (R5.out.on (hOc.trans hO1))
  have R6 := Lib.hid (R6.out.on (hOc.trans hO1))
  have HX := Lib.hid (hO.trans hO1)
  have R7 := Lib.hid hR
  clear hO1 hO hOc hR
  go_wp2_with fail
  have hO := HX.out
  have hOc := (On.refl HX.out.tab)
  refine (HB2.out _ _ hO.tab (R3.out.on hOc)).mono ?_
  rintro e w6 ⟨a6, n6, rfl, hR, hO1⟩
  have R1 := Lib.hid (R1.out.on (hOc.trans hO1))
  have R3 := Lib.hid (R3.out.on (hOc.trans hO1))
  have R5 := Lib.hid (R5.out.on (hOc.trans hO1))
  have R6 := Lib.hid (R6.out.on (hOc.trans hO1))
  have R7 := Lib.hid (R7.out.on (hOc.trans hO1))
  have HX := Lib.hid (hO.trans hO1)
  have R8 := Lib.hid hR
  clear hO1 hO hOc hR
  have hcc : ((c : Int) == c) = true := by simp
  have hcc2 : ((c2 : Int) == c2) = true := by simp
  go_wp2_with fail
  have hO := HX.out
  have hOc := (On.refl HX.out.tab)
  refine (w_rsame L L _ _ _ true (by simp) hO.tab (R5.out.on hOc) (R6.out.on hOc)).mono ?_
  rintro e w7 ⟨rfl, hO1⟩
  have R1 := Lib.hid (R1.out.on (hOc.trans hO1))
  have R3 := Lib.hid (R3.out.on (hOc.trans hO1))
  have R5 := Lib.hid (R5.out.on (hOc.trans hO1))
  have R6 := Lib.hid (R6.out.on (hOc.trans hO1))
  have R7 := Lib.hid (R7.out.on (hOc.trans hO1))
  have R8 := Lib.hid (R8.out.on (hOc.trans hO1))
  have HX := Lib.hid (hO.trans hO1)
  clear hO1 hO hOc 
  go_wp2_with fail
  have hO := HX.out
  have hOc := (On.refl HX.out.tab)
  refine (w_rsame L2 L2 _ _ _ true (by simp) hO.tab (R7.out.on hOc) (R8.out.on hOc)).mono ?_
  rintro e w8 ⟨rfl, hO1⟩
  have R1 := Lib.hid (R1.out.on (hOc.trans hO1))
  have R3 := Lib.hid (R3.out.on (hOc.trans hO1))
  have R7 := Lib.hid (R7.out.on (hOc.trans hO1))
  have R8 := Lib.hid (R8.out.on (hOc.trans hO1))
  have HX := Lib.hid (hO.trans hO1)
  clear hO1 hO hOc 
  go_wp2_with fail
  have hO := HX.out
  have hOc := (On.refl HX.out.tab)
  refine (w_rsame P P _ _ _ true (by simp) hO.tab (R1.out.on hOc) (R3.out.on hOc)).mono ?_
  rintro e w9 ⟨rfl, hO1⟩
  have R1 := Lib.hid (R1.out.on (hOc.trans hO1))
  have R3 := Lib.hid (R3.out.on (hOc.trans hO1))
  have HX := Lib.hid (hO.trans hO1)
  clear hO1 hO hOc 
  go_wp2_with fail
  have hO := HX.out
  have hOc := (On.refl HX.out.tab)
  refine (works_any _ hO.tab (HDD.out.on hO)).mono ?_
  rintro e w10 ⟨rfl, hO1⟩
  have HX := Lib.hid (hO.trans hO1)
  clear hO1 hO hOc 
  go_wp2
  go_ret
  exact ⟨rfl, HX.out⟩
set_option maxHeartbeats 2000000 in
set_option maxRecDepth 100000 in
theorem back_turn (f : Int) (s : Nat) (l : List Nat) (b : Nat) (hlo : 1 < b) (hgr : b ≤ grF f) (hM : 128 < (l.take 64).length * 2 ^ b) (v : Value) (w : World) (hT : Tab w) (hD : TabD w) (hs : s ≤ 18446744073709551615) (hbi : -9223372036854775808 ≤ (b : Int) ∧ (b : Int) ≤ 9223372036854775807) (hR : Reads w v l) (hS : Shape v l) :
    Calls Tryd.prog 4 #[.int .i64 f, .int .i64 (b : Int), .int .u64 (s : Int), v] w fun e w' => e = .returned (.bool true) ∧ On w w' := by
  obtain ⟨hbi1, hbi2⟩ := hbi
  have hg18 := grF_le f
  have HDD := Lib.hid hD
  have HX := Lib.hid (On.refl hT)
  obtain ⟨P, hP⟩ : ∃ P, P = l.take 64 := ⟨_, rfl⟩
  have hPl : P.length ≤ 64 := by rw [hP, List.length_take]; omega
  have HP1 := Lib.hid (fun w' (h : On w w') => hP ▸ w_own2 l 64 v w' h.tab (hR.on h) hS (by omega))
  have HP2 : Hid (∀ (u : Value) w', Tab w' → Reads w' u P → Shape u P → _) := fun u w' h1 h2 h3 => w_own2 P 64 u w' h1 h2 h3 (by omega)
  have HPE : Hid (P.take 64 = P) := by unfold Hid; exact List.take_of_length_le hPl
  rw [HPE.out] at HP2
  rw [← hP] at hM
  have h218 : 2 ^ b ≤ 2 ^ 18 := Nat.pow_le_pow_right (by omega) (by omega)
  obtain ⟨M, hMM⟩ : ∃ M, M = P.length * 2 ^ b := ⟨_, rfl⟩
  have hsh : (P.length : Int) * 2 ^ b = (M : Int) := by rw [hMM, Int.natCast_mul, Int.natCast_pow]; rfl
  have hMb : M ≤ 64 * 262144 := by rw [hMM]; exact Nat.mul_le_mul hPl h218
  rw [← hMM] at hM
  have hwM : IntKind.i64.wrap (M : Int) = (M : Int) := IntWalk.i64_in _ (by omega)
  have hwb : IntKind.u64.wrap (b : Int) = (b : Int) := IntWalk.u64_in _ (by omega)
  have hd1 : decide ((128 : Int) < (M : Int)) = true := by exact decide_eq_true (by omega)
  obtain ⟨L, c, hA, hB⟩ := coefs_pair f s P hs (by omega)
  obtain ⟨kk, hkk⟩ : ∃ kk : Int, kk = (b : Int) % 2 := ⟨_, rfl⟩
  have hk7 : (b : Int) % 2 = kk := hkk.symm
  have hk7t : Int.tmod (b : Int) 2 = kk := by rw [Int.tmod_eq_emod_of_nonneg (by omega)]; exact hk7
  obtain ⟨L2, c2, hA2, hB2⟩ := widen_pair f kk P (by omega) hPl (.inl (by omega))
  clear hkk hMM h218
  have HA := Lib.hid hA; have HB := Lib.hid hB; have HA2 := Lib.hid hA2; have HB2 := Lib.hid hB2
  clear hA hB hA2 hB2 hP hR hS hT hD HPE
  go_enter Tryd.func4, Tryd.ntmps4
  go_wp2_with fail
  have hO := HX.out
  have hOc := (On.refl HX.out.tab)
  refine (HP1.out _ HX.out).mono ?_
  rintro e w1 ⟨a1, c1, rfl, hR, hS, hO1⟩
  have HX := Lib.hid (hO.trans hO1)
  have R1 := Lib.hid hR
  have R2 := Lib.hid hS
  clear hO1 hO hOc hR hS
  go_wp2_with fail
  have hO := HX.out
  have hOc := (On.refl HX.out.tab)
  refine (HP2.out _ _ hO.tab (R1.out.on hOc) R2.out).mono ?_
  rintro e w2 ⟨a2, c3, rfl, hR, hS, hO1⟩
  have R1 := Lib.hid (R1.out.on (hOc.trans hO1))
  have HX := Lib.hid (hO.trans hO1)
  have R3 := Lib.hid hR
  have R4 := Lib.hid hS
  clear hO1 hO hOc hR hS
  go_wp2_with (first | (go_at_call 10; refine (rgreatest_any f _).mono ?_; rintro e w' ⟨rfl, rfl⟩) | fail)
  have hO := HX.out
  have hOc := (On.refl HX.out.tab)
  refine (HA.out _ _ hO.tab (HDD.out.on hO) (R1.out.on hOc)).mono ?_
  rintro e w3 ⟨a3, n3, rfl, hR, hO1⟩
  have R1 := Lib.hid (R1.out.on (hOc.trans hO1))
  have R3 := Lib.hid (R3.out.on (hOc.trans hO1))
  have HX := Lib.hid (hO.trans hO1)
  have R5 := Lib.hid hR
  clear hO1 hO hOc hR
  go_wp2_with fail
  have hO := HX.out
  have hOc := (On.refl HX.out.tab)
  refine (HB.out _ _ hO.tab (R3.out.on hOc)).mono ?_
  rintro e w4 ⟨a4, n4, rfl, hR, hO1⟩
  have R1 := Lib.hid (R1.out.on (hOc.trans hO1))
  have R3 := Lib.hid (R3.out.on (hOc.trans hO1))
  have R5 := Lib.hid (R5.out.on (hOc.trans hO1))
  have HX := Lib.hid (hO.trans hO1)
  have R6 := Lib.hid hR
  clear hO1 hO hOc hR
  go_wp2_with fail
  have hO := HX.out
  have hOc := (On.refl HX.out.tab)
  refine (HA2.out _ _ hO.tab (HDD.out.on hO) (R1.out.on hOc)).mono ?_
  rintro e w5 ⟨a5, n5, rfl, hR, hO1⟩
  have R1 := Lib.hid (R1.out.on (hOc.trans hO1))
  have R3 := Lib.hid (R3.out.on (hOc.trans hO1))
  have R5 := Lib.hid (R5.out.on (hOc.trans hO1))
  have R6 := Lib.hid (R6.out.on (hOc.trans hO1))
  have HX := Lib.hid (hO.trans hO1)
  have R7 := Lib.hid hR
  clear hO1 hO hOc hR
  go_wp2_with fail
  have hO := HX.out
  have hOc := (On.refl HX.out.tab)
  refine (HB2.out _ _ hO.tab (R3.out.on hOc)).mono ?_
  rintro e w6 ⟨a6, n6, rfl, hR, hO1⟩
  have R1 := Lib.hid (R1.out.on (hOc.trans hO1))
  have R3 := Lib.hid (R3.out.on (hOc.trans hO1))
  have R5 := Lib.hid (R5.out.on (hOc.trans hO1))
  have R6 := Lib.hid (R6.out.on (hOc.trans hO1))
  have R7 := Lib.hid (R7.out.on (hOc.trans hO1))
  have HX := Lib.hid (hO.trans hO1)
  have R8 := Lib.hid hR
  clear hO1 hO hOc hR
  have hcc : ((c : Int) == c) = true := by simp
  have hcc2 : ((c2 : Int) == c2) = true := by simp
  go_wp2_with fail
  have hO := HX.out
  have hOc := (On.refl HX.out.tab)
  refine (w_rsame L L _ _ _ true (by simp) hO.tab (R5.out.on hOc) (R6.out.on hOc)).mono ?_
  rintro e w7 ⟨rfl, hO1⟩
  have R1 := Lib.hid (R1.out.on (hOc.trans hO1))
  have R3 := Lib.hid (R3.out.on (hOc.trans hO1))
  have R5 := Lib.hid (R5.out.on (hOc.trans hO1))
  have R6 := Lib.hid (R6.out.on (hOc.trans hO1))
  have R7 := Lib.hid (R7.out.on (hOc.trans hO1))
  have R8 := Lib.hid (R8.out.on (hOc.trans hO1))
  have HX := Lib.hid (hO.trans hO1)
  clear hO1 hO hOc 
  go_wp2_with fail
  have hO := HX.out
  have hOc := (On.refl HX.out.tab)
  refine (w_rsame L2 L2 _ _ _ true (by simp) hO.tab (R7.out.on hOc) (R8.out.on hOc)).mono ?_
  rintro e w8 ⟨rfl, hO1⟩
  have R1 := Lib.hid (R1.out.on (hOc.trans hO1))
  have R3 := Lib.hid (R3.out.on (hOc.trans hO1))
  have R7 := Lib.hid (R7.out.on (hOc.trans hO1))
  have R8 := Lib.hid (R8.out.on (hOc.trans hO1))
  have HX := Lib.hid (hO.trans hO1)
  clear hO1 hO hOc 
  go_wp2_with fail
  have hO := HX.out
  have hOc := (On.refl HX.out.tab)
  refine (w_rsame P P _ _ _ true (by simp) hO.tab (R1.out.on hOc) (R3.out.on hOc)).mono ?_
  rintro e w9 ⟨rfl, hO1⟩
  have R1 := Lib.hid (R1.out.on (hOc.trans hO1))
  have R3 := Lib.hid (R3.out.on (hOc.trans hO1))
  have HX := Lib.hid (hO.trans hO1)
  clear hO1 hO hOc 
  go_wp2_with fail
  have hO := HX.out
  have hOc := (On.refl HX.out.tab)
  refine (works_any _ hO.tab (HDD.out.on hO)).mono ?_
  rintro e w10 ⟨rfl, hO1⟩
  have HX := Lib.hid (hO.trans hO1)
  clear hO1 hO hOc 
  go_wp2
  go_ret
  exact ⟨rfl, HX.out⟩
end Go.Proofs.YtgkegpnpooeghaaDoor
