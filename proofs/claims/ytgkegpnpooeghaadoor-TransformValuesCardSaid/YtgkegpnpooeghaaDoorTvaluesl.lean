/- The walk of the law TransformValues: it returns true. -/
import Derived.Test.YtgkegpnpooeghaaDoorTref3
import Derived.Test.YtgkegpnpooeghaaDoorTown2
namespace Go.Proofs.YtgkegpnpooeghaaDoor
open Go.RowKit
set_option linter.unusedVariables false

set_option maxHeartbeats 2000000 in
set_option maxRecDepth 100000 in
theorem values_turn (f k : Int) (s : Nat) (l : List Nat) (v : Value) (w : World) (hT : Tab w) (hD : TabD w) (hs : s ≤ 18446744073709551615) (hki : -9223372036854775808 ≤ k ∧ k ≤ 9223372036854775807) (hk6 : 6 < k) (hkg : k ≤ (grF f : Int)) (hR : Reads w v l) (hS : Shape v l) :
    Calls Tryd.prog 3 #[.int .i64 f, .int .i64 k, .int .u64 (s : Int), v] w fun e w' => e = .returned (.bool true) ∧ On w w' := by
  obtain ⟨hki1, hki2⟩ := hki
  have hg18 := grF_le f
  have HDD := Lib.hid hD
  have HX := Lib.hid (On.refl hT)
  obtain ⟨P, hP⟩ : ∃ P, P = l.take 80 := ⟨_, rfl⟩
  have HPl : Hid (P.length ≤ 80) := by unfold Hid; rw [hP, List.length_take]; omega
  have HP1 := Lib.hid (fun w' (h : On w w') => hP ▸ w_own2 l 80 v w' h.tab (hR.on h) hS (by omega))
  have HP2 : Hid (∀ (u : Value) w', Tab w' → Reads w' u P → Shape u P → _) := fun u w' h1 h2 h3 => w_own2 P 80 u w' h1 h2 h3 (by omega)
  have HPE : Hid (P.take 80 = P) := by unfold Hid; exact List.take_of_length_le HPl.out
  rw [HPE.out] at HP2
  obtain ⟨kk, hkk⟩ : ∃ kk : Int, kk = k % 7 := ⟨_, rfl⟩
  have hk7 : k % 7 = kk := hkk.symm
  have hk7t : Int.tmod k 7 = kk := by rw [Int.tmod_eq_emod_of_nonneg (by omega)]; exact hk7
  obtain ⟨L, c, hA, hB⟩ := values_pair f kk s P hs (.inr (.inr ⟨by omega, by omega, by omega⟩)) (by have := HPl.out; omega)
  clear hkk
  have HA := Lib.hid hA; have HB := Lib.hid hB
  clear hA hB hP hR hS hT hD HPE HPl
  go_enter Tryd.func3, Tryd.ntmps3
  go_wp2_with (first | (go_at_call 10; refine (rgreatest_any f _).mono ?_; rintro e w' ⟨rfl, rfl⟩) | fail)
  have hO := HX.out
  have hOc := (On.refl HX.out.tab)
  refine (HP1.out _ HX.out).mono ?_
  rintro e w1 ⟨a1, c1, rfl, hR, hS, hO1⟩
  have HX := Lib.hid (hO.trans hO1)
  have R1 := Lib.hid hR
  have R2 := Lib.hid hS
  clear hO1 hO hOc hR hS
  go_wp2_with fail
  have hO := HX.out
  have hOc := (On.refl HX.out.tab)
  refine (HP2.out _ _ hO.tab (R1.out.on hOc) R2.out).mono ?_
  rintro e w2 ⟨a2, c2, rfl, hR, hS, hO1⟩
  have R1 := Lib.hid (R1.out.on (hOc.trans hO1))
  have HX := Lib.hid (hO.trans hO1)
  have R3 := Lib.hid hR
  have R4 := Lib.hid hS
  clear hO1 hO hOc hR hS
  go_wp2_with fail
  have hO := HX.out
  have hOc := (On.refl HX.out.tab)
  refine (HA.out _ _ hO.tab (R1.out.on hOc)).mono ?_
  rintro e w3 ⟨a3, n3, rfl, hR, hO1⟩
  have R1 := Lib.hid (R1.out.on (hOc.trans hO1))
  have R3 := Lib.hid (R3.out.on (hOc.trans hO1))
  have HX := Lib.hid (hO.trans hO1)
  have R5 := Lib.hid hR
  clear hO1 hO hOc hR
  go_wp2_with fail
  have hO := HX.out
  have hOc := (On.refl HX.out.tab)
  refine (HB.out _ _ hO.tab (R3.out.on hOc)).mono ?_
  rintro e w4 ⟨a4, n4, rfl, hR, hO1⟩
  have R1 := Lib.hid (R1.out.on (hOc.trans hO1))
  have R3 := Lib.hid (R3.out.on (hOc.trans hO1))
  have R5 := Lib.hid (R5.out.on (hOc.trans hO1))
  have HX := Lib.hid (hO.trans hO1)
  have R6 := Lib.hid hR
  clear hO1 hO hOc hR
  have hcc : ((c : Int) == c) = true := by simp
  go_wp2_with fail
  have hO := HX.out
  have hOc := (On.refl HX.out.tab)
  refine (w_rsame L L _ _ _ true (by simp) hO.tab (R5.out.on hOc) (R6.out.on hOc)).mono ?_
  rintro e w5 ⟨rfl, hO1⟩
  have R1 := Lib.hid (R1.out.on (hOc.trans hO1))
  have R3 := Lib.hid (R3.out.on (hOc.trans hO1))
  have R5 := Lib.hid (R5.out.on (hOc.trans hO1))
  have R6 := Lib.hid (R6.out.on (hOc.trans hO1))
  have HX := Lib.hid (hO.trans hO1)
  clear hO1 hO hOc 
  go_wp2_with fail
  have hO := HX.out
  have hOc := (On.refl HX.out.tab)
  refine (w_rsame P P _ _ _ true (by simp) hO.tab (R1.out.on hOc) (R3.out.on hOc)).mono ?_
  rintro e w6 ⟨rfl, hO1⟩
  have R1 := Lib.hid (R1.out.on (hOc.trans hO1))
  have R3 := Lib.hid (R3.out.on (hOc.trans hO1))
  have HX := Lib.hid (hO.trans hO1)
  clear hO1 hO hOc 
  go_wp2_with fail
  have hO := HX.out
  have hOc := (On.refl HX.out.tab)
  refine (works_any _ hO.tab (HDD.out.on hO)).mono ?_
  rintro e w7 ⟨rfl, hO1⟩
  have HX := Lib.hid (hO.trans hO1)
  clear hO1 hO hOc 
  go_wp2
  go_ret
  exact ⟨rfl, HX.out⟩
set_option maxHeartbeats 2000000 in
set_option maxRecDepth 100000 in
theorem values_stay (f k : Int) (s : Nat) (l : List Nat) (v : Value) (w : World) (hT : Tab w) (hD : TabD w) (hs : s ≤ 18446744073709551615) (hki : -9223372036854775808 ≤ k ∧ k ≤ 9223372036854775807) (hk6 : ¬ 6 < k ∨ (6 < k ∧ ¬ k ≤ (grF f : Int))) (hR : Reads w v l) (hS : Shape v l) :
    Calls Tryd.prog 3 #[.int .i64 f, .int .i64 k, .int .u64 (s : Int), v] w fun e w' => e = .returned (.bool true) ∧ On w w' := by
  obtain ⟨hki1, hki2⟩ := hki
  have hg18 := grF_le f
  have HDD := Lib.hid hD
  have HX := Lib.hid (On.refl hT)
  obtain ⟨P, hP⟩ : ∃ P, P = l.take 80 := ⟨_, rfl⟩
  have HPl : Hid (P.length ≤ 80) := by unfold Hid; rw [hP, List.length_take]; omega
  have HP1 := Lib.hid (fun w' (h : On w w') => hP ▸ w_own2 l 80 v w' h.tab (hR.on h) hS (by omega))
  have HP2 : Hid (∀ (u : Value) w', Tab w' → Reads w' u P → Shape u P → _) := fun u w' h1 h2 h3 => w_own2 P 80 u w' h1 h2 h3 (by omega)
  have HPE : Hid (P.take 80 = P) := by unfold Hid; exact List.take_of_length_le HPl.out
  rw [HPE.out] at HP2
  have hc : ¬ 6 < k ∨ (6 < k ∧ (grF f : Int) < k) := by omega
  obtain ⟨L, c, hA, hB⟩ := values_pair f k s P hs (by omega) (by have := HPl.out; omega)
  clear hk6
  have HA := Lib.hid hA; have HB := Lib.hid hB
  clear hA hB hP hR hS hT hD HPE HPl
  rcases hc with hc1 | ⟨hc1, hc2⟩
  all_goals
    go_enter Tryd.func3, Tryd.ntmps3
    go_wp2_with (first | (go_at_call 10; refine (rgreatest_any f _).mono ?_; rintro e w' ⟨rfl, rfl⟩) | fail)
    have hO := HX.out
    have hOc := (On.refl HX.out.tab)
    refine (HP1.out _ HX.out).mono ?_
    rintro e w1 ⟨a1, c1, rfl, hR, hS, hO1⟩
    have HX := Lib.hid (hO.trans hO1)
    have R1 := Lib.hid hR
    have R2 := Lib.hid hS
    clear hO1 hO hOc hR hS
    go_wp2_with fail
    have hO := HX.out
    have hOc := (On.refl HX.out.tab)
    refine (HP2.out _ _ hO.tab (R1.out.on hOc) R2.out).mono ?_
    rintro e w2 ⟨a2, c2, rfl, hR, hS, hO1⟩
    have R1 := Lib.hid (R1.out.on (hOc.trans hO1))
    have HX := Lib.hid (hO.trans hO1)
    have R3 := Lib.hid hR
    have R4 := Lib.hid hS
    clear hO1 hO hOc hR hS
    go_wp2_with fail
    have hO := HX.out
    have hOc := (On.refl HX.out.tab)
    refine (HA.out _ _ hO.tab (R1.out.on hOc)).mono ?_
    rintro e w3 ⟨a3, n3, rfl, hR, hO1⟩
    have R1 := Lib.hid (R1.out.on (hOc.trans hO1))
    have R3 := Lib.hid (R3.out.on (hOc.trans hO1))
    have HX := Lib.hid (hO.trans hO1)
    have R5 := Lib.hid hR
    clear hO1 hO hOc hR
    go_wp2_with fail
    have hO := HX.out
    have hOc := (On.refl HX.out.tab)
    refine (HB.out _ _ hO.tab (R3.out.on hOc)).mono ?_
    rintro e w4 ⟨a4, n4, rfl, hR, hO1⟩
    have R1 := Lib.hid (R1.out.on (hOc.trans hO1))
    have R3 := Lib.hid (R3.out.on (hOc.trans hO1))
    have R5 := Lib.hid (R5.out.on (hOc.trans hO1))
    have HX := Lib.hid (hO.trans hO1)
    have R6 := Lib.hid hR
    clear hO1 hO hOc hR
    have hcc : ((c : Int) == c) = true := by simp
    go_wp2_with fail
    have hO := HX.out
    have hOc := (On.refl HX.out.tab)
    refine (w_rsame L L _ _ _ true (by simp) hO.tab (R5.out.on hOc) (R6.out.on hOc)).mono ?_
    rintro e w5 ⟨rfl, hO1⟩
    have R1 := Lib.hid (R1.out.on (hOc.trans hO1))
    have R3 := Lib.hid (R3.out.on (hOc.trans hO1))
    have R5 := Lib.hid (R5.out.on (hOc.trans hO1))
    have R6 := Lib.hid (R6.out.on (hOc.trans hO1))
    have HX := Lib.hid (hO.trans hO1)
    clear hO1 hO hOc 
    go_wp2_with fail
    have hO := HX.out
    have hOc := (On.refl HX.out.tab)
    refine (w_rsame P P _ _ _ true (by simp) hO.tab (R1.out.on hOc) (R3.out.on hOc)).mono ?_
    rintro e w6 ⟨rfl, hO1⟩
    have R1 := Lib.hid (R1.out.on (hOc.trans hO1))
    have R3 := Lib.hid (R3.out.on (hOc.trans hO1))
    have HX := Lib.hid (hO.trans hO1)
    clear hO1 hO hOc 
    go_wp2_with fail
    have hO := HX.out
    have hOc := (On.refl HX.out.tab)
    refine (works_any _ hO.tab (HDD.out.on hO)).mono ?_
    rintro e w7 ⟨rfl, hO1⟩
    have HX := Lib.hid (hO.trans hO1)
    clear hO1 hO hOc 
    go_wp2
    go_ret
    exact ⟨rfl, HX.out⟩
end Go.Proofs.YtgkegpnpooeghaaDoor
