/- The walk of the law TransformMultiplies: it returns true. -/
import Derived.Test.YtgkegpnpooeghaaDoorTref3
import Derived.Test.YtgkegpnpooeghaaDoorTown2
namespace Go.Proofs.YtgkegpnpooeghaaDoor
open Go.RowKit
set_option linter.unusedVariables false

set_option maxHeartbeats 2000000 in
set_option maxRecDepth 100000 in
theorem multiplies_any (f : Int) (la lb : List Nat) (va vb : Value) (w : World) (hT : Tab w) (hD : TabD w) (hRa : Reads w va la) (hSa : Shape va la) (hRb : Reads w vb lb) (hSb : Shape vb lb) :
    Calls Tryd.prog 5 #[.int .i64 f, va, vb] w fun e w' => e = .returned (.bool true) ∧ On w w' := by
  have HDD := Lib.hid hD
  have HX := Lib.hid (On.refl hT)
  obtain ⟨P, hP⟩ : ∃ P, P = la.take 300 := ⟨_, rfl⟩
  obtain ⟨Q, hQ⟩ : ∃ Q, Q = lb.take 300 := ⟨_, rfl⟩
  have HPl : Hid (P.length ≤ 300) := by unfold Hid; rw [hP, List.length_take]; omega
  have HQl : Hid (Q.length ≤ 300) := by unfold Hid; rw [hQ, List.length_take]; omega
  have HP1 := Lib.hid (fun w' (h : On w w') => hP ▸ w_own2 la 300 va w' h.tab (hRa.on h) hSa (by omega))
  have HQ1 := Lib.hid (fun w' (h : On w w') => hQ ▸ w_own2 lb 300 vb w' h.tab (hRb.on h) hSb (by omega))
  have HP2 : Hid (∀ (u : Value) w', Tab w' → Reads w' u P → Shape u P → _) := fun u w' h1 h2 h3 => w_own2 P 300 u w' h1 h2 h3 (by omega)
  have HPE : Hid (P.take 300 = P) := by unfold Hid; exact List.take_of_length_le HPl.out
  have HQ2 : Hid (∀ (u : Value) w', Tab w' → Reads w' u Q → Shape u Q → _) := fun u w' h1 h2 h3 => w_own2 Q 300 u w' h1 h2 h3 (by omega)
  have HQE : Hid (Q.take 300 = Q) := by unfold Hid; exact List.take_of_length_le HQl.out
  rw [HPE.out] at HP2
  rw [HQE.out] at HQ2
  obtain ⟨L, c, hA, hB⟩ := mult_pair f P Q (by have := HPl.out; omega) (by have := HQl.out; omega)
  have HA := Lib.hid hA; have HB := Lib.hid hB
  clear hA hB hP hQ hRa hSa hRb hSb hT hD HPE HPl HQE HQl
  go_enter Tryd.func5, Tryd.ntmps5
  go_wp2_with fail
  have hO := HX.out
  have hOc := (On.refl HX.out.tab)
  refine (HP1.out _ HX.out).mono ?_
  rintro e w1 ⟨a1, c1, rfl, hR, hS, hO1⟩
  have HX := Lib.hid (hO.trans hO1)
  have R1 := Lib.hid hR
  have R2 := Lib.hid hS
  clear hO1 hO hOc hR hS
  go_wp2_with fail
  have hO := HX.out
  have hOc := (On.refl HX.out.tab)
  refine (HQ1.out _ HX.out).mono ?_
  rintro e w2 ⟨a2, c2, rfl, hR, hS, hO1⟩
  have R1 := Lib.hid (R1.out.on (hOc.trans hO1))
  have HX := Lib.hid (hO.trans hO1)
  have R3 := Lib.hid hR
  have R4 := Lib.hid hS
  clear hO1 hO hOc hR hS
  go_wp2_with fail
  have hO := HX.out
  have hOc := (On.refl HX.out.tab)
  refine (HP2.out _ _ hO.tab (R1.out.on hOc) R2.out).mono ?_
  rintro e w3 ⟨a3, c3, rfl, hR, hS, hO1⟩
  have R1 := Lib.hid (R1.out.on (hOc.trans hO1))
  have R3 := Lib.hid (R3.out.on (hOc.trans hO1))
  have HX := Lib.hid (hO.trans hO1)
  have R5 := Lib.hid hR
  have R6 := Lib.hid hS
  clear hO1 hO hOc hR hS
  go_wp2_with fail
  have hO := HX.out
  have hOc := (On.refl HX.out.tab)
  refine (HQ2.out _ _ hO.tab (R3.out.on hOc) R4.out).mono ?_
  rintro e w4 ⟨a4, c4, rfl, hR, hS, hO1⟩
  have R1 := Lib.hid (R1.out.on (hOc.trans hO1))
  have R3 := Lib.hid (R3.out.on (hOc.trans hO1))
  have R5 := Lib.hid (R5.out.on (hOc.trans hO1))
  have HX := Lib.hid (hO.trans hO1)
  have R7 := Lib.hid hR
  have R8 := Lib.hid hS
  clear hO1 hO hOc hR hS
  go_wp2_with fail
  have hO := HX.out
  have hOc := (On.refl HX.out.tab)
  refine (HA.out _ _ _ hO.tab (R1.out.on hOc) (R3.out.on hOc)).mono ?_
  rintro e w5 ⟨a5, n5, rfl, hR, hO1⟩
  have R1 := Lib.hid (R1.out.on (hOc.trans hO1))
  have R3 := Lib.hid (R3.out.on (hOc.trans hO1))
  have R5 := Lib.hid (R5.out.on (hOc.trans hO1))
  have R7 := Lib.hid (R7.out.on (hOc.trans hO1))
  have HX := Lib.hid (hO.trans hO1)
  have R9 := Lib.hid hR
  clear hO1 hO hOc hR
  go_wp2_with fail
  have hO := HX.out
  have hOc := (On.refl HX.out.tab)
  refine (HB.out _ _ _ hO.tab (R5.out.on hOc) (R7.out.on hOc)).mono ?_
  rintro e w6 ⟨a6, n6, rfl, hR, hO1⟩
  have R1 := Lib.hid (R1.out.on (hOc.trans hO1))
  have R3 := Lib.hid (R3.out.on (hOc.trans hO1))
  have R5 := Lib.hid (R5.out.on (hOc.trans hO1))
  have R7 := Lib.hid (R7.out.on (hOc.trans hO1))
  have R9 := Lib.hid (R9.out.on (hOc.trans hO1))
  have HX := Lib.hid (hO.trans hO1)
  have R10 := Lib.hid hR
  clear hO1 hO hOc hR
  have hcc : ((c : Int) == c) = true := by simp
  go_wp2_with fail
  have hO := HX.out
  have hOc := (On.refl HX.out.tab)
  refine (w_rsame L L _ _ _ true (by simp) hO.tab (R9.out.on hOc) (R10.out.on hOc)).mono ?_
  rintro e w7 ⟨rfl, hO1⟩
  have R1 := Lib.hid (R1.out.on (hOc.trans hO1))
  have R3 := Lib.hid (R3.out.on (hOc.trans hO1))
  have R5 := Lib.hid (R5.out.on (hOc.trans hO1))
  have R7 := Lib.hid (R7.out.on (hOc.trans hO1))
  have R9 := Lib.hid (R9.out.on (hOc.trans hO1))
  have R10 := Lib.hid (R10.out.on (hOc.trans hO1))
  have HX := Lib.hid (hO.trans hO1)
  clear hO1 hO hOc 
  go_wp2_with fail
  have hO := HX.out
  have hOc := (On.refl HX.out.tab)
  refine (w_rsame P P _ _ _ true (by simp) hO.tab (R1.out.on hOc) (R5.out.on hOc)).mono ?_
  rintro e w8 ⟨rfl, hO1⟩
  have R1 := Lib.hid (R1.out.on (hOc.trans hO1))
  have R3 := Lib.hid (R3.out.on (hOc.trans hO1))
  have R5 := Lib.hid (R5.out.on (hOc.trans hO1))
  have R7 := Lib.hid (R7.out.on (hOc.trans hO1))
  have HX := Lib.hid (hO.trans hO1)
  clear hO1 hO hOc 
  go_wp2_with fail
  have hO := HX.out
  have hOc := (On.refl HX.out.tab)
  refine (w_rsame Q Q _ _ _ true (by simp) hO.tab (R3.out.on hOc) (R7.out.on hOc)).mono ?_
  rintro e w9 ⟨rfl, hO1⟩
  have R1 := Lib.hid (R1.out.on (hOc.trans hO1))
  have R3 := Lib.hid (R3.out.on (hOc.trans hO1))
  have R5 := Lib.hid (R5.out.on (hOc.trans hO1))
  have R7 := Lib.hid (R7.out.on (hOc.trans hO1))
  have HX := Lib.hid (hO.trans hO1)
  clear hO1 hO hOc 
  go_wp2_with fail
  have hO := HX.out
  have hOc := (On.refl HX.out.tab)
  refine (works_any _ hO.tab (HDD.out.on hO)).mono ?_
  rintro e w10 ⟨rfl, hO1⟩
  have HX := Lib.hid (hO.trans hO1)
  clear hO1 hO hOc 
  go_wp2
  go_ret
  exact ⟨rfl, HX.out⟩
end Go.Proofs.YtgkegpnpooeghaaDoor
