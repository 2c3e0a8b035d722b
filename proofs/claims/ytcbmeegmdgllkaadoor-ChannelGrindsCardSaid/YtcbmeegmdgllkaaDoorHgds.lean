/- The walk of the law ChannelGrinds: it returns true. -/
import Derived.Test.YtcbmeegmdgllkaaDoorHrgr
import Derived.Test.YtcbmeegmdgllkaaDoorHlaw
namespace Go.Proofs.YtcbmeegmdgllkaaDoor
open Go.RowKit
set_option linter.unusedVariables false

set_option maxHeartbeats 4000000 in
set_option maxRecDepth 100000 in
theorem grinds_any (f : Int) (s : St) (n1 : Nat) (x2 x3 : Int) (w : World) (hT : Tab w) (hs : Sm s) (hn : n1 ≤ 18446744073709551615) (h3 : x3 ≤ 9223372036854775807) (h30 : -9223372036854775808 ≤ x3) :
    Calls Tryd.prog 4 #[.agg #[.int .i64 f, .int .u64 (s.a : Int), .int .u64 (s.b : Int), .int .u64 (s.c : Int), .int .u64 (s.d : Int)], .int .u64 (n1 : Int), .int .i64 x2, .int .i64 x3] w fun e w' => e = .returned (.bool true) ∧ On w w' := by
  have hA0 := vb_new w #[.int .i64 f, .int .u64 (s.a : Int), .int .u64 (s.b : Int), .int .u64 (s.c : Int), .int .u64 (s.d : Int)] 25
  obtain ⟨W0, hW0⟩ : ∃ W0, W0 = w.alloc (.cells #[.int .i64 f, .int .u64 (s.a : Int), .int .u64 (s.b : Int), .int .u64 (s.c : Int), .int .u64 (s.d : Int)] 25) := ⟨_, rfl⟩
  rw [← hW0] at hA0
  have HC0 : Hid (VB w.heap.size W0 (chL f s)) := hA0
  have HO : Hid (On w W0) := by rw [hW0]; exact (On.refl hT).alloc _
  have HW0 := Lib.hid hW0
  have HLV := Lib.hid hlives_any
  have HEQ : Hid (∀ (g : Int) (t : St) (w : World), (Op.equalIn 10000 25 (.agg #[.int .i64 g, .int .u64 (t.a : Int), .int .u64 (t.b : Int), .int .u64 (t.c : Int), .int .u64 (t.d : Int)]) (.agg #[.int .i64 g, .int .u64 (t.a : Int), .int .u64 (t.b : Int), .int .u64 (t.c : Int), .int .u64 (t.d : Int)])).run Tryd.prog w = .ok true w) := fun g t w => by rw [heqC, steB_refl]
  obtain ⟨M, hM⟩ : ∃ M, M = min x3 200 := ⟨_, rfl⟩
  have hM1 : M ≤ 9223372036854775807 := by omega
  have hM2 : -9223372036854775808 ≤ M := by omega
  have HMIN : Hid (∀ w, (Builtin.min_ #[3, 3] 3 #[.int .i64 x3, .int .i64 200]).run Tryd.prog w = .ok (.int .i64 M) w) := fun w => by
    rw [hM]
    simp only [Builtin.min_, List.foldlM_cons, List.foldlM_nil, Builtin.min2]
    simp
    try (repeat' split) <;> (try simp) <;> omega
  have HGRI : Hid (∀ nb : Int, ∃ (F2 : Int) (Z2 : St) (B2 : Bool), (∀ u, Tab u → Calls Tryd.prog 15 #[.agg #[.int .i64 f, .int .u64 (s.a : Int), .int .u64 (s.b : Int), .int .u64 (s.c : Int), .int .u64 (s.d : Int)], .int .u64 (n1 : Int), .int .i64 nb] u fun e w' => e = .returned (.tuple #[.agg #[.int .i64 F2, .int .u64 (Z2.a : Int), .int .u64 (Z2.b : Int), .int .u64 (Z2.c : Int), .int .u64 (Z2.d : Int)], .bool B2]) ∧ On u w') ∧ (∀ u, Tab u → Calls Tryd.prog 16 #[.agg #[.int .i64 f, .int .u64 (s.a : Int), .int .u64 (s.b : Int), .int .u64 (s.c : Int), .int .u64 (s.d : Int)], .int .u64 (n1 : Int), .int .i64 nb] u fun e w' => e = .returned (.tuple #[.agg #[.int .i64 F2, .int .u64 (Z2.a : Int), .int .u64 (Z2.b : Int), .int .u64 (Z2.c : Int), .int .u64 (Z2.d : Int)], .bool B2]) ∧ On u w')) := fun nb => ⟨_, _, _, fun u h => grind_any f nb s n1 u h hs hn, fun u h => rgrind_any f nb s n1 u h hs hn⟩
  have HSEA : Hid (∀ nb : Int, ∃ (I2 : Nat) (D2 : Bool), (∀ u, Tab u → Calls Tryd.prog 17 #[.agg #[.int .i64 f, .int .u64 (s.a : Int), .int .u64 (s.b : Int), .int .u64 (s.c : Int), .int .u64 (s.d : Int)], .int .i64 nb, .int .i64 M] u fun e w' => e = .returned (.tuple #[.int .u64 (I2 : Int), .bool D2]) ∧ On u w') ∧ (∀ u, Tab u → Calls Tryd.prog 18 #[.agg #[.int .i64 f, .int .u64 (s.a : Int), .int .u64 (s.b : Int), .int .u64 (s.c : Int), .int .u64 (s.d : Int)], .int .i64 nb, .int .i64 M] u fun e w' => e = .returned (.tuple #[.int .u64 (I2 : Int), .bool D2]) ∧ On u w')) := fun nb => ⟨_, _, fun u h => search_any f nb M s u h hs hM1 hM2, fun u h => rsearch_any f nb M s u h hs hM1 hM2⟩
  clear hA0 hW0 hT hs hn h3 h30 hM hM1 hM2
  go_enter Tryd.func4, Tryd.ntmps4
  go_upto_region 1 with fail
  rw [← HW0.out]
  have hmin := HMIN.out
  go_upto_region 3 with fail
  clear hmin
  go_loopw [23] (fun vi wr => ∃ k : Nat, k ≤ 3 ∧ vi = .int .i64 (k : Int) ∧ Hid (VB w.heap.size wr (chL f s)) ∧ Hid (On w wr)) (fun vi _ => 3 - (intOf vi).toNat)
  case atStart => exact ⟨0, by omega, rfl, HC0.out, HO.out⟩
  case round =>
    obtain ⟨k, hk, rfl, HCr, HOr⟩ := hrel
    by_cases hk4 : k < 3
    · rcases (show k = 0 ∨ k = 1 ∨ k = 2 by omega) with rfl | rfl | rfl
      · obtain ⟨F2, Z2, B2, hP1, hP2⟩ := HGRI.out x2
        have HP1 := Lib.hid hP1
        have HP2 := Lib.hid hP2
        obtain ⟨I2, D2, hP3, hP4⟩ := HSEA.out x2
        have HP3 := Lib.hid hP3
        have HP4 := Lib.hid hP4
        clear hP1 hP2 hP3 hP4
        have hix : ∀ w, (Instr.index 33 (.agg #[.int .i64 x2, .int .i64 1, .int .i64 3]) (.int .i64 0)).run Tryd.prog w = .ok (.int .i64 x2) w := fun _ => by kernel_rfl
        obtain ⟨Cc0, Cc1, Cc2, Cc3, Cc4⟩ := HCr.out.cells5
        go_wp2_with fail
        with_reducible refine (HP1.out _ (HOr.out).tab).mono ?_
        rintro e u1 ⟨rfl, hu1⟩
        clear Cc0 Cc1 Cc2 Cc3 Cc4
        have HOu1 := Lib.hid (HOr.out.trans hu1)
        have CH1 := Lib.hid (HCr.out.on hu1)
        clear hu1
        clear hix
        go_upto_region 6 with fail
        have AH20 : Hid (VB u1.heap.size (u1.alloc (.cells #[.int .i64 F2, .int .u64 (Z2.a : Int), .int .u64 (Z2.b : Int), .int .u64 (Z2.c : Int), .int .u64 (Z2.d : Int)] 25)) (chL F2 Z2)) := vb_new _ _ _
        have HAu2 : Hid (On u1 (u1.alloc (.cells #[.int .i64 F2, .int .u64 (Z2.a : Int), .int .u64 (Z2.b : Int), .int .u64 (Z2.c : Int), .int .u64 (Z2.d : Int)] 25))) := (On.refl HOu1.out.tab).alloc _
        have HOu2 := Lib.hid (HOu1.out.trans HAu2.out)
        have CH3 := Lib.hid (CH1.out.on HAu2.out)
        generalize u1.alloc (.cells #[.int .i64 F2, .int .u64 (Z2.a : Int), .int .u64 (Z2.b : Int), .int .u64 (Z2.c : Int), .int .u64 (Z2.d : Int)] 25) = u2 at *
        clear HAu2
        obtain ⟨Cc0, Cc1, Cc2, Cc3, Cc4⟩ := CH3.out.cells5
        go_wp2_with fail
        with_reducible refine (HP2.out _ (HOu2.out).tab).mono ?_
        rintro e u3 ⟨rfl, hu3⟩
        clear Cc0 Cc1 Cc2 Cc3 Cc4
        have HOu3 := Lib.hid (HOu2.out.trans hu3)
        have CH4 := Lib.hid (CH3.out.on hu3)
        have AH4 := Lib.hid (AH20.out.on hu3)
        clear hu3
        go_upto_region 7 with fail
        have BH50 : Hid (VB u3.heap.size (u3.alloc (.cells #[.int .i64 F2, .int .u64 (Z2.a : Int), .int .u64 (Z2.b : Int), .int .u64 (Z2.c : Int), .int .u64 (Z2.d : Int)] 25)) (chL F2 Z2)) := vb_new _ _ _
        have HAu4 : Hid (On u3 (u3.alloc (.cells #[.int .i64 F2, .int .u64 (Z2.a : Int), .int .u64 (Z2.b : Int), .int .u64 (Z2.c : Int), .int .u64 (Z2.d : Int)] 25))) := (On.refl HOu3.out.tab).alloc _
        have HOu4 := Lib.hid (HOu3.out.trans HAu4.out)
        have CH6 := Lib.hid (CH4.out.on HAu4.out)
        have AH6 := Lib.hid (AH4.out.on HAu4.out)
        generalize u3.alloc (.cells #[.int .i64 F2, .int .u64 (Z2.a : Int), .int .u64 (Z2.b : Int), .int .u64 (Z2.c : Int), .int .u64 (Z2.d : Int)] 25) = u4 at *
        clear HAu4
        obtain ⟨Cc0, Cc1, Cc2, Cc3, Cc4⟩ := CH6.out.cells5
        go_wp2_with fail
        with_reducible refine (HP3.out _ (HOu4.out).tab).mono ?_
        rintro e u5 ⟨rfl, hu5⟩
        clear Cc0 Cc1 Cc2 Cc3 Cc4
        have HOu5 := Lib.hid (HOu4.out.trans hu5)
        have CH7 := Lib.hid (CH6.out.on hu5)
        have AH7 := Lib.hid (AH6.out.on hu5)
        have BH7 := Lib.hid (BH50.out.on hu5)
        clear hu5
        go_upto_region 8 with fail
        obtain ⟨Cc0, Cc1, Cc2, Cc3, Cc4⟩ := CH7.out.cells5
        go_wp2_with fail
        with_reducible refine (HP4.out _ (HOu5.out).tab).mono ?_
        rintro e u6 ⟨rfl, hu6⟩
        clear Cc0 Cc1 Cc2 Cc3 Cc4
        have HOu6 := Lib.hid (HOu5.out.trans hu6)
        have CH8 := Lib.hid (CH7.out.on hu6)
        have AH8 := Lib.hid (AH7.out.on hu6)
        have BH8 := Lib.hid (BH7.out.on hu6)
        clear hu6
        go_upto_region 9 with fail
        obtain ⟨Ac0, Ac1, Ac2, Ac3, Ac4⟩ := AH8.out.cells5
        obtain ⟨Bc0, Bc1, Bc2, Bc3, Bc4⟩ := BH8.out.cells5
        have hq := HEQ.out F2 Z2
        have hb1 : (B2 != B2) = false := by cases B2 <;> rfl
        have hb2 : (D2 != D2) = false := by cases D2 <;> rfl
        go_wp2
        go_roundw
        case rel => exact ⟨1, by omega, by go_num, CH8.out, HOu6.out⟩
        case measure => simp [intOf]
      · obtain ⟨F2, Z2, B2, hP1, hP2⟩ := HGRI.out 1
        have HP1 := Lib.hid hP1
        have HP2 := Lib.hid hP2
        obtain ⟨I2, D2, hP3, hP4⟩ := HSEA.out 1
        have HP3 := Lib.hid hP3
        have HP4 := Lib.hid hP4
        clear hP1 hP2 hP3 hP4
        have hix : ∀ w, (Instr.index 33 (.agg #[.int .i64 x2, .int .i64 1, .int .i64 3]) (.int .i64 1)).run Tryd.prog w = .ok (.int .i64 1) w := fun _ => by kernel_rfl
        obtain ⟨Cc0, Cc1, Cc2, Cc3, Cc4⟩ := HCr.out.cells5
        go_wp2_with fail
        with_reducible refine (HP1.out _ (HOr.out).tab).mono ?_
        rintro e u1 ⟨rfl, hu1⟩
        clear Cc0 Cc1 Cc2 Cc3 Cc4
        have HOu1 := Lib.hid (HOr.out.trans hu1)
        have CH1 := Lib.hid (HCr.out.on hu1)
        clear hu1
        clear hix
        go_upto_region 6 with fail
        have AH20 : Hid (VB u1.heap.size (u1.alloc (.cells #[.int .i64 F2, .int .u64 (Z2.a : Int), .int .u64 (Z2.b : Int), .int .u64 (Z2.c : Int), .int .u64 (Z2.d : Int)] 25)) (chL F2 Z2)) := vb_new _ _ _
        have HAu2 : Hid (On u1 (u1.alloc (.cells #[.int .i64 F2, .int .u64 (Z2.a : Int), .int .u64 (Z2.b : Int), .int .u64 (Z2.c : Int), .int .u64 (Z2.d : Int)] 25))) := (On.refl HOu1.out.tab).alloc _
        have HOu2 := Lib.hid (HOu1.out.trans HAu2.out)
        have CH3 := Lib.hid (CH1.out.on HAu2.out)
        generalize u1.alloc (.cells #[.int .i64 F2, .int .u64 (Z2.a : Int), .int .u64 (Z2.b : Int), .int .u64 (Z2.c : Int), .int .u64 (Z2.d : Int)] 25) = u2 at *
        clear HAu2
        obtain ⟨Cc0, Cc1, Cc2, Cc3, Cc4⟩ := CH3.out.cells5
        go_wp2_with fail
        with_reducible refine (HP2.out _ (HOu2.out).tab).mono ?_
        rintro e u3 ⟨rfl, hu3⟩
        clear Cc0 Cc1 Cc2 Cc3 Cc4
        have HOu3 := Lib.hid (HOu2.out.trans hu3)
        have CH4 := Lib.hid (CH3.out.on hu3)
        have AH4 := Lib.hid (AH20.out.on hu3)
        clear hu3
        go_upto_region 7 with fail
        have BH50 : Hid (VB u3.heap.size (u3.alloc (.cells #[.int .i64 F2, .int .u64 (Z2.a : Int), .int .u64 (Z2.b : Int), .int .u64 (Z2.c : Int), .int .u64 (Z2.d : Int)] 25)) (chL F2 Z2)) := vb_new _ _ _
        have HAu4 : Hid (On u3 (u3.alloc (.cells #[.int .i64 F2, .int .u64 (Z2.a : Int), .int .u64 (Z2.b : Int), .int .u64 (Z2.c : Int), .int .u64 (Z2.d : Int)] 25))) := (On.refl HOu3.out.tab).alloc _
        have HOu4 := Lib.hid (HOu3.out.trans HAu4.out)
        have CH6 := Lib.hid (CH4.out.on HAu4.out)
        have AH6 := Lib.hid (AH4.out.on HAu4.out)
        generalize u3.alloc (.cells #[.int .i64 F2, .int .u64 (Z2.a : Int), .int .u64 (Z2.b : Int), .int .u64 (Z2.c : Int), .int .u64 (Z2.d : Int)] 25) = u4 at *
        clear HAu4
        obtain ⟨Cc0, Cc1, Cc2, Cc3, Cc4⟩ := CH6.out.cells5
        go_wp2_with fail
        with_reducible refine (HP3.out _ (HOu4.out).tab).mono ?_
        rintro e u5 ⟨rfl, hu5⟩
        clear Cc0 Cc1 Cc2 Cc3 Cc4
        have HOu5 := Lib.hid (HOu4.out.trans hu5)
        have CH7 := Lib.hid (CH6.out.on hu5)
        have AH7 := Lib.hid (AH6.out.on hu5)
        have BH7 := Lib.hid (BH50.out.on hu5)
        clear hu5
        go_upto_region 8 with fail
        obtain ⟨Cc0, Cc1, Cc2, Cc3, Cc4⟩ := CH7.out.cells5
        go_wp2_with fail
        with_reducible refine (HP4.out _ (HOu5.out).tab).mono ?_
        rintro e u6 ⟨rfl, hu6⟩
        clear Cc0 Cc1 Cc2 Cc3 Cc4
        have HOu6 := Lib.hid (HOu5.out.trans hu6)
        have CH8 := Lib.hid (CH7.out.on hu6)
        have AH8 := Lib.hid (AH7.out.on hu6)
        have BH8 := Lib.hid (BH7.out.on hu6)
        clear hu6
        go_upto_region 9 with fail
        obtain ⟨Ac0, Ac1, Ac2, Ac3, Ac4⟩ := AH8.out.cells5
        obtain ⟨Bc0, Bc1, Bc2, Bc3, Bc4⟩ := BH8.out.cells5
        have hq := HEQ.out F2 Z2
        have hb1 : (B2 != B2) = false := by cases B2 <;> rfl
        have hb2 : (D2 != D2) = false := by cases D2 <;> rfl
        go_wp2
        go_roundw
        case rel => exact ⟨2, by omega, by go_num, CH8.out, HOu6.out⟩
        case measure => simp [intOf]
      · obtain ⟨F2, Z2, B2, hP1, hP2⟩ := HGRI.out 3
        have HP1 := Lib.hid hP1
        have HP2 := Lib.hid hP2
        obtain ⟨I2, D2, hP3, hP4⟩ := HSEA.out 3
        have HP3 := Lib.hid hP3
        have HP4 := Lib.hid hP4
        clear hP1 hP2 hP3 hP4
        have hix : ∀ w, (Instr.index 33 (.agg #[.int .i64 x2, .int .i64 1, .int .i64 3]) (.int .i64 2)).run Tryd.prog w = .ok (.int .i64 3) w := fun _ => by kernel_rfl
        obtain ⟨Cc0, Cc1, Cc2, Cc3, Cc4⟩ := HCr.out.cells5
        go_wp2_with fail
        with_reducible refine (HP1.out _ (HOr.out).tab).mono ?_
        rintro e u1 ⟨rfl, hu1⟩
        clear Cc0 Cc1 Cc2 Cc3 Cc4
        have HOu1 := Lib.hid (HOr.out.trans hu1)
        have CH1 := Lib.hid (HCr.out.on hu1)
        clear hu1
        clear hix
        go_upto_region 6 with fail
        have AH20 : Hid (VB u1.heap.size (u1.alloc (.cells #[.int .i64 F2, .int .u64 (Z2.a : Int), .int .u64 (Z2.b : Int), .int .u64 (Z2.c : Int), .int .u64 (Z2.d : Int)] 25)) (chL F2 Z2)) := vb_new _ _ _
        have HAu2 : Hid (On u1 (u1.alloc (.cells #[.int .i64 F2, .int .u64 (Z2.a : Int), .int .u64 (Z2.b : Int), .int .u64 (Z2.c : Int), .int .u64 (Z2.d : Int)] 25))) := (On.refl HOu1.out.tab).alloc _
        have HOu2 := Lib.hid (HOu1.out.trans HAu2.out)
        have CH3 := Lib.hid (CH1.out.on HAu2.out)
        generalize u1.alloc (.cells #[.int .i64 F2, .int .u64 (Z2.a : Int), .int .u64 (Z2.b : Int), .int .u64 (Z2.c : Int), .int .u64 (Z2.d : Int)] 25) = u2 at *
        clear HAu2
        obtain ⟨Cc0, Cc1, Cc2, Cc3, Cc4⟩ := CH3.out.cells5
        go_wp2_with fail
        with_reducible refine (HP2.out _ (HOu2.out).tab).mono ?_
        rintro e u3 ⟨rfl, hu3⟩
        clear Cc0 Cc1 Cc2 Cc3 Cc4
        have HOu3 := Lib.hid (HOu2.out.trans hu3)
        have CH4 := Lib.hid (CH3.out.on hu3)
        have AH4 := Lib.hid (AH20.out.on hu3)
        clear hu3
        go_upto_region 7 with fail
        have BH50 : Hid (VB u3.heap.size (u3.alloc (.cells #[.int .i64 F2, .int .u64 (Z2.a : Int), .int .u64 (Z2.b : Int), .int .u64 (Z2.c : Int), .int .u64 (Z2.d : Int)] 25)) (chL F2 Z2)) := vb_new _ _ _
        have HAu4 : Hid (On u3 (u3.alloc (.cells #[.int .i64 F2, .int .u64 (Z2.a : Int), .int .u64 (Z2.b : Int), .int .u64 (Z2.c : Int), .int .u64 (Z2.d : Int)] 25))) := (On.refl HOu3.out.tab).alloc _
        have HOu4 := Lib.hid (HOu3.out.trans HAu4.out)
        have CH6 := Lib.hid (CH4.out.on HAu4.out)
        have AH6 := Lib.hid (AH4.out.on HAu4.out)
        generalize u3.alloc (.cells #[.int .i64 F2, .int .u64 (Z2.a : Int), .int .u64 (Z2.b : Int), .int .u64 (Z2.c : Int), .int .u64 (Z2.d : Int)] 25) = u4 at *
        clear HAu4
        obtain ⟨Cc0, Cc1, Cc2, Cc3, Cc4⟩ := CH6.out.cells5
        go_wp2_with fail
        with_reducible refine (HP3.out _ (HOu4.out).tab).mono ?_
        rintro e u5 ⟨rfl, hu5⟩
        clear Cc0 Cc1 Cc2 Cc3 Cc4
        have HOu5 := Lib.hid (HOu4.out.trans hu5)
        have CH7 := Lib.hid (CH6.out.on hu5)
        have AH7 := Lib.hid (AH6.out.on hu5)
        have BH7 := Lib.hid (BH50.out.on hu5)
        clear hu5
        go_upto_region 8 with fail
        obtain ⟨Cc0, Cc1, Cc2, Cc3, Cc4⟩ := CH7.out.cells5
        go_wp2_with fail
        with_reducible refine (HP4.out _ (HOu5.out).tab).mono ?_
        rintro e u6 ⟨rfl, hu6⟩
        clear Cc0 Cc1 Cc2 Cc3 Cc4
        have HOu6 := Lib.hid (HOu5.out.trans hu6)
        have CH8 := Lib.hid (CH7.out.on hu6)
        have AH8 := Lib.hid (AH7.out.on hu6)
        have BH8 := Lib.hid (BH7.out.on hu6)
        clear hu6
        go_upto_region 9 with fail
        obtain ⟨Ac0, Ac1, Ac2, Ac3, Ac4⟩ := AH8.out.cells5
        obtain ⟨Bc0, Bc1, Bc2, Bc3, Bc4⟩ := BH8.out.cells5
        have hq := HEQ.out F2 Z2
        have hb1 : (B2 != B2) = false := by cases B2 <;> rfl
        have hb2 : (D2 != D2) = false := by cases D2 <;> rfl
        go_wp2
        go_roundw
        case rel => exact ⟨3, by omega, by go_num, CH8.out, HOu6.out⟩
        case measure => simp [intOf]
    · obtain rfl : k = 3 := by omega
      go_wp2_with fail
      with_reducible refine (HLV.out _ HOr.out.tab).mono ?_
      rintro e wz ⟨rfl, hwz⟩
      go_wp2
      go_ret
      exact ⟨rfl, HOr.out.trans hwz⟩
end Go.Proofs.YtcbmeegmdgllkaaDoor
